/- Several texts of this proof, one behind the other: each says ahead of it what it shows and under which conditions. -/
import Derived.Test.YtidfgfgokcflfaaGreatPW3
import Derived.Test.YtidfgfgokcflfaaGreatSeqHeld
import Derived.Test.YtidfgfgokcflfaaGreatPW2
import Derived.Test.YtidfgfgokcflfaaGreatRowsIn
import Derived.Test.YtidfgfgokcflfaaGreatSeqEq
import Derived.Deep.DeepCutAuto
/- Contracts of the program's longestWithPeriod, greatestExponents, isOverlap, compare, lowestTerms, HasOverlap, HasPower, HasSquare, GreatestExponent and ExponentOf. No conditions beyond those that each states. -/
namespace Go.Proofs.YtidfgfgokcflfaaGreat
open Go.ChangeShapes Go.WideShapes Go.ChangeAt Go.RowKit
open Go.PlainAid Plain
set_option linter.unusedVariables false
namespace Fac
set_option maxHeartbeats 2000000 in
theorem long (v : Value) (u : List Int) (p : Nat) (w : World) (h : Lies (Value.int .i64) w v u) (hs : u.length ≤ 4194304) (hp : 0 < p) (hpl : p ≤ u.length) :
    Calls Tryz.prog 48 #[v, .int .i64 p] w fun e w' => e = .returned (.int .i64 (lg u p)) ∧ Below w.heap.size w w' := by
  obtain ⟨pa, pc, rfl⟩ := lies_shape h
  have HU := Lib.hid h
  clear h
  go_enter Tryz.func48, Tryz.ntmps48
  go_wp2
  go_loopw [5, 6, 7] (fun l' g' i' wr => ∃ k l g i : Nat, i = p + k ∧ i ≤ u.length ∧ l ≤ u.length ∧ g ≤ u.length ∧ l' = .int .i64 l ∧ g' = .int .i64 g ∧ i' = .int .i64 i ∧ Hid (lgT u p k = (l, g)) ∧ Hid (Below w.heap.size w wr)) (fun _ _ i' _ => u.length - (intOf i').toNat)
  case atStart => exact ⟨0, p, p, p, rfl, hpl, hpl, hpl, rfl, rfl, rfl, rfl, Below.refl _ _⟩
  case round =>
    obtain ⟨k, l, g, i, hi, hil, hll, hgl, rfl, rfl, rfl, HT, HB⟩ := hrel
    by_cases hlt : i < u.length
    · have e2 : (i : Int) - (p : Int) = (k : Int) := by omega
      obtain ⟨x, hx⟩ : ∃ x, u[i]? = some x := ⟨_, List.getElem?_eq_getElem hlt⟩
      obtain ⟨y, hy⟩ : ∃ y, u[k]? = some y := ⟨_, List.getElem?_eq_getElem (by omega)⟩
      obtain ⟨q, r, hpa, hc1⟩ := lies_cell (HU.out.below HB.out) hx
      subst hpa
      obtain ⟨_, _, hpa, hc2⟩ := lies_cell (HU.out.below HB.out) hy
      cases hpa
      have hkl : k < u.length := by omega
      have hx2 := hx
      rw [hi] at hx2
      have hle := lgT_le (u := u) (p := p) (k := k + 1) (by omega)
      have HI := Lib.hid hi
      by_cases hxy : x = y
      · have hT := lgT_yes hx2 hy hxy
        rw [HT.out] at hT
        rw [hT] at hle
        have HT2 := Lib.hid hT
        have hd : (x == y) = true := by simpa using hxy
        have hl1 := hle.2.1
        have HLE := Lib.hid hle
        clear hx hy hx2 hxy hi hT hle
        go_wp2_with fail
        go_quiet (fail)
        go_wp2
        go_roundw
        case rel => exact ⟨k + 1, l + 1, max g (l + 1), i + 1, by have := HI.out; omega, by omega, hl1, HLE.out.2.2.2, by go_num, congrArg (Value.int .i64) (by omega), by go_num, HT2, Lib.hid (below_drewN HB.out _)⟩
        case measure => simp [intOf]; omega
      · have hT := lgT_no hx2 hy hxy
        rw [HT.out] at hT
        rw [hT] at hle
        have HT2 := Lib.hid hT
        have hd : (x == y) = false := by simpa using hxy
        have hl1 := hle.2.1
        have HLE := Lib.hid hle
        clear hx hy hx2 hxy hi hT hle
        go_wp2_with fail
        go_quiet (fail)
        go_wp2
        go_roundw
        case rel => exact ⟨k + 1, p, max g p, i + 1, by have := HI.out; omega, by omega, hl1, HLE.out.2.2.2, rfl, congrArg (Value.int .i64) (by omega), by go_num, HT2, Lib.hid (below_drewN HB.out _)⟩
        case measure => simp [intOf]; omega
    · have HE : Hid (g = lg u p) := by
        show _ = (lgT u p (u.length - p)).2
        rw [show u.length - p = k from by omega, HT.out]
      go_wp2
      go_ret
      exact ⟨ret_i (by rw [← HE.out]), HB.out⟩
def exL (l : List (Nat × Nat)) : List (List Int) := l.map fun e => [(e.1 : Int), (e.2 : Int)]
theorem exL_append (l m : List (Nat × Nat)) : exL (l ++ m) = exL l ++ exL m := by simp [exL]
theorem exL_len (l : List (Nat × Nat)) : (exL l).length = l.length := by simp [exL]
theorem exL_at {l : List (Nat × Nat)} {i : Nat} {e : Nat × Nat} (h : l[i]? = some e) : (exL l)[i]? = some [(e.1 : Int), (e.2 : Int)] := by simp [exL, h]
theorem infoE : (Tryz.prog.info? 47).map (fun i => (i.zero, i.size, i.bytes)) = some (some (.agg #[.int .i64 0, .int .i64 0]), 2, 16) := by kernel_rfl
set_option maxRecDepth 100000 in
set_option maxHeartbeats 2000000 in
theorem exps_I (v : Value) (u : List Int) (w : World) (h : Lies (Value.int .i64) w v u) (hs : u.length ≤ 1000) :
    Calls Tryz.prog 29 #[v] w (GivesT 47 2 (exL (exps u u.length)) w) := by
  obtain ⟨i0, hi, hz0, hz1, hz2⟩ := info_parts infoE
  obtain ⟨pa, pc, rfl⟩ := lies_shape h
  have HU := Lib.hid h
  clear h
  go_enter Tryz.func29, Tryz.ntmps29
  go_wp2
  go_loopw [3, 4] (fun o' p' wr => ∃ (P : Nat) (vo : Value), 0 < P ∧ P ≤ u.length + 1 ∧ vo = o' ∧ p' = .int .i64 P ∧ Hid (OwnT 47 2 wr w.heap.size vo (exL (exps u (P - 1)))) ∧ Hid (Below w.heap.size w wr)) (fun _ p' _ => u.length + 1 - (intOf p').toNat)
  case atStart => exact ⟨1, _, by omega, by omega, rfl, rfl, OwnT.nil _ _, Below.refl _ _⟩
  case round =>
    obtain ⟨P, vo, hP, hPl, rfl, rfl, HOr, HBr⟩ := hrel
    obtain ⟨oa, oc, hvo, _⟩ := HOr.out.form
    have hll : (exL (exps u (P - 1))).length ≤ 1000 := by rw [exL_len, exps_len]; omega
    have HL := Lib.hid hll
    subst hvo
    by_cases hin : P ≤ u.length
    · have HM := Lib.hid (long _ u P wr (HU.out.below HBr.out) (by omega) hP hin)
      have HN : Hid (exL (exps u (P - 1)) ++ [[(lg u P : Int), (P : Int)]] = exL (exps u (P + 1 - 1))) := by
        show _ = _
        obtain ⟨k, rfl⟩ : ∃ k, P = k + 1 := ⟨P - 1, by omega⟩
        rw [Nat.add_sub_cancel, Nat.add_sub_cancel, exps_succ, exL_append]
        rfl
      obtain ⟨m, hm⟩ : ∃ m, m = lg u P := ⟨_, rfl⟩
      rw [← hm] at HM HN
      clear hm hll
      go_wp2_with (first | (go_at_call 48; refine HM.out.mono ?_; rintro e W1 ⟨rfl, b1⟩; have HO1 := Lib.hid (HOr.out.below b1); have HB1 := Lib.hid (HBr.out.trans (b1.mono HBr.out.size)); clear b1) | (at_builtin; refine append_t (e := 47) (k := 2) rfl _ _ 45 rfl i0 _ 16 Tryz.underlying45 hi hz0 hz1 hz2 rfl (by omega) _ rfl HO1.out [(m : Int), (P : Int)] rfl _ rfl rfl _ rfl (by have := HL.out; omega) (by omega) HB1.out.size ?_; intro v2 w2 ho hg; have HO2 := Lib.hid ho; have HB2 := Lib.hid (HO1.out.frame HB1.out (Nat.le_refl _) hg); clear ho hg))
      go_roundw
      case rel => exact ⟨P + 1, _, by omega, by omega, rfl, by go_num, by rw [← HN.out]; exact HO2, HB2⟩
      case measure => simp [intOf]; omega
    · obtain rfl : P = u.length + 1 := by omega
      have HE := Lib.hid (show OwnT 47 2 wr w.heap.size _ (exL (exps u u.length)) from HOr.out)
      go_wp2
      go_ret
      exact GivesT.of HE.out HBr.out
set_option maxHeartbeats 1000000 in
theorem is_ov (e : Nat × Nat) (w : World) (h1 : e.1 ≤ 100000) (h2 : e.2 ≤ 100000) :
    Calls Tryz.prog 30 #[(.agg #[.int .i64 (e.1 : Int), .int .i64 (e.2 : Int)])] w fun en w' => en = .returned (.bool (decide (e.1 > 2 * e.2))) ∧ Below w.heap.size w w' := by
  obtain ⟨a, b⟩ := e
  have HD : Hid (decide ((a : Int) > 2 * (b : Int)) = decide (a > 2 * b)) := decide_eq_decide.2 ⟨fun e => by omega, fun e => by omega⟩
  dsimp only at h1 h2 ⊢
  go_enter Tryz.func30, Tryz.ntmps30
  go_wp2
  go_ret
  exact ⟨ret_b HD.out, (Below.refl _ _).alloc (Nat.le_refl _) _⟩
/-- What 'compare' answers. -/
def cpE (e f : Nat × Nat) : Int := Lib.compareInt ((e.1 : Int) * (f.2 : Int)) ((f.1 : Int) * (e.2 : Int))
theorem cpE_ge (e f : Nat × Nat) : decide (cpE e f ≥ 0) = decide ((e.1 : Int) * (f.2 : Int) ≥ (f.1 : Int) * (e.2 : Int)) := by
  unfold cpE Lib.compareInt
  by_cases h1 : (e.1 : Int) * (f.2 : Int) < (f.1 : Int) * (e.2 : Int)
  · rw [if_pos h1, decide_eq_false (by omega), decide_eq_false (by omega)]
  · rw [if_neg h1, decide_eq_true (p := (e.1 : Int) * (f.2 : Int) ≥ (f.1 : Int) * (e.2 : Int)) (by omega)]
    split <;> rfl
theorem cpE_gt (e f : Nat × Nat) : cpE e f > 0 ↔ e.1 * f.2 > f.1 * e.2 := by
  unfold cpE Lib.compareInt
  have h0 : ((e.1 * f.2 : Nat) : Int) = (e.1 : Int) * (f.2 : Int) := by simp
  have h9 : ((f.1 * e.2 : Nat) : Int) = (f.1 : Int) * (e.2 : Int) := by simp
  by_cases h1 : (e.1 : Int) * (f.2 : Int) < (f.1 : Int) * (e.2 : Int)
  · rw [if_pos h1]; constructor
    · intro h; omega
    · intro h; omega
  · rw [if_neg h1]
    by_cases h2 : (e.1 : Int) * (f.2 : Int) > (f.1 : Int) * (e.2 : Int)
    · rw [if_pos h2]; constructor
      · intro h; omega
      · intro h; omega
    · rw [if_neg h2]; constructor
      · intro h; omega
      · intro h; omega
theorem cpE_range (e f : Nat × Nat) : -1 ≤ cpE e f ∧ cpE e f ≤ 1 := by
  unfold cpE Lib.compareInt
  split
  · omega
  · split <;> omega
set_option maxHeartbeats 1000000 in
theorem comp (e f : Nat × Nat) (w : World) (h1 : e.1 ≤ 100000) (h2 : e.2 ≤ 100000) (h3 : f.1 ≤ 100000) (h4 : f.2 ≤ 100000) :
    Calls Tryz.prog 34 #[(.agg #[.int .i64 (e.1 : Int), .int .i64 (e.2 : Int)]), .agg #[.int .i64 (f.1 : Int), .int .i64 (f.2 : Int)]] w fun en w' => en = .returned (.int .i64 (cpE e f)) ∧ Below w.heap.size w w' := by
  have hf1 := mul_fits h1 h4
  have hf2 := mul_fits h3 h2
  have HC := Lib.hid (cmp_int ((e.1 : Int) * (f.2 : Int)) ((f.1 : Int) * (e.2 : Int)))
  have HX : Hid (Lib.compareInt ((e.1 : Int) * (f.2 : Int)) ((f.1 : Int) * (e.2 : Int)) = cpE e f) := rfl
  obtain ⟨a, b⟩ := e
  obtain ⟨c, d⟩ := f
  dsimp only at h1 h2 h3 h4 hf1 hf2 HC HX ⊢
  obtain ⟨f1, f2⟩ := hf1
  obtain ⟨f3, f4⟩ := hf2
  go_enter Tryz.func34, Tryz.ntmps34
  go_wp2_with fail
  refine (HC.out _).mono ?_
  rintro e W1 ⟨rfl, rfl⟩
  go_wp2
  go_ret
  exact ⟨ret_i HX.out, ((Below.refl _ _).alloc (Nat.le_refl _) _).alloc (by simp) _⟩
set_option maxHeartbeats 1000000 in
theorem clos (e f : Nat × Nat) (b : Nat) (w : World) (h1 : e.1 ≤ 100000) (h2 : e.2 ≤ 100000) (h3 : f.1 ≤ 100000) (h4 : f.2 ≤ 100000) (hb : CellsN w b 47 [.int .i64 (f.1 : Int), .int .i64 (f.2 : Int)]) :
    Calls Tryz.prog 42 #[(.agg #[.int .i64 (e.1 : Int), .int .i64 (e.2 : Int)]), .pointer (some ⟨b, 0, none⟩)] w fun en w' => en = .returned (.bool (decide ((e.1 : Int) * (f.2 : Int) ≥ (f.1 : Int) * (e.2 : Int)))) ∧ Below w.heap.size w w' := by
  have HX : Hid (decide (cpE e f ≥ 0) = decide ((e.1 : Int) * (f.2 : Int) ≥ (f.1 : Int) * (e.2 : Int))) := cpE_ge e f
  have HC := Lib.hid (fun W => comp e f W h1 h2 h3 h4)
  obtain ⟨z, hz⟩ : ∃ z, z = cpE e f := ⟨_, rfl⟩
  rw [← hz] at HX HC
  clear hz
  obtain ⟨a, c⟩ := e
  obtain ⟨n, d⟩ := f
  dsimp only at h1 h2 h3 h4 hb HC HX ⊢
  have hbl := hb.lt
  have hb2 := hb.below ((Below.refl w.heap.size w).alloc (Nat.le_refl _) (.cells #[.int .i64 (a : Int), .int .i64 (c : Int)] 47))
  have c0 := hb2.at_ (i := 0) rfl
  have c1 := hb2.at_ (i := 1) rfl
  clear hb hb2
  go_enter Tryz.func42, Tryz.ntmps42
  go_wp2_with fail
  refine (HC.out _).mono ?_
  rintro e W1 ⟨rfl, b1⟩
  have HB : Hid (Below w.heap.size w W1) := ((Below.refl _ _).alloc (Nat.le_refl _) _).trans (b1.mono (by simp))
  clear b1
  go_wp2
  go_ret
  exact ⟨ret_b HX.out, HB.out⟩
set_option maxHeartbeats 2000000 in
theorem index_ov (v : Value) (L : List (Nat × Nat)) (cap : Array Value) (p : Nat × Nat → Bool) (base : Nat) (w : World) (h : OwnT 47 2 w base v (exL L))
    (hp : Hid (∀ e ∈ L, ∀ W, Below w.heap.size w W → Calls Tryz.prog 30 (#[(.agg #[.int .i64 (e.1 : Int), .int .i64 (e.2 : Int)])] ++ cap) W fun en w' => en = .returned (.bool (p e)) ∧ Below W.heap.size W w')) :
    Calls Tryz.prog 47 #[v, .func (.func 30) #[] cap] w fun e w' => ∃ r : Int, e = .returned (.int .i64 r) ∧ decide (r ≥ 0) = L.any p ∧ -1 ≤ r ∧ r ≤ 9223372036854775807 ∧ Below w.heap.size w w' := by
  have eg : ∀ args w, (callFunc 30 args).run Tryz.prog w = .ok (.enter 30 args) w := enters_of Tryz.func30 (by kernel_rfl) rfl
  obtain ⟨a, c, rfl, hag⟩ := h.form
  have hsm := h.small
  have HO := Lib.hid h
  have HG := Lib.hid hag
  rw [exL_len] at hsm ⊢
  clear h hag
  go_enter Tryz.func47, Tryz.ntmps47
  go_wp2
  go_loopw [8] (fun i' wr => ∃ i : Nat, i ≤ L.length ∧ i' = .int .i64 i ∧ Hid (∀ (j : Nat) (y : Nat × Nat), j < i → L[j]? = some y → p y = false) ∧ Hid (Below w.heap.size w wr)) (fun i' _ => L.length - (intOf i').toNat)
  case atStart => exact ⟨0, Nat.zero_le _, rfl, fun j x h => by omega, Below.refl _ _⟩
  case round =>
    obtain ⟨i, hi, rfl, HI, HB⟩ := hrel
    by_cases hlt : i < L.length
    · obtain ⟨e, he⟩ : ∃ x, L[i]? = some x := ⟨_, List.getElem?_eq_getElem hlt⟩
      obtain ⟨g, rfl⟩ := HG.out (by rw [exL_len]; omega)
      have HO1 := HO.out.below HB.out
      have p0 := HO1.cell (j := 0) (exL_at he) rfl
      have p1 := HO1.cell (j := 1) (exL_at he) rfl
      rw [Nat.add_zero] at p0
      have HX := Lib.hid he
      have HP := Lib.hid (hp.out e (List.mem_of_getElem? he) wr HB.out)
      obtain ⟨t, ht⟩ : ∃ c, c = p e := ⟨_, rfl⟩
      rw [← ht] at HP
      have HCC := Lib.hid ht
      clear ht he HO1
      obtain ⟨ea, eb⟩ := e
      dsimp only at p0 p1 HP
      have hil : (i : Int) < (L.length : Int) := by omega
      cases t with
      | true =>
        have HE : Hid (true = L.any p) := (List.any_eq_true.2 ⟨_, List.mem_of_getElem? HX.out, HCC.out.symm⟩).symm
        have hge := decide_eq_true (show (i : Int) ≥ 0 by omega)
        go_wp2_with (go_at_fn 30; refine HP.out.mono ?_; rintro e w' ⟨rfl, b1⟩; have HB1 := Lib.hid (HB.out.trans (b1.mono HB.out.size)); clear b1)
        go_ret
        exact ⟨_, rfl, hge.trans HE.out, by omega, by omega, HB1.out⟩
      | false =>
        have HN : Hid (∀ (j : Nat) (y : Nat × Nat), j < i + 1 → L[j]? = some y → p y = false) := fun j y hj hy => by
          by_cases e : j = i
          · subst e
            obtain rfl := Option.some.inj (HX.out.symm.trans hy)
            exact HCC.out.symm
          · exact HI.out j y (by omega) hy
        go_wp2_with (go_at_fn 30; refine HP.out.mono ?_; rintro e w' ⟨rfl, b1⟩; have HB1 := Lib.hid (HB.out.trans (b1.mono HB.out.size)); clear b1)
        go_roundw
        case rel => exact ⟨i + 1, by omega, by go_num, HN, HB1⟩
        case measure => simp [intOf]; omega
    · have HE : Hid (false = L.any p) := by
        show _ = _
        rw [eq_comm, ← Bool.not_eq_true, List.any_eq_true]
        rintro ⟨x, hx, hpx⟩
        obtain ⟨j, hj⟩ := List.getElem?_of_mem hx
        rw [HI.out j x (by have := (List.getElem?_eq_some_iff.1 hj).1; omega) hj] at hpx
        cases hpx
      go_wp2
      go_ret
      exact ⟨_, rfl, HE.out, by omega, by omega, HB.out⟩
theorem any_ov (v : Value) (L : List (Nat × Nat)) (cap : Array Value) (p : Nat × Nat → Bool) (base : Nat) (w : World) (h : OwnT 47 2 w base v (exL L))
    (hp : Hid (∀ e ∈ L, ∀ W, Below w.heap.size w W → Calls Tryz.prog 30 (#[(.agg #[.int .i64 (e.1 : Int), .int .i64 (e.2 : Int)])] ++ cap) W fun en w' => en = .returned (.bool (p e)) ∧ Below W.heap.size W w')) :
    Calls Tryz.prog 28 #[v, .func (.func 30) #[] cap] w fun e w' => e = .returned (.bool (L.any p)) ∧ Below w.heap.size w w' := by
  have HL := Lib.hid h
  clear h
  go_enter Tryz.func28, Tryz.ntmps28
  go_wp2_with fail
  refine (index_ov v L cap p base w HL.out hp).mono ?_
  rintro e w' ⟨r, rfl, hr, h1, h2, b⟩
  have HR := Lib.hid hr
  have HB := Lib.hid b
  clear hr b
  go_wp2
  go_ret
  exact ⟨ret_b HR.out, HB.out⟩
set_option maxHeartbeats 2000000 in
theorem index_pow (v : Value) (L : List (Nat × Nat)) (cap : Array Value) (p : Nat × Nat → Bool) (base : Nat) (w : World) (h : OwnT 47 2 w base v (exL L))
    (hp : Hid (∀ e ∈ L, ∀ W, Below w.heap.size w W → Calls Tryz.prog 42 (#[(.agg #[.int .i64 (e.1 : Int), .int .i64 (e.2 : Int)])] ++ cap) W fun en w' => en = .returned (.bool (p e)) ∧ Below W.heap.size W w')) :
    Calls Tryz.prog 47 #[v, .func (.func 42) #[] cap] w fun e w' => ∃ r : Int, e = .returned (.int .i64 r) ∧ decide (r ≥ 0) = L.any p ∧ -1 ≤ r ∧ r ≤ 9223372036854775807 ∧ Below w.heap.size w w' := by
  have eg : ∀ args w, (callFunc 42 args).run Tryz.prog w = .ok (.enter 42 args) w := enters_of Tryz.func42 (by kernel_rfl) rfl
  obtain ⟨a, c, rfl, hag⟩ := h.form
  have hsm := h.small
  have HO := Lib.hid h
  have HG := Lib.hid hag
  rw [exL_len] at hsm ⊢
  clear h hag
  go_enter Tryz.func47, Tryz.ntmps47
  go_wp2
  go_loopw [8] (fun i' wr => ∃ i : Nat, i ≤ L.length ∧ i' = .int .i64 i ∧ Hid (∀ (j : Nat) (y : Nat × Nat), j < i → L[j]? = some y → p y = false) ∧ Hid (Below w.heap.size w wr)) (fun i' _ => L.length - (intOf i').toNat)
  case atStart => exact ⟨0, Nat.zero_le _, rfl, fun j x h => by omega, Below.refl _ _⟩
  case round =>
    obtain ⟨i, hi, rfl, HI, HB⟩ := hrel
    by_cases hlt : i < L.length
    · obtain ⟨e, he⟩ : ∃ x, L[i]? = some x := ⟨_, List.getElem?_eq_getElem hlt⟩
      obtain ⟨g, rfl⟩ := HG.out (by rw [exL_len]; omega)
      have HO1 := HO.out.below HB.out
      have p0 := HO1.cell (j := 0) (exL_at he) rfl
      have p1 := HO1.cell (j := 1) (exL_at he) rfl
      rw [Nat.add_zero] at p0
      have HX := Lib.hid he
      have HP := Lib.hid (hp.out e (List.mem_of_getElem? he) wr HB.out)
      obtain ⟨t, ht⟩ : ∃ c, c = p e := ⟨_, rfl⟩
      rw [← ht] at HP
      have HCC := Lib.hid ht
      clear ht he HO1
      obtain ⟨ea, eb⟩ := e
      dsimp only at p0 p1 HP
      have hil : (i : Int) < (L.length : Int) := by omega
      cases t with
      | true =>
        have HE : Hid (true = L.any p) := (List.any_eq_true.2 ⟨_, List.mem_of_getElem? HX.out, HCC.out.symm⟩).symm
        have hge := decide_eq_true (show (i : Int) ≥ 0 by omega)
        go_wp2_with (go_at_fn 42; refine HP.out.mono ?_; rintro e w' ⟨rfl, b1⟩; have HB1 := Lib.hid (HB.out.trans (b1.mono HB.out.size)); clear b1)
        go_ret
        exact ⟨_, rfl, hge.trans HE.out, by omega, by omega, HB1.out⟩
      | false =>
        have HN : Hid (∀ (j : Nat) (y : Nat × Nat), j < i + 1 → L[j]? = some y → p y = false) := fun j y hj hy => by
          by_cases e : j = i
          · subst e
            obtain rfl := Option.some.inj (HX.out.symm.trans hy)
            exact HCC.out.symm
          · exact HI.out j y (by omega) hy
        go_wp2_with (go_at_fn 42; refine HP.out.mono ?_; rintro e w' ⟨rfl, b1⟩; have HB1 := Lib.hid (HB.out.trans (b1.mono HB.out.size)); clear b1)
        go_roundw
        case rel => exact ⟨i + 1, by omega, by go_num, HN, HB1⟩
        case measure => simp [intOf]; omega
    · have HE : Hid (false = L.any p) := by
        show _ = _
        rw [eq_comm, ← Bool.not_eq_true, List.any_eq_true]
        rintro ⟨x, hx, hpx⟩
        obtain ⟨j, hj⟩ := List.getElem?_of_mem hx
        rw [HI.out j x (by have := (List.getElem?_eq_some_iff.1 hj).1; omega) hj] at hpx
        cases hpx
      go_wp2
      go_ret
      exact ⟨_, rfl, HE.out, by omega, by omega, HB.out⟩
theorem any_pow (v : Value) (L : List (Nat × Nat)) (cap : Array Value) (p : Nat × Nat → Bool) (base : Nat) (w : World) (h : OwnT 47 2 w base v (exL L))
    (hp : Hid (∀ e ∈ L, ∀ W, Below w.heap.size w W → Calls Tryz.prog 42 (#[(.agg #[.int .i64 (e.1 : Int), .int .i64 (e.2 : Int)])] ++ cap) W fun en w' => en = .returned (.bool (p e)) ∧ Below W.heap.size W w')) :
    Calls Tryz.prog 28 #[v, .func (.func 42) #[] cap] w fun e w' => e = .returned (.bool (L.any p)) ∧ Below w.heap.size w w' := by
  have HL := Lib.hid h
  clear h
  go_enter Tryz.func28, Tryz.ntmps28
  go_wp2_with fail
  refine (index_pow v L cap p base w HL.out hp).mono ?_
  rintro e w' ⟨r, rfl, hr, h1, h2, b⟩
  have HR := Lib.hid hr
  have HB := Lib.hid b
  clear hr b
  go_wp2
  go_ret
  exact ⟨ret_b HR.out, HB.out⟩
theorem exps_small {u : List Int} (h : u.length ≤ 128) {e : Nat × Nat} (he : e ∈ exps u u.length) : e.1 ≤ 100000 ∧ e.2 ≤ 100000 := by
  obtain ⟨h1, h2, h3⟩ := exps_mem he
  have := lg_le h2
  omega
set_option maxHeartbeats 1000000 in
theorem impl_ov (v : Value) (u : List Int) (w : World) (h : Lies (Value.int .i64) w v u) (hs : u.length ≤ 4194304) :
    Calls Tryz.prog 10 #[v] w fun e w' => e = .returned (.bool (ovB u)) ∧ Below w.heap.size w w' := by
  obtain ⟨pa, pc, rfl⟩ := lies_shape h
  have HU := Lib.hid h
  clear h
  by_cases hL : u.length ≤ 128
  · rw [ov_in hL]
    have hLd := decide_eq_true (show (u.length : Int) ≤ 128 by omega)
    have HC := Lib.hid (exps_I _ u w HU.out (by omega))
    have HS : Hid (∀ e ∈ exps u u.length, e.1 ≤ 100000 ∧ e.2 ≤ 100000) := fun e he => exps_small hL he
    go_enter Tryz.func10, Tryz.ntmps10
    go_wp2_with (first | (go_at_call 29; refine HC.out.mono ?_; rintro e W1 ⟨vb, rfl, hv, b1⟩; have HV := Lib.hid hv.1; have HB1 := Lib.hid b1; clear hv b1) | (go_at_call 28; refine (any_ov vb (exps u u.length) #[] (fun e => decide (e.1 > 2 * e.2)) _ W1 HV.out (fun e he W hW => is_ov e W (HS.out e he).1 (HS.out e he).2)).mono ?_; rintro e W2 ⟨rfl, b2⟩; have HB2 := Lib.hid (HB1.out.trans (b2.mono HB1.out.size)); clear b2))
    go_ret
    exact ⟨rfl, HB2.out⟩
  · rw [ov_out hL]
    go_enter Tryz.func10, Tryz.ntmps10
    go_wp2
    go_ret
    exact ⟨rfl, Below.refl _ _⟩
set_option maxHeartbeats 2000000 in
theorem impl_pow (v : Value) (u : List Int) (num den : Int) (w : World) (h : Lies (Value.int .i64) w v u) (hs : u.length ≤ 4194304) :
    Calls Tryz.prog 22 #[v, .int .i64 num, .int .i64 den] w fun e w' => e = .returned (.bool (powB u num den)) ∧ Below w.heap.size w w' := by
  obtain ⟨pa, pc, rfl⟩ := lies_shape h
  have HU := Lib.hid h
  clear h
  by_cases hc : u.length ≤ 128 ∧ 2 ≤ num ∧ num ≤ 20 ∧ 1 ≤ den ∧ den < num
  · rw [pow_in hc]
    obtain ⟨hL, h1, h2, h3, h4⟩ := hc
    obtain ⟨N, rfl⟩ : ∃ N : Nat, num = N := ⟨num.toNat, by omega⟩
    obtain ⟨D, rfl⟩ : ∃ D : Nat, den = D := ⟨den.toNat, by omega⟩
    have HS : Hid (∀ e ∈ exps u u.length, e.1 ≤ 100000 ∧ e.2 ≤ 100000) := fun e he => exps_small hL he
    go_enter Tryz.func22, Tryz.ntmps22
    go_upto_region 4 with (fail)
    obtain ⟨W0, hW0⟩ : ∃ W, W = w.alloc (.cells #[.int .i64 (N : Int), .int .i64 (D : Int)] 47) := ⟨_, rfl⟩
    have hcb : CellsN W0 w.heap.size 47 [.int .i64 ((N, D) : Nat × Nat).1, .int .i64 ((N, D) : Nat × Nat).2] := by
      rw [hW0]
      exact CellsN.new w 47 [.int .i64 (N : Int), .int .i64 (D : Int)]
    have hb0 : Below w.heap.size w W0 := by
      rw [hW0]
      exact (Below.refl _ _).alloc (Nat.le_refl _) _
    rw [← hW0]
    have HCB := Lib.hid hcb
    have HB0 := Lib.hid hb0
    have HC := Lib.hid (exps_I _ u W0 (HU.out.below hb0) (by omega))
    clear hW0 hcb hb0
    go_wp2_with (first | (go_at_call 29; refine HC.out.mono ?_; rintro e W1 ⟨vb, rfl, hv, b1⟩; have HV := Lib.hid hv.1; have HB1 := Lib.hid b1; clear hv b1) | (go_at_call 28; refine (any_pow vb (exps u u.length) #[.pointer (some ⟨w.heap.size, 0, none⟩)] (fun e => decide ((e.1 : Int) * D ≥ N * (e.2 : Int))) _ W1 HV.out (fun e he W hW => clos e (N, D) w.heap.size W (HS.out e he).1 (HS.out e he).2 (by show N ≤ _; omega) (by show D ≤ _; omega) ((HCB.out.below HB1.out).below hW))).mono ?_; rintro e W2 ⟨rfl, b2⟩; have HB2 := Lib.hid (HB0.out.trans ((HB1.out.trans (b2.mono HB1.out.size)).mono HB0.out.size)); clear b2))
    go_ret
    exact ⟨rfl, HB2.out⟩
  · rw [pow_out hc]
    by_cases c1 : u.length ≤ 128
    · by_cases c2 : 2 ≤ num
      · by_cases c3 : num ≤ 20
        · by_cases c4 : 1 ≤ den
          · have c5 : ¬ den < num := fun h => hc ⟨c1, c2, c3, c4, h⟩
            clear hc
            go_enter Tryz.func22, Tryz.ntmps22
            go_wp2
            go_ret
            exact ⟨rfl, Below.refl _ _⟩
          · clear hc
            go_enter Tryz.func22, Tryz.ntmps22
            go_wp2
            go_ret
            exact ⟨rfl, Below.refl _ _⟩
        · clear hc
          go_enter Tryz.func22, Tryz.ntmps22
          go_wp2
          go_ret
          exact ⟨rfl, Below.refl _ _⟩
      · clear hc
        go_enter Tryz.func22, Tryz.ntmps22
        go_wp2
        go_ret
        exact ⟨rfl, Below.refl _ _⟩
    · clear hc
      go_enter Tryz.func22, Tryz.ntmps22
      go_wp2
      go_ret
      exact ⟨rfl, Below.refl _ _⟩
theorem impl_hsq (v : Value) (u : List Int) (w : World) (h : Lies (Value.int .i64) w v u) (hs : u.length ≤ 4194304) :
    Calls Tryz.prog 8 #[v] w fun e w' => e = .returned (.bool (powB u 2 1)) ∧ Below w.heap.size w w' := by
  have HC := Lib.hid (impl_pow v u 2 1 w h hs)
  go_enter Tryz.func8, Tryz.ntmps8
  go_wp2_with fail
  refine HC.out.mono ?_
  rintro e W1 ⟨rfl, b1⟩
  have HB := Lib.hid b1
  clear b1
  go_wp2
  go_ret
  exact ⟨rfl, HB.out⟩
end Fac
end Go.Proofs.YtidfgfgokcflfaaGreat
/- Contracts of GreatestExponent and ExponentOf, of the model and of the program, and of the program's SquaresOf. No conditions beyond those that each states. -/
namespace Go.Proofs.YtidfgfgokcflfaaGreat
open Go.ChangeShapes Go.WideShapes Go.ChangeAt Go.RowKit
open Go.PlainAid Plain
set_option linter.unusedVariables false
namespace Fac
theorem ret_ii {a b c d : Int} (h : a = b) (k : c = d) : Ending.returned (.tuple #[.int .i64 a, .int .i64 c]) = Ending.returned (.tuple #[.int .i64 b, .int .i64 d]) := by rw [h, k]
theorem div_facts {n g : Nat} (h : 0 < g) : ((n : Int) / (g : Int) = ((n / g : Nat) : Int)) ∧ ((n : Int).tdiv (g : Int) = ((n / g : Nat) : Int)) := ⟨rfl, rfl⟩
set_option maxHeartbeats 4000000 in
theorem low (e : Nat × Nat) (w : World) (h1 : e.1 ≤ 4194304) (h2 : e.2 ≤ 4194304) (h0 : 0 < e.2) :
    Calls Tryz.prog 35 #[.agg #[.int .i64 (e.1 : Int), .int .i64 (e.2 : Int)]] w fun en w' => en = .returned (.tuple #[.int .i64 ((e.1 / Nat.gcd e.1 e.2 : Nat) : Int), .int .i64 ((e.2 / Nat.gcd e.1 e.2 : Nat) : Int)]) ∧ Below w.heap.size w w' := by
  obtain ⟨a, b⟩ := e
  dsimp only at h1 h2 h0 ⊢
  have hgp : 0 < Nat.gcd a b := Nat.gcd_pos_of_pos_right _ h0
  have hgl : Nat.gcd a b ≤ b := Nat.gcd_le_right _ h0
  obtain ⟨g, hg⟩ : ∃ g, g = Nat.gcd a b := ⟨_, rfl⟩
  rw [← hg] at hgp hgl ⊢
  have HG0 : Hid (Nat.gcd a b = g) := hg.symm
  have hd1 := (div_facts (n := a) hgp).1
  have hd2 := (div_facts (n := b) hgp).1
  have hd3 := (div_facts (n := a) hgp).2
  have hd4 := (div_facts (n := b) hgp).2
  have hqa : a / g ≤ a := Nat.div_le_self _ _
  have hqb : b / g ≤ b := Nat.div_le_self _ _
  have hg0 : ((g : Int) == 0) = false := by simp; omega
  have hbn : CellsN (w.alloc (.cells #[.int .i64 (a : Int), .int .i64 (b : Int)] 47)) w.heap.size 47 [.int .i64 (a : Int), .int .i64 (b : Int)] := CellsN.new w 47 [.int .i64 (a : Int), .int .i64 (b : Int)]
  have HBN := Lib.hid hbn
  have HB0 : Hid (Below w.heap.size w (w.alloc (.cells #[.int .i64 (a : Int), .int .i64 (b : Int)] 47))) := (Below.refl _ _).alloc (Nat.le_refl _) _
  clear hbn hg
  obtain ⟨p, hp⟩ : ∃ p, p = a / g := ⟨_, rfl⟩
  obtain ⟨q, hq⟩ : ∃ q, q = b / g := ⟨_, rfl⟩
  rw [← hp] at hd1 hd3 hqa ⊢
  rw [← hq] at hd2 hd4 hqb ⊢
  clear hp hq
  go_enter Tryz.func35, Tryz.ntmps35
  go_wp2_with fail
  go_quiet (fail)
  go_wp2
  go_loopw [4, 5] (fun a' b' wr => ∃ x y : Nat, x ≤ 4194304 ∧ y ≤ 4194304 ∧ a' = .int .i64 x ∧ b' = .int .i64 y ∧ Hid (Nat.gcd x y = g) ∧ Hid (CellsN wr w.heap.size 47 [.int .i64 (a : Int), .int .i64 (b : Int)]) ∧ Hid (Below w.heap.size w wr)) (fun _ b' _ => (intOf b').toNat)
  case atStart => exact ⟨a, b, h1, h2, rfl, rfl, HG0, HBN.out.below (below_drewN (Below.refl _ _) _), below_drewN HB0.out _⟩
  case round =>
    obtain ⟨x, y, hx, hy, rfl, rfl, HG, HC, HB⟩ := hrel
    by_cases hy0 : 0 < y
    · have hb0 : ((y : Int) == 0) = false := by simp; omega
      have hm : x % y < y := Nat.mod_lt _ hy0
      obtain ⟨r, hr⟩ : ∃ r, r = x % y := ⟨_, rfl⟩
      have e1 : (x : Int) % (y : Int) = (r : Int) := by rw [hr]; rfl
      have e2 : (x : Int).tmod (y : Int) = (r : Int) := by rw [hr]; rfl
      have HG2 : Hid (Nat.gcd y r = g) := by show _ = _; rw [hr, gcd_step]; exact HG.out
      rw [← hr] at hm
      clear hr
      go_wp2_with fail
      go_quiet (fail)
      go_wp2
      go_roundw
      case rel => exact ⟨y, r, by omega, by omega, rfl, rfl, HG2, HC.out.below (below_drewN (Below.refl _ _) _), below_drewN HB.out _⟩
      case measure => simp [intOf]; omega
    · obtain rfl : y = 0 := by omega
      obtain rfl : x = g := by have := HG.out; rwa [Nat.gcd_zero_right] at this
      have c0 := HC.out.at_ (i := 0) rfl
      have c1 := HC.out.at_ (i := 1) rfl
      go_wp2_with fail
      go_quiet (fail)
      go_wp2
      go_ret2
      exact ⟨rfl, below_drewN HB.out _⟩
set_option maxHeartbeats 4000000 in
theorem maxf (v : Value) (L : List (Nat × Nat)) (base : Nat) (w : World) (h : OwnT 47 2 w base v (exL L)) (hl : 0 < L.length) (hm : ∀ e ∈ L, e.1 ≤ 100000 ∧ e.2 ≤ 100000) :
    Calls Tryz.prog 33 #[v, .func (.func 34) #[] #[]] w fun en w' => en = .returned (.agg #[.int .i64 ((mxE L).1 : Int), .int .i64 ((mxE L).2 : Int)]) ∧ Below w.heap.size w w' := by
  have eg : ∀ args w, (callFunc 34 args).run Tryz.prog w = .ok (.enter 34 args) w := enters_of Tryz.func34 (by kernel_rfl) rfl
  obtain ⟨a, c, rfl, hag⟩ := h.form
  have hsm := h.small
  obtain ⟨g, rfl⟩ := hag (by rw [exL_len]; exact hl)
  have HO := Lib.hid h
  have HM := Lib.hid hm
  rw [exL_len] at hsm ⊢
  obtain ⟨e0, he0⟩ : ∃ x, L[0]? = some x := ⟨_, List.getElem?_eq_getElem hl⟩
  have p0 := (h.below ((Below.refl w.heap.size w).alloc (Nat.le_refl _) (.cells #[.int .i64 0, .int .i64 0] 47))).cell (j := 0) (exL_at he0) rfl
  have p1 := (h.below ((Below.refl w.heap.size w).alloc (Nat.le_refl _) (.cells #[.int .i64 0, .int .i64 0] 47))).cell (j := 1) (exL_at he0) rfl
  rw [Nat.zero_mul, Nat.add_zero] at p0
  rw [Nat.zero_mul, Nat.zero_add] at p1
  have HS : Hid (mxE (L.take 1) = e0) := by
    cases L with
    | nil => simp at hl
    | cons x L => simp at he0; subst he0; rfl
  have hE0 := hm e0 (List.mem_of_getElem? he0)
  clear h hag hm he0
  obtain ⟨x0, y0⟩ := e0
  dsimp only at p0 p1 hE0
  have hl1 : ¬ L.length < 1 := by omega
  go_enter Tryz.func33, Tryz.ntmps33
  go_upto_region 4 with (fail)
  obtain ⟨W1, hW1⟩ : ∃ W, W = (w.alloc (.cells #[.int .i64 0, .int .i64 0] 47)).alloc (.cells #[.int .i64 (x0 : Int), .int .i64 (y0 : Int)] 47) := ⟨_, rfl⟩
  have hb1 : Below w.heap.size w W1 := by rw [hW1]; exact ((Below.refl _ _).alloc (Nat.le_refl _) _).alloc (by simp) _
  have hc1 : CellsN W1 w.heap.size 47 [.int .i64 0, .int .i64 0] := by rw [hW1]; exact (CellsN.new w 47 [.int .i64 0, .int .i64 0]).alloc _
  have hc2 : CellsN W1 (w.heap.size + 1) 47 [.int .i64 (x0 : Int), .int .i64 (y0 : Int)] := by
    rw [hW1]
    have := CellsN.new (w.alloc (.cells #[.int .i64 0, .int .i64 0] 47)) 47 [.int .i64 (x0 : Int), .int .i64 (y0 : Int)]
    rw [size_alloc'] at this
    exact this
  rw [← hW1]
  have HB1 := Lib.hid hb1
  have HC1 := Lib.hid hc1
  have HC2 := Lib.hid hc2
  clear hW1 hb1 hc1 hc2 p0 p1
  go_wp2
  go_loopw [6] (fun i' wr => ∃ (i x y : Nat), 0 < i ∧ i ≤ L.length ∧ i' = .int .i64 i ∧ x ≤ 100000 ∧ y ≤ 100000 ∧ Hid (mxE (L.take i) = (x, y)) ∧ Hid (CellsN wr w.heap.size 47 [.int .i64 0, .int .i64 0]) ∧ Hid (CellsN wr (w.heap.size + 1) 47 [.int .i64 (x : Int), .int .i64 (y : Int)]) ∧ Hid (Below w.heap.size w wr)) (fun i' _ => L.length - (intOf i').toNat)
  case atStart => exact ⟨1, x0, y0, by omega, by omega, rfl, hE0.1, hE0.2, HS, HC1, HC2, HB1⟩
  case round =>
    obtain ⟨i, x, y, hi0, hi, rfl, hx, hy, HX, HA, HC, HB⟩ := hrel
    by_cases hlt : i < L.length
    · obtain ⟨e, he⟩ : ∃ x, L[i]? = some x := ⟨_, List.getElem?_eq_getElem hlt⟩
      have HO1 := HO.out.below HB.out
      have p0 := HO1.cell (j := 0) (exL_at he) rfl
      have p1 := HO1.cell (j := 1) (exL_at he) rfl
      rw [Nat.add_zero] at p0
      have hE := HM.out e (List.mem_of_getElem? he)
      have HT : Hid (mxE (L.take (i + 1)) = if e.1 * y > x * e.2 then e else (x, y)) := by
        show _ = _
        rw [List.take_succ_eq_append_getElem hlt, mxE_snoc (by intro h; have h2 : (L.take i).length = 0 := (congrArg List.length h).trans rfl; rw [List.length_take] at h2; omega), HX.out]
        have e2 : L[i] = e := by rw [List.getElem?_eq_getElem hlt] at he; exact Option.some.inj he
        rw [e2]
      obtain ⟨ea, eb⟩ := e
      have c0 := HC.out.at_ (i := 0) rfl
      have c1 := HC.out.at_ (i := 1) rfl
      have f0 := HC.out.f 0
      have f1 := HC.out.f 1
      have hD : Below wr.heap.size wr wr.drew := below_drew' wr
      have HCC := Lib.hid (comp (ea, eb) (x, y) wr.drew hE.1 hE.2 hx hy)
      have HGT := cpE_gt (ea, eb) (x, y)
      have hrng := cpE_range (ea, eb) (x, y)
      obtain ⟨z, hz⟩ : ∃ z, z = cpE (ea, eb) (x, y) := ⟨_, rfl⟩
      rw [← hz] at HCC HGT hrng
      dsimp only at p0 p1 HCC HGT HT hE
      have hEa := hE.1
      have hEb := hE.2
      have hil : (i : Int) < (L.length : Int) := by omega
      clear hz he HO1 hE
      by_cases hc : z > 0
      · have HN : Hid (mxE (L.take (i + 1)) = (ea, eb)) := by have := HT.out; rw [if_pos (HGT.1 hc)] at this; exact this
        have hcd := decide_eq_true hc
        clear HGT HT
        go_wp2_with fail
        go_region_law (first | (go_simp; go_at_fn 34; (with_reducible refine HCC.out.mono ?_); rintro e W8 ⟨rfl, b8⟩; have bA : Below wr.heap.size wr W8 := hD.trans (b8.mono hD.size)))
        all_goals
          have HBA := Lib.hid bA
          have p0' := (HO.out.below (HB.out.trans (bA.mono HB.out.size)))
          have HA2 := Lib.hid (HA.out.below bA)
          have HC2 := Lib.hid (HC.out.below bA)
          have HB2 := Lib.hid (HB.out.trans (bA.mono HB.out.size))
          have q0 := (bA.cell (World.block_lt_of_cell? _ _ p0)).trans p0
          have q1 := (bA.cell (World.block_lt_of_cell? _ _ p1)).trans p1
          have g0 := HC2.out.f 0
          have g1 := HC2.out.f 1
          have k0 := HC2.out.at_ (i := 0) rfl
          have k1 := HC2.out.at_ (i := 1) rfl
          have k2 := (HC2.out.set 0 (.int .i64 (ea : Int))).at_ (i := 1) rfl
          clear p0 p1 c0 c1 f0 f1 b8 bA p0'
          go_upto_region 6 with (fail)
          have HA3 : Hid (CellsN ((W8.setCell ⟨w.heap.size + 1, 0, none⟩ (.int .i64 ea)).setCell ⟨w.heap.size + 1, 1, none⟩ (.int .i64 eb)) w.heap.size 47 [.int .i64 0, .int .i64 0]) := (HA2.out.other (by simp) _).other (by simp) _
          have HC3 : Hid (CellsN ((W8.setCell ⟨w.heap.size + 1, 0, none⟩ (.int .i64 ea)).setCell ⟨w.heap.size + 1, 1, none⟩ (.int .i64 eb)) (w.heap.size + 1) 47 [.int .i64 ea, .int .i64 eb]) := (HC2.out.set 0 _).set 1 _
          have HB3 : Hid (Below w.heap.size w ((W8.setCell ⟨w.heap.size + 1, 0, none⟩ (.int .i64 ea)).setCell ⟨w.heap.size + 1, 1, none⟩ (.int .i64 eb))) := (HB2.out.setCell (by simp) _).setCell (by simp) _
          go_wp2
          go_roundw
          case rel => exact ⟨i + 1, ea, eb, by omega, by omega, by go_num, hEa, hEb, HN, HA3, HC3, HB3⟩
          case measure => simp [intOf]; omega
      · have HN : Hid (mxE (L.take (i + 1)) = (x, y)) := by have := HT.out; rw [if_neg (fun h => hc (HGT.2 h))] at this; exact this
        have hcd := decide_eq_false hc
        clear HGT HT
        go_wp2_with fail
        go_region_law (first | (go_simp; go_at_fn 34; (with_reducible refine HCC.out.mono ?_); rintro e W8 ⟨rfl, b8⟩; have bA : Below wr.heap.size wr W8 := hD.trans (b8.mono hD.size)))
        all_goals
          have HA2 := Lib.hid (HA.out.below bA)
          have HC2 := Lib.hid (HC.out.below bA)
          have HB2 := Lib.hid (HB.out.trans (bA.mono HB.out.size))
          clear p0 p1 c0 c1 f0 f1 b8 bA
          go_wp2
          go_roundw
          case rel => exact ⟨i + 1, x, y, by omega, by omega, by go_num, hx, hy, HN, HA2, HC2, HB2⟩
          case measure => simp [intOf]; omega
    · obtain rfl : i = L.length := by omega
      have HE : Hid ((x, y) = mxE L) := by have := HX.out; rw [List.take_length] at this; exact this.symm
      have a0 := HA.out.at_ (i := 0) rfl
      have a1 := HA.out.at_ (i := 1) rfl
      have a2 := (HA.out.set 0 (.int .i64 (x : Int))).at_ (i := 1) rfl
      have c0 := HC.out.at_ (i := 0) rfl
      have c1 := HC.out.at_ (i := 1) rfl
      have f0 := HA.out.f 0
      have f1 := HA.out.f 1
      have r0 := ((HA.out.set 0 (.int .i64 (x : Int))).set 1 (.int .i64 (y : Int))).at_ (i := 0) rfl
      have r1 := ((HA.out.set 0 (.int .i64 (x : Int))).set 1 (.int .i64 (y : Int))).at_ (i := 1) rfl
      go_wp2
      refine bodyPost_ret (v := .agg #[.int .i64 (x : Int), .int .i64 (y : Int)]) (by simp [results, Tryz.results33, go_sem, r0, r1]) rfl ?_
      exact ⟨by rw [← HE.out], (HB.out.setCell (Nat.le_refl _) _).setCell (Nat.le_refl _) _⟩
end Fac
end Go.Proofs.YtidfgfgokcflfaaGreat
/- Contracts of GreatestExponent and ExponentOf, of the model and of the program, and of the program's SquaresOf. No conditions beyond those that each states. -/
namespace Go.Proofs.YtidfgfgokcflfaaGreat
open Go.ChangeShapes Go.WideShapes Go.ChangeAt Go.RowKit
open Go.PlainAid Plain
set_option linter.unusedVariables false
namespace Fac
open Seqs
set_option maxHeartbeats 2000000 in
theorem impl_gr (v : Value) (u : List Int) (w : World) (h : Lies (Value.int .i64) w v u) (hs : u.length ≤ 4194304) :
    Calls Tryz.prog 15 #[v] w fun e w' => e = .returned (.tuple #[.int .i64 (gN u : Int), .int .i64 (gD u : Int)]) ∧ Below w.heap.size w w' := by
  obtain ⟨pa, pc, rfl⟩ := lies_shape h
  have HU := Lib.hid h
  clear h
  by_cases h0 : u.length = 0
  · have HR := Lib.hid (g_nil h0)
    have hd0 : ((u.length : Int) == 0) = true := by rw [h0]; rfl
    have hd1 : (u.length : Int) = 0 := by omega
    go_enter Tryz.func15, Tryz.ntmps15
    go_wp2
    go_ret2
    exact ⟨ret_ii (by rw [HR.out.1]; rfl) (by rw [HR.out.2]; rfl), Below.refl _ _⟩
  · have hd0 : ((u.length : Int) == 0) = false := by simp; intro e; rw [e] at h0; simp at h0
    by_cases hL : u.length ≤ 128
    · have HC := Lib.hid (exps_I _ u w HU.out (by omega))
      have HS : Hid (∀ e ∈ exps u u.length, e.1 ≤ 100000 ∧ e.2 ≤ 100000) := fun e he => exps_small hL he
      have hgt := decide_eq_false (show ¬ (u.length : Int) > 128 by omega)
      have hG := mxE_great (u := u) (by omega)
      have HR := Lib.hid (g_great hL hG)
      have hp0 := hG.1
      obtain ⟨b, hb1, hb2⟩ := hG.2.1
      have hle := mlen_le hb1
      rw [← hb2] at hle
      have HM := Lib.hid (fun vb base W (hv : OwnT 47 2 W base vb (exL (exps u u.length))) => maxf vb (exps u u.length) base W hv (by rw [exps_len]; omega) HS.out)
      obtain ⟨M, hM⟩ : ∃ M, M = mxE (exps u u.length) := ⟨_, rfl⟩
      rw [← hM] at hp0 hle hb1 HR HM
      have HLW := Lib.hid (fun W => low M W (by omega) (by omega) hp0)
      obtain ⟨s, hs1⟩ : ∃ s, s = M.1 / Nat.gcd M.1 M.2 := ⟨_, rfl⟩
      obtain ⟨q, hq1⟩ : ∃ q, q = M.2 / Nat.gcd M.1 M.2 := ⟨_, rfl⟩
      rw [← hs1, ← hq1] at HLW HR
      clear hG hb2 hM hb1 hs1 hq1
      go_enter Tryz.func15, Tryz.ntmps15
      go_wp2_with (first | (go_at_call 29; refine HC.out.mono ?_; rintro e W1 ⟨vb, rfl, hv, b1⟩; have HV := Lib.hid hv.1; have HB1 := Lib.hid b1; clear hv b1) | (go_at_call 33; refine (HM.out vb _ W1 HV.out).mono ?_; rintro e W2 ⟨rfl, b2⟩; have HB2 := Lib.hid (HB1.out.trans (b2.mono HB1.out.size)); clear b2) | (go_at_call 35; refine (HLW.out _).mono ?_; rintro e W3 ⟨rfl, b3⟩; have HB3 := Lib.hid (HB2.out.trans (b3.mono HB2.out.size)); clear b3))
      go_ret2
      exact ⟨ret_ii (by rw [HR.out.1]) (by rw [HR.out.2]), HB3.out⟩
    · have HR := Lib.hid (g_out hL)
      have hgt := decide_eq_true (show (u.length : Int) > 128 by omega)
      go_enter Tryz.func15, Tryz.ntmps15
      go_wp2
      go_ret2
      exact ⟨ret_ii (by rw [HR.out.1]; rfl) (by rw [HR.out.2]; rfl), Below.refl _ _⟩
/-- The exponent of a word in lowest terms. -/
def exN (u : List Int) : Nat := if u.length = 0 then 0 else u.length / Nat.gcd u.length (lpN u)
def exD (u : List Int) : Nat := if u.length = 0 then 0 else lpN u / Nat.gcd u.length (lpN u)
set_option maxHeartbeats 2000000 in
theorem impl_ex (v : Value) (u : List Int) (w : World) (h : Lies (Value.int .i64) w v u) (hs : u.length ≤ 4194303) :
    Calls Tryz.prog 17 #[v] w fun e w' => e = .returned (.tuple #[.int .i64 (exN u : Int), .int .i64 (exD u : Int)]) ∧ Below w.heap.size w w' := by
  obtain ⟨pa, pc, rfl⟩ := lies_shape h
  have HU := Lib.hid h
  clear h
  by_cases h0 : u.length = 0
  · have HR : Hid (exN u = 0 ∧ exD u = 0) := by show _ ∧ _; simp [exN, exD, h0]
    have hd0 : ((u.length : Int) == 0) = true := by rw [h0]; rfl
    have hd1 : (u.length : Int) = 0 := by omega
    go_enter Tryz.func17, Tryz.ntmps17
    go_wp2
    go_ret2
    exact ⟨ret_ii (by rw [HR.out.1]; rfl) (by rw [HR.out.2]; rfl), Below.refl _ _⟩
  · have hd0 : ((u.length : Int) == 0) = false := by simp; intro e; rw [e] at h0; simp at h0
    have HR : Hid (exN u = u.length / Nat.gcd u.length (lpN u) ∧ exD u = lpN u / Nat.gcd u.length (lpN u)) := by show _ ∧ _; simp [exN, exD, h0]
    have hl := lpN_eq (u := u) (by omega)
    have hr := lpV_range (u := u) (by omega)
    have HC := Lib.hid (impl_lp _ u w HU.out hs)
    rw [← hl] at HC hr
    obtain ⟨p, hp⟩ : ∃ p, p = lpN u := ⟨_, rfl⟩
    rw [← hp] at HC hr HR
    have HLW := Lib.hid (fun W => low (u.length, p) W (by show u.length ≤ _; omega) (by show p ≤ _; omega) (by show 0 < p; omega))
    dsimp only at HLW
    obtain ⟨s, hs1⟩ : ∃ s, s = u.length / Nat.gcd u.length p := ⟨_, rfl⟩
    obtain ⟨q, hq1⟩ : ∃ q, q = p / Nat.gcd u.length p := ⟨_, rfl⟩
    rw [← hs1, ← hq1] at HLW HR
    clear hl hp hs1 hq1
    go_enter Tryz.func17, Tryz.ntmps17
    go_wp2_with (first | (go_at_call 37; refine HC.out.mono ?_; rintro e W1 ⟨rfl, b1⟩; have HB1 := Lib.hid b1; clear b1) | (go_at_call 35; refine (HLW.out _).mono ?_; rintro e W3 ⟨rfl, b3⟩; have HB3 := Lib.hid (HB1.out.trans (b3.mono HB1.out.size)); clear b3))
    go_ret2
    exact ⟨ret_ii (by rw [HR.out.1]) (by rw [HR.out.2]), HB3.out⟩
set_option maxHeartbeats 2000000 in
theorem spec_ex (v : Value) (u : List Int) (w : World) (h : Lies (Value.int .i64) w v u) (hs : u.length ≤ 4194303) :
    Calls Tryz.prog 18 #[v] w fun e w' => e = .returned (.tuple #[.int .i64 (exN u : Int), .int .i64 (exD u : Int)]) ∧ Below w.heap.size w w' := by
  obtain ⟨pa, pc, rfl⟩ := lies_shape h
  have HU := Lib.hid h
  clear h
  by_cases h0 : u.length = 0
  · have HR : Hid (exN u = 0 ∧ exD u = 0) := by show _ ∧ _; simp [exN, exD, h0]
    have hd0 : ((u.length : Int) == 0) = true := by rw [h0]; rfl
    have hd1 : (u.length : Int) = 0 := by omega
    go_enter Tryz.func18, Tryz.ntmps18
    go_wp2
    go_ret2
    exact ⟨ret_ii (by rw [HR.out.1]; rfl) (by rw [HR.out.2]; rfl), Below.refl _ _⟩
  · have hd0 : ((u.length : Int) == 0) = false := by simp; intro e; rw [e] at h0; simp at h0
    have HR : Hid (exN u = u.length / Nat.gcd u.length (lpN u) ∧ exD u = lpN u / Nat.gcd u.length (lpN u)) := by show _ ∧ _; simp [exN, exD, h0]
    have hl := lpN_eq (u := u) (by omega)
    have hr := lpV_range (u := u) (by omega)
    have HC := Lib.hid (spec_lp _ u w HU.out (by omega))
    rw [← hl] at HC hr
    obtain ⟨p, hp⟩ : ∃ p, p = lpN u := ⟨_, rfl⟩
    rw [← hp] at HC hr HR
    have hgp : 0 < Nat.gcd u.length p := Nat.gcd_pos_of_pos_right _ (by omega)
    have hgl : Nat.gcd u.length p ≤ p := Nat.gcd_le_right _ (by omega)
    have HGC := Lib.hid (fun W => spec_gcd u.length p W (by omega) (by omega))
    obtain ⟨g, hg⟩ : ∃ g, g = Nat.gcd u.length p := ⟨_, rfl⟩
    rw [← hg] at hgp hgl HGC HR
    have hd1 := (div_facts (n := u.length) hgp).1
    have hd2 := (div_facts (n := p) hgp).1
    have hd3 := (div_facts (n := u.length) hgp).2
    have hd4 := (div_facts (n := p) hgp).2
    have hqa : u.length / g ≤ u.length := Nat.div_le_self _ _
    have hqb : p / g ≤ p := Nat.div_le_self _ _
    have hg0 : ((g : Int) == 0) = false := by simp; omega
    obtain ⟨s, hs1⟩ : ∃ s, s = u.length / g := ⟨_, rfl⟩
    obtain ⟨q, hq1⟩ : ∃ q, q = p / g := ⟨_, rfl⟩
    rw [← hs1] at hd1 hd3 hqa HR
    rw [← hq1] at hd2 hd4 hqb HR
    clear hl hp hg hs1 hq1
    go_enter Tryz.func18, Tryz.ntmps18
    go_wp2_with (first | (go_at_call 38; refine HC.out.mono ?_; rintro e W1 ⟨rfl, b1⟩; have HB1 := Lib.hid b1; clear b1) | (go_at_call 36; refine (HGC.out _).mono ?_; rintro e W3 ⟨rfl, rfl⟩))
    go_quiet (fail)
    go_wp2
    go_ret2
    exact ⟨ret_ii (by rw [HR.out.1]) (by rw [HR.out.2]), below_drewN HB1.out _⟩
set_option maxHeartbeats 4000000 in
theorem spec_gr (v : Value) (u : List Int) (w : World) (h : Lies (Value.int .i64) w v u) (hs : u.length ≤ 4194304) :
    Calls Tryz.prog 16 #[v] w fun e w' => e = .returned (.tuple #[.int .i64 (gN u : Int), .int .i64 (gD u : Int)]) ∧ Below w.heap.size w w' := by
  obtain ⟨pa, pc, rfl⟩ := lies_shape h
  have HU := Lib.hid h
  clear h
  by_cases hL : u.length ≤ 128
  · have hLd := decide_eq_true (show (u.length : Int) ≤ 128 by omega)
    go_enter Tryz.func16, Tryz.ntmps16
    go_wp2
    go_loopw [4, 5, 6] (fun n' d' a' wr => ∃ n d a : Nat, a ≤ u.length ∧ n ≤ u.length ∧ d ≤ u.length ∧ n' = .int .i64 n ∧ d' = .int .i64 d ∧ a' = .int .i64 a ∧ Hid (Best u a 0 n d) ∧ Hid (Below w.heap.size w wr)) (fun _ _ a' _ => u.length - (intOf a').toNat)
    case atStart => exact ⟨0, 0, 0, Nat.zero_le _, Nat.zero_le _, Nat.zero_le _, rfl, rfl, rfl, best_start u, Below.refl _ _⟩
    case round =>
      obtain ⟨n, d, a, hal, hnl, hdl, rfl, rfl, rfl, HN, HBr⟩ := hrel
      obtain ⟨W6, hW6⟩ : ∃ W : World, W = wr := ⟨_, rfl⟩
      rw [← hW6] at HBr ⊢
      clear hW6
      by_cases hlt : a < u.length
      · go_wp2
        go_loopw [4, 5, 7] (fun n' d' p' wr => ∃ n d P : Nat, 0 < P ∧ a + (P - 1) ≤ u.length ∧ n ≤ u.length ∧ d ≤ u.length ∧ n' = .int .i64 n ∧ d' = .int .i64 d ∧ p' = .int .i64 P ∧ Hid (Best u a (P - 1) n d) ∧ Hid (Below w.heap.size w wr)) (fun _ _ p' _ => u.length + 1 - (intOf p').toNat)
        case atStart => exact ⟨n, d, 1, by omega, by omega, hnl, hdl, rfl, rfl, rfl, HN, HBr⟩
        case round =>
          obtain ⟨n, d, P, hP, haP, hnl, hdl, rfl, rfl, rfl, HI, HBs⟩ := hrel
          by_cases hin : a + P ≤ u.length
          · have hcn : (a : Int) + (P : Int) ≤ (u.length : Int) := by omega
            have HM := Lib.hid (spec_ml _ u a P wr (HU.out.below HBs.out) (by omega) hP (by omega))
            have hml := mlen_le (u := u) (a := a) (p := P) (by omega)
            have hmu : ∃ m, m = mlen u a P := ⟨_, rfl⟩
            have hP1 : P - 1 + 1 = P := by omega
            have HTK := Lib.hid (fun hc => best_take (u := u) (a := a) (k := P - 1) (n := n) (p := d) HI.out (by omega) hc)
            have HKP := Lib.hid (fun h1 hc => best_keep (u := u) (a := a) (k := P - 1) (n := n) (p := d) HI.out h1 hc)
            rw [hP1] at HTK HKP
            obtain ⟨m, hm⟩ := hmu
            rw [← hm] at HM hml HTK HKP
            clear hm hP1
            obtain ⟨f1, f2⟩ := mul_fits (m := m) (d := d) (by omega) (by omega)
            obtain ⟨f3, f4⟩ := mul_fits (m := n) (d := P) (by omega) (by omega)
            have hcast1 : ((m * d : Nat) : Int) = (m : Int) * (d : Int) := by simp
            have hcast2 : ((n * P : Nat) : Int) = (n : Int) * (P : Int) := by simp
            by_cases hc : d = 0 ∨ m * d > n * P
            · have HB' := Lib.hid (HTK.out hc)
              by_cases hd : d = 0
              · subst hd
                clear HTK HKP hc hcast1 hcast2 f1 f2 f3 f4
                go_wp2_with fail
                refine HM.out.mono ?_
                rintro e W1 ⟨rfl, b1⟩
                have HB1 := Lib.hid (HBs.out.trans (b1.mono HBs.out.size))
                clear b1 HM
                go_wp2
                go_roundw
                case rel => exact ⟨m, P, P + 1, by omega, by omega, by omega, by omega, rfl, rfl, by go_num, by rw [Nat.add_sub_cancel]; exact HB', HB1⟩
                case measure => simp [intOf]; omega
              · have hd0 : ((d : Int) == 0) = false := by simp; omega
                have hgt := decide_eq_true (show (m : Int) * (d : Int) > (n : Int) * (P : Int) by omega)
                clear HTK HKP hc hcast1 hcast2
                go_wp2_with fail
                refine HM.out.mono ?_
                rintro e W1 ⟨rfl, b1⟩
                have HB1 := Lib.hid (HBs.out.trans (b1.mono HBs.out.size))
                clear b1 HM
                go_wp2
                go_roundw
                case rel => exact ⟨m, P, P + 1, by omega, by omega, by omega, by omega, rfl, rfl, by go_num, by rw [Nat.add_sub_cancel]; exact HB', HB1⟩
                case measure => simp [intOf]; omega
            · have hd : ¬ d = 0 := fun h => hc (.inl h)
              have hd0 : ((d : Int) == 0) = false := by simp; omega
              have hle : m * d ≤ n * P := by omega
              have HB' := Lib.hid (HKP.out (by omega) hle)
              have hgt := decide_eq_false (show ¬ (m : Int) * (d : Int) > (n : Int) * (P : Int) by omega)
              clear HTK HKP hc hcast1 hcast2 hle
              go_wp2_with fail
              refine HM.out.mono ?_
              rintro e W1 ⟨rfl, b1⟩
              have HB1 := Lib.hid (HBs.out.trans (b1.mono HBs.out.size))
              clear b1 HM
              go_wp2
              go_roundw
              case rel => exact ⟨n, d, P + 1, by omega, by omega, hnl, hdl, rfl, rfl, by go_num, by rw [Nat.add_sub_cancel]; exact HB', HB1⟩
              case measure => simp [intOf]; omega
          · have hcn : ¬ (a : Int) + (P : Int) ≤ (u.length : Int) := by omega
            have HR := Lib.hid (best_next HI.out hlt (by omega))
            go_wp2
            go_roundw
            case rel => exact ⟨n, d, a + 1, by omega, hnl, hdl, rfl, rfl, by go_num, HR, HBs⟩
            case measure => simp [intOf]; omega
      · obtain rfl : a = u.length := by omega
        by_cases hd : d = 0
        · subst hd
          have HR := Lib.hid (g_nil (u := u) (HN.out.1 rfl).2.1)
          go_wp2
          go_ret2
          exact ⟨ret_ii (by rw [HR.out.1]; rfl) (by rw [HR.out.2]; rfl), HBr.out⟩
        · have hd0 : ((d : Int) == 0) = false := by simp; omega
          have HR := Lib.hid (g_great hL (best_end HN.out (by omega)))
          have hgp : 0 < Nat.gcd n d := Nat.gcd_pos_of_pos_right _ (by omega)
          have hgl : Nat.gcd n d ≤ d := Nat.gcd_le_right _ (by omega)
          have HGC := Lib.hid (fun W => spec_gcd n d W (by omega) (by omega))
          obtain ⟨g, hg⟩ : ∃ g, g = Nat.gcd n d := ⟨_, rfl⟩
          rw [← hg] at hgp hgl HGC HR
          have hd1 := (div_facts (n := n) hgp).1
          have hd2 := (div_facts (n := d) hgp).1
          have hd3 := (div_facts (n := n) hgp).2
          have hd4 := (div_facts (n := d) hgp).2
          have hqa : n / g ≤ n := Nat.div_le_self _ _
          have hqb : d / g ≤ d := Nat.div_le_self _ _
          have hg0 : ((g : Int) == 0) = false := by simp; omega
          obtain ⟨s, hs1⟩ : ∃ s, s = n / g := ⟨_, rfl⟩
          obtain ⟨q, hq1⟩ : ∃ q, q = d / g := ⟨_, rfl⟩
          rw [← hs1] at hd1 hd3 hqa HR
          rw [← hq1] at hd2 hd4 hqb HR
          clear hg hs1 hq1
          go_wp2_with (go_at_call 36; refine (HGC.out _).mono ?_; rintro e W3 ⟨rfl, rfl⟩)
          go_quiet (fail)
          go_wp2
          go_ret2
          exact ⟨ret_ii (by rw [HR.out.1]) (by rw [HR.out.2]), below_drewN HBr.out _⟩
  · have HR := Lib.hid (g_out hL)
    go_enter Tryz.func16, Tryz.ntmps16
    go_wp2
    go_loopw [4, 5, 6] (fun n' d' a' wr => n' = .int .i64 0 ∧ d' = .int .i64 0 ∧ a' = .int .i64 0 ∧ wr = w) (fun _ _ a' _ => 0)
    case atStart => exact ⟨rfl, rfl, rfl, rfl⟩
    case round =>
      obtain ⟨rfl, rfl, rfl, rfl⟩ := hrel
      have h0 : 0 < u.length := by omega
      go_wp2
      go_ret2
      exact ⟨ret_ii (by rw [HR.out.1]; rfl) (by rw [HR.out.2]; rfl), Below.refl _ _⟩
theorem eq_dr {u v : Value} {xs ys : List Int} {w : World} {n : Nat} {c : Bool} (h1 : Lies (Value.int .i64) w u xs) (h2 : Lies (Value.int .i64) w v ys) (hc : decide (xs = ys) = c) :
    Calls Tryz.prog 26 #[u, v] (w.drewN n) fun e w' => e = .returned (.bool c) ∧ ∃ m, w' = w.drewN m :=
  (equal_ints u v xs ys (w.drewN n) (h1.below (below_drewN (Below.refl _ _) n)) (h2.below (below_drewN (Below.refl _ _) n))).mono fun _ _ ⟨h, m, hm⟩ => ⟨by rw [h, hc], n + m, by rw [hm, World.drewN_drewN]⟩
set_option maxRecDepth 100000 in
set_option maxHeartbeats 4000000 in
theorem impl_sq (v : Value) (u : List Int) (w : World) (h : LiesC w v u) :
    Calls Tryz.prog 6 #[v] w (GivesT 31 3 (sqL (sqV u)) w) := by
  obtain ⟨i0, hi, hz0, hz1, hz2⟩ := info_parts infoP
  obtain ⟨pa, pc, rfl, hcap⟩ := h.form
  have hsm := h.1.1
  have HU := Lib.hid h
  clear h
  by_cases h64 : u.length ≤ 64
  · rw [sqV_in h64]
    have hgt := decide_eq_false (show ¬ (u.length : Int) > 64 by omega)
    go_enter Tryz.func6, Tryz.ntmps6
    go_wp2
    go_loopw [3, 12] (fun o' a' wr => ∃ (a : Nat) (vo : Value), a ≤ u.length ∧ a' = .int .i64 a ∧ vo = o' ∧ Hid (OwnT 31 3 wr w.heap.size vo (sqL (sqU u a))) ∧ Hid (Below w.heap.size w wr)) (fun _ a' _ => u.length - (intOf a').toNat)
    case atStart => exact ⟨0, _, Nat.zero_le _, rfl, rfl, OwnT.nil _ _, Below.refl _ _⟩
    case round =>
      obtain ⟨a, vo, hal, rfl, rfl, HOr, HBr⟩ := hrel
      obtain ⟨W6, hW6⟩ : ∃ W : World, W = wr := ⟨_, rfl⟩
      rw [← hW6] at HOr HBr ⊢
      clear hW6
      by_cases hlt : a < u.length
      · go_wp2
        go_loopw [3, 5] (fun o' p' wr => ∃ (P : Nat) (vo : Value), 0 < P ∧ a + 2 * (P - 1) ≤ u.length ∧ p' = .int .i64 P ∧ vo = o' ∧ Hid (OwnT 31 3 wr w.heap.size vo (sqL (sqU u a ++ sqI u a (P - 1)))) ∧ Hid (Below w.heap.size w wr)) (fun _ p' _ => u.length - (intOf p').toNat)
        case atStart => exact ⟨1, _, by omega, by omega, rfl, rfl, by show OwnT _ _ _ _ _ _; rw [show sqI u a (1 - 1) = [] from rfl, List.append_nil]; exact HOr, HBr⟩
        case round =>
          obtain ⟨P, vo, hP, haP, rfl, rfl, HOs, HBs⟩ := hrel
          by_cases hin : a + 2 * P ≤ u.length
          · have hcn : (a : Int) + 2 * (P : Int) ≤ (u.length : Int) := by omega
            obtain ⟨a1, c1, hsl1, hl1⟩ := (HU.out.below HBs.out).slice (l := a) (h := a + P) (L := (a : Int)) (H := (a : Int) + (P : Int)) (by omega) (by omega) rfl (by omega)
            obtain ⟨a2, c2, hsl2, hl2⟩ := (HU.out.below HBs.out).slice (l := a + P) (h := a + P + P) (L := (a : Int) + (P : Int)) (H := (a : Int) + (P : Int) + (P : Int)) (by omega) (by omega) (by omega) (by omega)
            rw [show a + P - a = P from by omega] at hsl1 hl1
            rw [show a + P + P - (a + P) = P from by omega] at hsl2 hl2
            have HEQ := Lib.hid (fun n => eq_dr (n := n) (c := sqAt u a P) hl1.lies hl2.lies rfl)
            obtain ⟨oa, oc, hvo, _⟩ := HOs.out.form
            have HL := Lib.hid (sq_len h64 hlt (k := P - 1) (by omega))
            subst hvo
            have hw : IntKind.i64.wrap ((a : Int) + (P : Int) + (P : Int)) = (a : Int) + (P : Int) + (P : Int) := by rw [IntKind.wrap_i64]; omega
            clear hl1 hl2
            cases hq : sqAt u a P with
            | true =>
              rw [hq] at HEQ
              have HN : Hid (sqL (sqU u a ++ sqI u a (P - 1)) ++ [[(a : Int), (P : Int), 2 * (P : Int)]] = sqL (sqU u a ++ sqI u a (P + 1 - 1))) := by
                show _ = _
                obtain ⟨k, rfl⟩ : ∃ k, P = k + 1 := ⟨P - 1, by omega⟩
                rw [Nat.add_sub_cancel, Nat.add_sub_cancel, sqI_yes hq, ← List.append_assoc, sqL_append _ [_]]
                rfl
              clear hq
              go_wp2_with fail
              go_quiet ((go_at_call 26; exact HEQ.out _))
              go_wp2_with (refine append_t (e := 31) (k := 3) rfl _ _ 26 rfl i0 _ 24 Tryz.underlying26 hi hz0 hz1 hz2 rfl (by omega) _ rfl (HOs.out.below (below_drewN (Below.refl wr.heap.size wr) _)) [(a : Int), (P : Int), 2 * (P : Int)] rfl _ rfl rfl _ rfl (by have := HL.out; omega) (by omega) (below_drewN HBs.out _).size ?_; intro v2 w2 ho hg; have HO2 := Lib.hid ho; have HB2 := Lib.hid ((HOs.out.below (below_drewN (Below.refl wr.heap.size wr) _)).frame (below_drewN HBs.out _) (Nat.le_refl _) hg); clear ho hg)
              go_roundw
              case rel => exact ⟨P + 1, _, by omega, by omega, by go_num, rfl, by rw [← HN.out]; exact HO2, HB2⟩
              case measure => simp [intOf]; omega
            | false =>
              rw [hq] at HEQ
              have HN : Hid (sqL (sqU u a ++ sqI u a (P - 1)) = sqL (sqU u a ++ sqI u a (P + 1 - 1))) := by
                show _ = _
                obtain ⟨k, rfl⟩ : ∃ k, P = k + 1 := ⟨P - 1, by omega⟩
                rw [Nat.add_sub_cancel, Nat.add_sub_cancel, sqI_no hq]
              clear hq
              go_wp2_with fail
              go_quiet ((go_at_call 26; exact HEQ.out _))
              go_wp2
              go_roundw
              case rel => exact ⟨P + 1, _, by omega, by omega, by go_num, rfl, by rw [← HN.out]; exact HOs.out.below (below_drewN (Below.refl wr.heap.size wr) _), below_drewN HBs.out _⟩
              case measure => simp [intOf]; omega
          · have hcn : ¬ (a : Int) + 2 * (P : Int) ≤ (u.length : Int) := by omega
            have HE : Hid (sqU u a ++ sqI u a (P - 1) = sqU u (a + 1)) := by
              show _ = sqU u a ++ sqI u a ((u.length - a) / 2)
              rw [show (u.length - a) / 2 = P - 1 from by omega]
            go_wp2
            go_roundw
            case rel => exact ⟨a + 1, _, by omega, by go_num, rfl, by rw [← HE.out]; exact HOs, HBs⟩
            case measure => simp [intOf]; omega
      · obtain rfl : a = u.length := by omega
        go_wp2
        go_ret
        exact GivesT.of HOr.out HBr.out
  · rw [sqV_out h64]
    have hgt := decide_eq_true (show (u.length : Int) > 64 by omega)
    go_enter Tryz.func6, Tryz.ntmps6
    go_wp2
    go_ret
    exact GivesT.of (OwnT.nil _ _) (Below.refl _ _)
end Fac
end Go.Proofs.YtidfgfgokcflfaaGreat
/- Contracts of ShortestSquare, of the model and of the program. No conditions beyond those that each states. -/
namespace Go.Proofs.YtidfgfgokcflfaaGreat
open Go.ChangeShapes Go.WideShapes Go.ChangeAt Go.RowKit
open Go.PlainAid Plain
set_option linter.unusedVariables false
namespace Fac
set_option maxHeartbeats 1000000 in
theorem cpp (e f : Sqr) (w : World) :
    Calls Tryz.prog 40 #[.agg #[.int .i64 (e.1 : Int), .int .i64 (e.2 : Int), .int .i64 (2 * (e.2 : Int))], .agg #[.int .i64 (f.1 : Int), .int .i64 (f.2 : Int), .int .i64 (2 * (f.2 : Int))]] w fun en w' => en = .returned (.int .i64 (Lib.compareInt (e.2 : Int) (f.2 : Int))) ∧ Below w.heap.size w w' := by
  have HC := Lib.hid (cmp_int (e.2 : Int) (f.2 : Int))
  obtain ⟨z, hz⟩ : ∃ z, z = Lib.compareInt (e.2 : Int) (f.2 : Int) := ⟨_, rfl⟩
  rw [← hz] at HC ⊢
  obtain ⟨a, b⟩ := e
  obtain ⟨c, d⟩ := f
  dsimp only at HC ⊢
  clear hz
  go_enter Tryz.func40, Tryz.ntmps40
  go_wp2_with fail
  refine (HC.out _).mono ?_
  rintro e W1 ⟨rfl, rfl⟩
  go_wp2
  go_ret
  exact ⟨rfl, ((Below.refl _ _).alloc (Nat.le_refl _) _).alloc (by simp) _⟩
theorem cpi_lt (x y : Nat) : (Lib.compareInt (x : Int) (y : Int) < 0 ↔ x < y) ∧ -1 ≤ Lib.compareInt (x : Int) (y : Int) ∧ Lib.compareInt (x : Int) (y : Int) ≤ 1 := by
  unfold Lib.compareInt
  by_cases h1 : (x : Int) < (y : Int)
  · rw [if_pos h1]
    exact ⟨⟨fun _ => by omega, fun _ => by omega⟩, by omega, by omega⟩
  · rw [if_neg h1]
    split
    · exact ⟨⟨fun _ => by omega, fun _ => by omega⟩, by omega, by omega⟩
    · exact ⟨⟨fun _ => by omega, fun _ => by omega⟩, by omega, by omega⟩
/-- A stored struct of three ints in its block. -/
theorem stored3 {w : World} {b : Nat} {t : TypeId} {x y z : Value} (h : Cells3 w b t x y z) (x' y' z' : Value) : Cells3 (((w.setCell ⟨b, 0, none⟩ x').setCell ⟨b, 1, none⟩ y').setCell ⟨b, 2, none⟩ z') b t x' y' z' := ((h.set0 x').set1 y').set2 z'
theorem below3 {w0 w : World} {n b : Nat} (h : Below n w0 w) (hb : n ≤ b) (x' y' z' : Value) : Below n w0 (((w.setCell ⟨b, 0, none⟩ x').setCell ⟨b, 1, none⟩ y').setCell ⟨b, 2, none⟩ z') := ((h.setCell hb _).setCell hb _).setCell hb _
set_option maxHeartbeats 4000000 in
theorem minf (v : Value) (L : List Sqr) (base : Nat) (w : World) (h : OwnT 31 3 w base v (sqL L)) (hl : 0 < L.length) :
    Calls Tryz.prog 39 #[v, .func (.func 40) #[] #[]] w fun en w' => en = .returned (.agg #[.int .i64 ((mnE L).1 : Int), .int .i64 ((mnE L).2 : Int), .int .i64 (2 * ((mnE L).2 : Int))]) ∧ Below w.heap.size w w' := by
  have eg : ∀ args w, (callFunc 40 args).run Tryz.prog w = .ok (.enter 40 args) w := enters_of Tryz.func40 (by kernel_rfl) rfl
  obtain ⟨a, c, rfl, hag⟩ := h.form
  have hsm := h.small
  obtain ⟨g, rfl⟩ := hag (by rw [sqL_len]; exact hl)
  have HO := Lib.hid h
  rw [sqL_len] at hsm ⊢
  obtain ⟨e0, he0⟩ : ∃ x, L[0]? = some x := ⟨_, List.getElem?_eq_getElem hl⟩
  have ha := h.below ((Below.refl w.heap.size w).alloc (Nat.le_refl _) (.cells #[.int .i64 0, .int .i64 0, .int .i64 0] 31))
  have p0 := ha.cell (j := 0) (sqL_at he0) rfl
  have p1 := ha.cell (j := 1) (sqL_at he0) rfl
  have p2 := ha.cell (j := 2) (sqL_at he0) rfl
  rw [Nat.zero_mul, Nat.add_zero] at p0
  rw [Nat.zero_mul, Nat.zero_add] at p1 p2
  have HS : Hid (mnE (L.take 1) = e0) := by
    cases L with
    | nil => simp at hl
    | cons x L => simp at he0; subst he0; rfl
  clear h hag he0 ha
  obtain ⟨x0, y0⟩ := e0
  dsimp only at p0 p1 p2
  have hl1 : ¬ L.length < 1 := by omega
  go_enter Tryz.func39, Tryz.ntmps39
  go_upto_region 4 with (fail)
  obtain ⟨W1, hW1⟩ : ∃ W, W = (w.alloc (.cells #[.int .i64 0, .int .i64 0, .int .i64 0] 31)).alloc (.cells #[.int .i64 (x0 : Int), .int .i64 (y0 : Int), .int .i64 (2 * (y0 : Int))] 31) := ⟨_, rfl⟩
  have hb1 : Below w.heap.size w W1 := by rw [hW1]; exact ((Below.refl _ _).alloc (Nat.le_refl _) _).alloc (by simp) _
  have hc1 : Cells3 W1 w.heap.size 31 (.int .i64 0) (.int .i64 0) (.int .i64 0) := by rw [hW1]; exact (Cells3.new w 31 (.int .i64 0) (.int .i64 0) (.int .i64 0)).alloc _
  have hc2 : Cells3 W1 (w.heap.size + 1) 31 (.int .i64 (x0 : Int)) (.int .i64 (y0 : Int)) (.int .i64 (2 * (y0 : Int))) := by
    rw [hW1]
    have := Cells3.new (w.alloc (.cells #[.int .i64 0, .int .i64 0, .int .i64 0] 31)) 31 (.int .i64 (x0 : Int)) (.int .i64 (y0 : Int)) (.int .i64 (2 * (y0 : Int)))
    rw [size_alloc'] at this
    exact this
  rw [← hW1]
  have HB1 := Lib.hid hb1
  have HC1 := Lib.hid hc1
  have HC2 := Lib.hid hc2
  clear hW1 hb1 hc1 hc2 p0 p1 p2
  go_wp2
  go_loopw [6] (fun i' wr => ∃ (i x y : Nat), 0 < i ∧ i ≤ L.length ∧ i' = .int .i64 i ∧ Hid (mnE (L.take i) = (x, y)) ∧ Hid (Cells3 wr w.heap.size 31 (.int .i64 0) (.int .i64 0) (.int .i64 0)) ∧ Hid (Cells3 wr (w.heap.size + 1) 31 (.int .i64 (x : Int)) (.int .i64 (y : Int)) (.int .i64 (2 * (y : Int)))) ∧ Hid (Below w.heap.size w wr)) (fun i' _ => L.length - (intOf i').toNat)
  case atStart => exact ⟨1, x0, y0, by omega, by omega, rfl, HS, HC1, HC2, HB1⟩
  case round =>
    obtain ⟨i, x, y, hi0, hi, rfl, HX, HA, HC, HB⟩ := hrel
    by_cases hlt : i < L.length
    · obtain ⟨e, he⟩ : ∃ x, L[i]? = some x := ⟨_, List.getElem?_eq_getElem hlt⟩
      have HO1 := HO.out.below HB.out
      have p0 := HO1.cell (j := 0) (sqL_at he) rfl
      have p1 := HO1.cell (j := 1) (sqL_at he) rfl
      have p2 := HO1.cell (j := 2) (sqL_at he) rfl
      rw [Nat.add_zero] at p0
      have HT : Hid (mnE (L.take (i + 1)) = if e.2 < y then e else (x, y)) := by
        show _ = _
        rw [List.take_succ_eq_append_getElem hlt, mnE_snoc (by intro h; have h2 : (L.take i).length = 0 := (congrArg List.length h).trans rfl; rw [List.length_take] at h2; omega), HX.out]
        have e2 : L[i] = e := by rw [List.getElem?_eq_getElem hlt] at he; exact Option.some.inj he
        rw [e2]
      obtain ⟨ea, eb⟩ := e
      have c0 := HC.out.c0
      have c1 := HC.out.c1
      have c2 := HC.out.c2
      have hD : Below wr.heap.size wr wr.drew := below_drew' wr
      have HCC := Lib.hid (cpp (ea, eb) (x, y) wr.drew)
      have HGT := cpi_lt eb y
      dsimp only at p0 p1 p2 HCC HT
      obtain ⟨z, hz⟩ : ∃ z, z = Lib.compareInt (eb : Int) (y : Int) := ⟨_, rfl⟩
      rw [← hz] at HCC HGT
      obtain ⟨hgt, hz1, hz2⟩ := HGT
      have hil : (i : Int) < (L.length : Int) := by omega
      clear hz he HO1
      by_cases hc : z < 0
      · have HN : Hid (mnE (L.take (i + 1)) = (ea, eb)) := by have := HT.out; rw [if_pos (hgt.1 hc)] at this; exact this
        have hcd := decide_eq_true hc
        clear hgt HT
        go_wp2_with fail
        go_region_law (first | (go_simp; go_at_fn 40; (with_reducible refine HCC.out.mono ?_); rintro e W8 ⟨rfl, b8⟩; have bA : Below wr.heap.size wr W8 := hD.trans (b8.mono hD.size)))
        all_goals
          have HBA := Lib.hid bA
          have HA2 := Lib.hid (HA.out.below bA)
          have HC2 := Lib.hid (HC.out.below bA)
          have HB2 := Lib.hid (HB.out.trans (bA.mono HB.out.size))
          have q0 := (bA.cell (World.block_lt_of_cell? _ _ p0)).trans p0
          have q1 := (bA.cell (World.block_lt_of_cell? _ _ p1)).trans p1
          have q2 := (bA.cell (World.block_lt_of_cell? _ _ p2)).trans p2
          have g0 := HC2.out.f 0
          have g1 := HC2.out.f 1
          have g2 := HC2.out.f 2
          have k0 := HC2.out.c0
          have k1 := HC2.out.c1
          have k2 := HC2.out.c2
          clear p0 p1 p2 c0 c1 c2 b8 bA
          go_upto_region 6 with (fail)
          have HA3 : Hid (Cells3 (((W8.setCell ⟨w.heap.size + 1, 0, none⟩ (.int .i64 ea)).setCell ⟨w.heap.size + 1, 1, none⟩ (.int .i64 eb)).setCell ⟨w.heap.size + 1, 2, none⟩ (.int .i64 (2 * (eb : Int)))) w.heap.size 31 (.int .i64 0) (.int .i64 0) (.int .i64 0)) := ((HA2.out.other (by simp) _).other (by simp) _).other (by simp) _
          have HC3 := Lib.hid (stored3 HC2.out (.int .i64 ea) (.int .i64 eb) (.int .i64 (2 * (eb : Int))))
          have HB3 := Lib.hid (below3 HB2.out (show w.heap.size ≤ w.heap.size + 1 by omega) (.int .i64 ea) (.int .i64 eb) (.int .i64 (2 * (eb : Int))))
          go_wp2
          go_roundw
          case rel => exact ⟨i + 1, ea, eb, by omega, by omega, by go_num, HN, HA3, HC3, HB3⟩
          case measure => simp [intOf]; omega
      · have HN : Hid (mnE (L.take (i + 1)) = (x, y)) := by have := HT.out; rw [if_neg (fun h => hc (hgt.2 h))] at this; exact this
        have hcd := decide_eq_false hc
        clear hgt HT
        go_wp2_with fail
        go_region_law (first | (go_simp; go_at_fn 40; (with_reducible refine HCC.out.mono ?_); rintro e W8 ⟨rfl, b8⟩; have bA : Below wr.heap.size wr W8 := hD.trans (b8.mono hD.size)))
        all_goals
          have HA2 := Lib.hid (HA.out.below bA)
          have HC2 := Lib.hid (HC.out.below bA)
          have HB2 := Lib.hid (HB.out.trans (bA.mono HB.out.size))
          clear p0 p1 p2 c0 c1 c2 b8 bA
          go_wp2
          go_roundw
          case rel => exact ⟨i + 1, x, y, by omega, by omega, by go_num, HN, HA2, HC2, HB2⟩
          case measure => simp [intOf]; omega
    · obtain rfl : i = L.length := by omega
      have HE : Hid ((x, y) = mnE L) := by have := HX.out; rw [List.take_length] at this; exact this.symm
      have a0 := HA.out.c0
      have a1 := HA.out.c1
      have a2 := HA.out.c2
      have c0 := HC.out.c0
      have c1 := HC.out.c1
      have c2 := HC.out.c2
      have f0 := HA.out.f 0
      have f1 := HA.out.f 1
      have f2 := HA.out.f 2
      have h3 := stored3 HA.out (.int .i64 x) (.int .i64 y) (.int .i64 (2 * (y : Int)))
      have r0 := h3.c0
      have r1 := h3.c1
      have r2 := h3.c2
      clear h3
      go_wp2
      refine bodyPost_ret (v := .agg #[.int .i64 (x : Int), .int .i64 (y : Int), .int .i64 (2 * (y : Int))]) (by simp [results, Tryz.results39, go_sem, r0, r1, r2]) rfl ?_
      exact ⟨by rw [← HE.out], below3 HB.out (Nat.le_refl _) _ _ _⟩
/-- What ShortestSquare hands back. -/
def pwR (a b : Int) (k : Bool) : Value := .tuple #[.agg #[.int .i64 a, .int .i64 b, .int .i64 (2 * b)], .bool k]
set_option maxHeartbeats 4000000 in
theorem impl_short (v : Value) (u : List Int) (w : World) (h : LiesC w v u) :
    Calls Tryz.prog 19 #[v] w fun e w' => e = .returned (.tuple #[.agg #[.int .i64 ((mnE (sqV u)).1 : Int), .int .i64 ((mnE (sqV u)).2 : Int), .int .i64 (2 * ((mnE (sqV u)).2 : Int))], .bool (decide (0 < (sqV u).length))]) ∧ Below w.heap.size w w' := by
  have hb0 : Below w.heap.size w (w.alloc (.cells #[.int .i64 0, .int .i64 0, .int .i64 0] 31)) := (Below.refl _ _).alloc (Nat.le_refl _) _
  have HC := Lib.hid (impl_sq v u (w.alloc (.cells #[.int .i64 0, .int .i64 0, .int .i64 0] 31)) (h.below hb0))
  have HZ := Lib.hid (Cells3.new w 31 (.int .i64 0) (.int .i64 0) (.int .i64 0))
  have HB0 := Lib.hid hb0
  obtain ⟨pa, pc, rfl, hcap⟩ := h.form
  obtain ⟨L, hL⟩ : ∃ L, L = sqV u := ⟨_, rfl⟩
  have hLl : L.length ≤ 4096 := by rw [hL]; exact sqV_len u
  rw [← hL] at HC ⊢
  clear h hb0 hL
  go_enter Tryz.func19, Tryz.ntmps19
  go_wp2_with fail
  obtain ⟨W0, hW0⟩ : ∃ W, W = w.alloc (.cells #[.int .i64 0, .int .i64 0, .int .i64 0] 31) := ⟨_, rfl⟩
  rw [← hW0] at HC HZ HB0 ⊢
  clear hW0
  refine HC.out.mono ?_
  rintro e W1 ⟨vs, rfl, hv, b1⟩
  obtain ⟨sa, sc, hvs⟩ := hv.form
  rw [sqL_len] at hvs
  subst hvs
  have HV := Lib.hid hv.1
  have HZ1 := Lib.hid (HZ.out.below b1)
  have HB1 := Lib.hid (HB0.out.trans (b1.mono HB0.out.size))
  clear hv b1
  by_cases h0 : 0 < L.length
  · have hd0 : ((L.length : Int) == 0) = false := by simp; intro e; rw [e] at h0; simp at h0
    have HM := Lib.hid (minf _ L _ W1 HV.out h0)
    have HK : Hid (true = decide (0 < L.length)) := (decide_eq_true h0).symm
    go_wp2_with fail
    refine HM.out.mono ?_
    rintro e W2 ⟨rfl, b2⟩
    have HZ2 := Lib.hid (HZ1.out.below b2)
    have HB2 := Lib.hid (HB1.out.trans (b2.mono HB1.out.size))
    obtain ⟨M, hM⟩ : ∃ M, M = mnE L := ⟨_, rfl⟩
    have HMM := Lib.hid hM
    rw [← hM]
    obtain ⟨x, y⟩ := M
    have a0 := HZ2.out.c0
    have a1 := HZ2.out.c1
    have a2 := HZ2.out.c2
    have f0 := HZ2.out.f 0
    have f1 := HZ2.out.f 1
    have f2 := HZ2.out.f 2
    have h3 := stored3 HZ2.out (.int .i64 x) (.int .i64 y) (.int .i64 (2 * (y : Int)))
    have r0 := h3.c0
    have r1 := h3.c1
    have r2 := h3.c2
    clear h3 b2 hM HM
    go_wp2
    refine bodyPost_ret (v := .tuple #[.agg #[.int .i64 (x : Int), .int .i64 (y : Int), .int .i64 (2 * (y : Int))], .bool true]) (by simp [results, Tryz.results19, go_sem, r0, r1, r2]) rfl ?_
    exact ⟨by rw [← HK.out, ← HMM.out], below3 HB2.out (Nat.le_refl _) _ _ _⟩
  · have hd0 : ((L.length : Int) == 0) = true := by rw [show L.length = 0 from by omega]; rfl
    have hLn : L = [] := List.eq_nil_of_length_eq_zero (by omega)
    have HLN := Lib.hid hLn
    have a0 := HZ1.out.c0
    have a1 := HZ1.out.c1
    have a2 := HZ1.out.c2
    have f0 := HZ1.out.f 0
    have f1 := HZ1.out.f 1
    have f2 := HZ1.out.f 2
    have h3 := stored3 HZ1.out (.int .i64 0) (.int .i64 0) (.int .i64 0)
    have r0 := h3.c0
    have r1 := h3.c1
    have r2 := h3.c2
    clear h3 hLn
    go_wp2
    refine bodyPost_ret (v := .tuple #[.agg #[.int .i64 0, .int .i64 0, .int .i64 0], .bool false]) (by simp [results, Tryz.results19, go_sem, r0, r1, r2]) rfl ?_
    exact ⟨by rw [HLN.out]; rfl, below3 HB1.out (Nat.le_refl _) _ _ _⟩
theorem mnE_take {L : List Sqr} {i : Nat} {e : Sqr} {x y : Nat} (he : L[i]? = some e) (hx : mnE (L.take i) = (x, y)) (h0 : 0 < i) : mnE (L.take (i + 1)) = if e.2 < y then e else (x, y) := by
  obtain ⟨hlt, e2⟩ := List.getElem?_eq_some_iff.1 he
  rw [List.take_succ_eq_append_getElem hlt, mnE_snoc (by intro h; have h2 : (L.take i).length = 0 := (congrArg List.length h).trans rfl; rw [List.length_take] at h2; omega), hx, e2]
theorem mnE_first {L : List Sqr} {e : Sqr} (he : L[0]? = some e) : mnE (L.take 1) = e := by
  cases L with
  | nil => simp at he
  | cons x L => simp at he; subst he; rfl
set_option maxHeartbeats 4000000 in
theorem spec_short (v : Value) (u : List Int) (w : World) (h : Lies (Value.int .i64) w v u) :
    Calls Tryz.prog 20 #[v] w fun e w' => e = .returned (.tuple #[.agg #[.int .i64 ((mnE (sqV u)).1 : Int), .int .i64 ((mnE (sqV u)).2 : Int), .int .i64 (2 * ((mnE (sqV u)).2 : Int))], .bool (decide (0 < (sqV u).length))]) ∧ Below w.heap.size w w' := by
  have hb0 : Below w.heap.size w (w.alloc (.cells #[.int .i64 0, .int .i64 0, .int .i64 0] 31)) := (Below.refl _ _).alloc (Nat.le_refl _) _
  have HC := Lib.hid (spec_sq v u (w.alloc (.cells #[.int .i64 0, .int .i64 0, .int .i64 0] 31)) (h.below hb0))
  have HZ := Lib.hid (Cells3.new w 31 (.int .i64 0) (.int .i64 0) (.int .i64 0))
  have HB0 := Lib.hid hb0
  obtain ⟨pa, pc, rfl⟩ := lies_shape h
  obtain ⟨L, hL⟩ : ∃ L, L = sqV u := ⟨_, rfl⟩
  have hLl : L.length ≤ 4096 := by rw [hL]; exact sqV_len u
  rw [← hL] at HC ⊢
  clear h hb0 hL
  go_enter Tryz.func20, Tryz.ntmps20
  go_wp2_with fail
  obtain ⟨W0, hW0⟩ : ∃ W, W = w.alloc (.cells #[.int .i64 0, .int .i64 0, .int .i64 0] 31) := ⟨_, rfl⟩
  rw [← hW0] at HC HZ HB0 ⊢
  clear hW0
  refine HC.out.mono ?_
  rintro e W1 ⟨vs, rfl, hv, b1⟩
  obtain ⟨sa, sc, hvs⟩ := hv.form
  have hag := hv.1.form
  rw [sqL_len] at hvs
  subst hvs
  have HAG : Hid (0 < L.length → ∃ g, sa = some ⟨g, 0, none⟩) := fun h0 => by
    obtain ⟨a, c, h1, h2⟩ := hag
    injection h1 with h1
    subst h1
    exact h2 (by rw [sqL_len]; exact h0)
  have HV := Lib.hid hv.1
  have HZ1 := Lib.hid (HZ.out.below b1)
  have HB1 := Lib.hid (HB0.out.trans (b1.mono HB0.out.size))
  clear hv b1 hag
  go_upto_region 3 with (fail)
  have HQ : Hid (Cells3 (W1.alloc (.cells #[.int .i64 0, .int .i64 0, .int .i64 0] 31)) W1.heap.size 31 (.int .i64 0) (.int .i64 0) (.int .i64 0)) := Cells3.new W1 31 (.int .i64 0) (.int .i64 0) (.int .i64 0)
  have HBW : Hid (Below W1.heap.size W1 (W1.alloc (.cells #[.int .i64 0, .int .i64 0, .int .i64 0] 31))) := (Below.refl _ _).alloc (Nat.le_refl _) _
  obtain ⟨W2, hW2⟩ : ∃ W, W = W1.alloc (.cells #[.int .i64 0, .int .i64 0, .int .i64 0] 31) := ⟨_, rfl⟩
  rw [← hW2] at HQ HBW ⊢
  clear hW2
  have hzl := HZ1.out.lt
  go_wp2
  go_loopw [6, 7] (fun f' i' wr => ∃ (i x y : Nat) (c : Bool), i ≤ L.length ∧ f' = .bool c ∧ i' = .int .i64 i ∧ Hid (c = decide (0 < i)) ∧ Hid (mnE (L.take i) = (x, y)) ∧ Hid (Cells3 wr W1.heap.size 31 (.int .i64 (x : Int)) (.int .i64 (y : Int)) (.int .i64 (2 * (y : Int)))) ∧ Hid (Below W1.heap.size W1 wr)) (fun _ i' _ => L.length - (intOf i').toNat)
  case atStart => exact ⟨0, 0, 0, false, Nat.zero_le _, rfl, rfl, rfl, rfl, HQ, HBW⟩
  case round =>
    obtain ⟨i, x, y, c, hi, rfl, rfl, HK, HX, HC, HB⟩ := hrel
    by_cases hlt : i < L.length
    · obtain ⟨e, he⟩ : ∃ x, L[i]? = some x := ⟨_, List.getElem?_eq_getElem hlt⟩
      obtain ⟨g, rfl⟩ := HAG.out (by omega)
      have HO1 := HV.out.below HB.out
      rw [show L.length = (sqL L).length from (sqL_len L).symm] at HO1
      have p0 := HO1.cell (j := 0) (sqL_at he) rfl
      have p1 := HO1.cell (j := 1) (sqL_at he) rfl
      have p2 := HO1.cell (j := 2) (sqL_at he) rfl
      rw [Nat.add_zero] at p0
      have HEE := Lib.hid he
      obtain ⟨ea, eb⟩ := e
      dsimp only at p0 p1 p2
      have c0 := HC.out.c0
      have c1 := HC.out.c1
      have c2 := HC.out.c2
      have f0 := HC.out.f 0
      have f1 := HC.out.f 1
      have f2 := HC.out.f 2
      have hil : (i : Int) < (L.length : Int) := by omega
      have HKN : Hid (true = decide (0 < i + 1)) := (decide_eq_true (by omega)).symm
      clear he HO1
      by_cases h0 : i = 0
      · subst h0
        obtain rfl : c = false := HK.out
        have HN := Lib.hid (mnE_first HEE.out)
        rw [Nat.zero_mul] at p0
        rw [Nat.zero_mul, Nat.zero_add] at p1 p2
        have hl0 : 0 < L.length := hlt
        go_wp2_with fail
        go_quiet (fail)
        go_wp2
        go_roundw
        case rel => exact ⟨1, ea, eb, true, by omega, rfl, rfl, HKN, HN, stored3 (HC.out.below (below_drewN (Below.refl _ _) _)) _ _ _, below3 (below_drewN HB.out _) (Nat.le_refl _) _ _ _⟩
        case measure => simp [intOf]; omega
      · obtain rfl : c = true := by rw [HK.out]; exact decide_eq_true (by omega)
        have hT := mnE_take HEE.out HX.out (by omega)
        by_cases hc : eb < y
        · rw [if_pos hc] at hT
          have HN := Lib.hid hT
          have hcd := decide_eq_true (show (eb : Int) < (y : Int) by omega)
          clear hT
          go_wp2_with fail
          go_quiet (fail)
          go_wp2
          go_roundw
          case rel => exact ⟨i + 1, ea, eb, true, by omega, rfl, by go_num, HKN, HN, stored3 (HC.out.below (below_drewN (Below.refl _ _) _)) _ _ _, below3 (below_drewN HB.out _) (Nat.le_refl _) _ _ _⟩
          case measure => simp [intOf]; omega
        · rw [if_neg hc] at hT
          have HN := Lib.hid hT
          have hcd := decide_eq_false (show ¬ (eb : Int) < (y : Int) by omega)
          clear hT
          go_wp2_with fail
          go_quiet (fail)
          go_wp2
          go_roundw
          case rel => exact ⟨i + 1, x, y, true, by omega, rfl, by go_num, HKN, HN, HC.out.below (below_drewN (Below.refl _ _) _), below_drewN HB.out _⟩
          case measure => simp [intOf]; omega
    · obtain rfl : i = L.length := by omega
      have HE : Hid ((x, y) = mnE L) := by have := HX.out; rw [List.take_length] at this; exact this.symm
      have HZ3 := Lib.hid (HZ1.out.below HB.out)
      have a0 := HZ3.out.c0
      have a1 := HZ3.out.c1
      have a2 := HZ3.out.c2
      have f0 := HZ3.out.f 0
      have f1 := HZ3.out.f 1
      have f2 := HZ3.out.f 2
      have c0 := HC.out.c0
      have c1 := HC.out.c1
      have c2 := HC.out.c2
      have h3 := stored3 HZ3.out (.int .i64 x) (.int .i64 y) (.int .i64 (2 * (y : Int)))
      have r0 := h3.c0
      have r1 := h3.c1
      have r2 := h3.c2
      clear h3
      go_wp2
      refine bodyPost_ret (v := .tuple #[.agg #[.int .i64 (x : Int), .int .i64 (y : Int), .int .i64 (2 * (y : Int))], .bool c]) (by simp [results, Tryz.results20, go_sem, r0, r1, r2]) rfl ?_
      exact ⟨by rw [← HE.out, ← HK.out], below3 (HB1.out.trans (HB.out.mono HB1.out.size)) (Nat.le_refl _) _ _ _⟩
end Fac
end Go.Proofs.YtidfgfgokcflfaaGreat
/- The laws' marks, begun at a later number: behind another argument's. No conditions beyond those that each states. -/
namespace Go.Proofs.YtidfgfgokcflfaaGreat
open Go.ChangeShapes Go.WideShapes Go.ChangeAt Go.RowKit
open Go.PlainAid Plain
open Ints (marks)
set_option linter.unusedVariables false
namespace Seqs
end Seqs
end Go.Proofs.YtidfgfgokcflfaaGreat
/- Slices of rows whose rows are the call's own, whether or not two of them share a block; the laws' tools for slices of rows. No conditions beyond those that each states. -/
namespace Go.Proofs.YtidfgfgokcflfaaGreat
open Go.ChangeShapes Go.WideShapes Go.ChangeAt Go.RowKit
open Go.PlainAid Plain
set_option linter.unusedVariables false
namespace Fac
open Seqs
theorem infoR' : (Tryz.prog.info? 24).map (fun i => (i.zero, i.size, i.bytes)) = some (some (.slice none 0 0), 1, 24) := by kernel_rfl
/-- The slice v of rows is the call's own, from block lo on; its rows are so from block base on. -/
def RowsV (w : World) (lo base : Nat) (v : Value) (rows : List (List Int)) : Prop := ∃ us, Has id 24 w lo v us ∧ us.length = rows.length ∧ ∀ (i : Nat) (u : Value) (r : List Int), us[i]? = some u → rows[i]? = some r → Has (Value.int .i64) 3 w base u r
section
variable {w w' : World} {lo base : Nat} {v : Value} {rows : List (List Int)}
theorem RowsV.below (h : RowsV w lo base v rows) (hb : Below w.heap.size w w') : RowsV w' lo base v rows := by
  obtain ⟨us, h1, h2, h3⟩ := h
  exact ⟨us, h1.below hb, h2, fun i u r hu hr => (h3 i u r hu hr).below hb⟩
theorem RowsV.mono {lo' base' : Nat} (h : RowsV w lo base v rows) (hl : lo' ≤ lo) (hb : base' ≤ base) : RowsV w lo' base' v rows := by
  obtain ⟨us, h1, h2, h3⟩ := h
  exact ⟨us, h1.mono hl, h2, fun i u r hu hr => (h3 i u r hu hr).mono hb⟩
theorem RowsV.liesR (h : RowsV w lo base v rows) : LiesR w v rows := by
  obtain ⟨us, h1, h2, h3⟩ := h
  exact ⟨us, h1.lies, h2, fun i u r hu hr => (h3 i u r hu hr).lies⟩
theorem RowsV.form (h : RowsV w lo base v rows) : ∃ a c, v = .slice a rows.length c := by
  obtain ⟨us, h1, h2, h3⟩ := h
  obtain ⟨a, c, h4, _⟩ := h1.form
  exact ⟨a, c, by rw [h4, h2]⟩
theorem RowsV.nil (h : Has id 24 w lo v []) : RowsV w lo base v [] := ⟨[], h, rfl, fun i u r hu => by simp at hu⟩
theorem RowsV.frame {w0 : World} (h : RowsV w lo base v rows) (hb : Below w0.heap.size w0 w) (hB : w0.heap.size ≤ lo) (hg : w.grownBy w' v.ownBlock) : Below w0.heap.size w0 w' := by
  obtain ⟨us, h1, _⟩ := h
  exact h1.frame hb hB hg
theorem RowsV.other {b : Nat} {u : Value} {xs : List Int} (h : RowsV w lo base v rows) (hu : Has (Value.int .i64) 3 w b u xs) (hg : w.grownBy w' v.ownBlock) : Has (Value.int .i64) 3 w' b u xs := by
  obtain ⟨us, h1, _⟩ := h
  exact hu.grown hg (h1.ne_row hu)
/-- A row of it, its cell. -/
theorem RowsV.row {a : Option Addr} {n c i : Nat} {r : List Int} (h : RowsV w lo base (.slice a n c) rows) (hr : rows[i]? = some r) : ∃ p o ua uc, a = some ⟨p, o, none⟩ ∧ w.cell? ⟨p, o + i, none⟩ = some (.slice ua r.length uc) ∧ Has (Value.int .i64) 3 w base (.slice ua r.length uc) r := by
  obtain ⟨us, h1, h2, h3⟩ := h
  obtain ⟨_, a', c', hv, _, hc⟩ := h1.lies
  injection hv with e1 e2 e3
  subst e1
  have hi : i < us.length := by rw [h2]; exact (List.getElem?_eq_some_iff.1 hr).1
  obtain ⟨p, o, ha, hcell⟩ := hc i _ (List.getElem?_eq_getElem hi)
  have hh := h3 i _ r (List.getElem?_eq_getElem hi) hr
  obtain ⟨ua, uc, hu, _⟩ := hh.form
  rw [hu] at hh
  refine ⟨p, o, ua, uc, ha, ?_, hh⟩
  rw [hcell]
  exact congrArg some hu
end
/-- 'v = append(v, x)', x a row of the call's own; where the slice lies then. -/
theorem wpList_append_rowV2 {P : Program} {wr : World} {lo base : Nat} {rows : List (List Int)} {ops : Array Oper} {rest : List Oper} {o : Oper} {a : Act} {Q : Exit → Act → World → Prop} (hgd : o.guard = none) (s x : Operand) (t : TypeId)
    (ho : o.op = .call { callee := .builtin .append, args := #[s, x], argTypes := #[t, t] })
    (i : TypeInfo) (ht : P.underlying t = some (.slice 24)) (hi' : P.info? 24 = some i) (hz : i.zero = some (.slice none 0 0))
    (hsize : i.size = 1) (hby : i.bytes = 24) (v : Value) (hs : a.eval s = v) (hown : RowsV wr lo base v rows) (u : Value) (r : List Int) (hu : Has (Value.int .i64) 3 wr base u r)
    (g : Nat) (hx : a.eval x = .slice (some ⟨g, 0, none⟩) 1 1) (hgs : g = wr.heap.size) (hlen : rows.length ≤ 100000) (hlo : lo ≤ wr.heap.size)
    (h : ∀ v' w', RowsV w' lo base v' (rows ++ [r]) → wr.grownBy w' v.ownBlock → (∀ k, v'.ownBlock = some k → v.ownBlock = some k ∨ wr.heap.size ≤ k) → wpList P ops Q rest (a.put o.dst v') w') :
    wpList P ops Q (o :: rest) a (wr.alloc (.cells #[u] 24)) := by
  subst hgs
  obtain ⟨us, h1, h2, h3⟩ := hown
  have hu1 : u.oneCell' = true := by
    obtain ⟨a, c, h5, _⟩ := hu.form
    rw [h5]
    rfl
  refine wpList_append_list (enc := id) (e := 24) hgd s x t ho lo i (.slice none 0 0) 24 ht hi' hz hsize hby rfl v us hs (has_alloc h1 _) (.slice (some ⟨wr.heap.size, 0, none⟩) 1 1) [u] hx (lies_lit1v u rfl) (fun y hy => by simp at hy; subst hy; exact hu1) (by simp; omega) (by simp; omega) (by simp; omega) ?_
  intro v' w' hv' hg hbk
  have hg' : wr.grownBy w' v.ownBlock := grown_alloc hg
  refine h v' w' ⟨us ++ [u], hv', by simp [h2], fun j y z hy hz => ?_⟩ hg' (fun k hk => (hbk k hk).imp id fun h => by simp at h; omega)
  by_cases hj : j < us.length
  · rw [List.getElem?_append_left hj] at hy
    rw [List.getElem?_append_left (by rw [← h2]; exact hj)] at hz
    have := h3 j y z hy hz
    exact this.grown hg' (h1.ne_row this)
  · have e1 : j = us.length := by have := (List.getElem?_eq_some_iff.1 hy).1; simp at this; omega
    subst e1
    rw [List.getElem?_append_right (Nat.le_refl _)] at hy
    rw [h2, List.getElem?_append_right (Nat.le_refl _)] at hz
    simp at hy hz
    subst hy; subst hz
    exact hu.grown hg' (h1.ne_row hu)
/-- 'v = append(v, x)', x a row of the call's own. -/
theorem wpList_append_rowV {P : Program} {wr : World} {lo base : Nat} {rows : List (List Int)} {ops : Array Oper} {rest : List Oper} {o : Oper} {a : Act} {Q : Exit → Act → World → Prop} (hgd : o.guard = none) (s x : Operand) (t : TypeId)
    (ho : o.op = .call { callee := .builtin .append, args := #[s, x], argTypes := #[t, t] })
    (i : TypeInfo) (ht : P.underlying t = some (.slice 24)) (hi' : P.info? 24 = some i) (hz : i.zero = some (.slice none 0 0))
    (hsize : i.size = 1) (hby : i.bytes = 24) (v : Value) (hs : a.eval s = v) (hown : RowsV wr lo base v rows) (u : Value) (r : List Int) (hu : Has (Value.int .i64) 3 wr base u r)
    (g : Nat) (hx : a.eval x = .slice (some ⟨g, 0, none⟩) 1 1) (hgs : g = wr.heap.size) (hlen : rows.length ≤ 100000) (hlo : lo ≤ wr.heap.size)
    (h : ∀ v' w', RowsV w' lo base v' (rows ++ [r]) → wr.grownBy w' v.ownBlock → wpList P ops Q rest (a.put o.dst v') w') :
    wpList P ops Q (o :: rest) a (wr.alloc (.cells #[u] 24)) :=
    wpList_append_rowV2 hgd s x t ho i ht hi' hz hsize hby v hs hown u r hu g hx hgs hlen hlo fun v' w' h1 h2 _ => h v' w' h1 h2
/-- 'v = append(v, x)', x an int; where the slice lies then. -/
theorem append_one2 {P : Program} (wr : World) {ops : Array Oper} {rest : List Oper} {o : Oper} {a : Act} {Q : Exit → Act → World → Prop} (hgd : o.guard = none) (s x : Operand) (t : TypeId)
    (ho : o.op = .call { callee := .builtin .append, args := #[s, x], argTypes := #[t, t] })
    (base : Nat) (i : TypeInfo) (ht : P.underlying t = some (.slice 3)) (hi : P.info? 3 = some i) (hz : i.zero = some (.int .i64 0))
    (hsize : i.size = 1) (hby : i.bytes = 8)
    (v : Value) (xs : List Int) (hs : a.eval s = v) (hown : Has (Value.int .i64) 3 wr base v xs) (y : Int) (hx : a.eval x = .slice (some ⟨wr.heap.size, 0, none⟩) 1 1)
    (hlen : xs.length ≤ 100000000) (hb2 : base ≤ wr.heap.size)
    (h : ∀ v' w', Has (Value.int .i64) 3 w' base v' (xs ++ [y]) → wr.grownBy w' v.ownBlock → (∀ k, v'.ownBlock = some k → v.ownBlock = some k ∨ wr.heap.size ≤ k) → wpList P ops Q rest (a.put o.dst v') w') :
    wpList P ops Q (o :: rest) a (wr.alloc (.cells #[.int .i64 y] 3)) := by
  refine wpList_append_list (enc := (Value.int .i64)) (e := 3) hgd s x t ho base i (.int .i64 0) 8 ht hi hz hsize hby rfl v xs hs (has_alloc hown _) (.slice (some ⟨wr.heap.size, 0, none⟩) 1 1) [y] hx (lies_lit1 (enc := (Value.int .i64)) y rfl) (fun _ _ => rfl) (by simp; omega) (by simp; omega) (by simp; omega) ?_
  intro v' w' hv' hg hbk
  exact h v' w' hv' (grown_alloc hg) (fun k hk => (hbk k hk).imp id fun h => by simp at h; omega)
/-- Two slices of the call's own share no block. -/
def Apart (u v : Value) : Prop := u.ownBlock = none ∨ u.ownBlock ≠ v.ownBlock
theorem Apart.step {u v v' : Value} {W : World} (h : Apart u v) (hk : ∀ k, v'.ownBlock = some k → v.ownBlock = some k ∨ W.heap.size ≤ k) (hu : ∀ k, u.ownBlock = some k → k < W.heap.size) : Apart u v' := by
  unfold Apart at *
  cases hb : u.ownBlock with
  | none => exact .inl rfl
  | some k =>
    refine .inr fun e => ?_
    rcases hk k e.symm with h1 | h1
    · rcases h with h2 | h2
      · rw [hb] at h2; cases h2
      · exact h2 (by rw [hb, h1])
    · have := hu k hb
      omega
theorem RowsV.grown {w w' : World} {lo base lo' : Nat} {v vo : Value} {rows : List (List Int)} {us' : List Value} (h : RowsV w lo base v rows) (ho : Has id 24 w lo' vo us') (hg : w.grownBy w' vo.ownBlock) (hap : Apart v vo) : RowsV w' lo base v rows := by
  obtain ⟨us, h1, h2, h3⟩ := h
  exact ⟨us, h1.grown hg hap, h2, fun i u r hu hr => (h3 i u r hu hr).grown hg (ho.ne_row (h3 i u r hu hr))⟩
theorem RowsV.grown' {w w' : World} {lo base lo' base' : Nat} {v vo : Value} {rows rows' : List (List Int)} (h : RowsV w lo base v rows) (ho : RowsV w lo' base' vo rows') (hg : w.grownBy w' vo.ownBlock) (hap : Apart v vo) : RowsV w' lo base v rows := by
  obtain ⟨us', h1, _⟩ := ho
  exact h.grown h1 hg hap
theorem RowsV.lt {w : World} {lo base : Nat} {v : Value} {rows : List (List Int)} (h : RowsV w lo base v rows) : ∀ k, v.ownBlock = some k → lo ≤ k ∧ k < w.heap.size := by
  obtain ⟨us, h1, _⟩ := h
  exact h1.lt
/-- The slice v of rows lies, whole, in the blocks from lo to hi. -/
def OwnV (w : World) (lo hi : Nat) (v : Value) (rows : List (List Int)) : Prop := ∃ us, Has id 24 w lo v us ∧ (∀ k, v.ownBlock = some k → k < hi) ∧ hi ≤ w.heap.size ∧ us.length = rows.length ∧ ∀ (i : Nat) (u : Value) (r : List Int), us[i]? = some u → rows[i]? = some r → OwnI w lo hi u r
section
variable {w w' : World} {lo hi : Nat} {v : Value} {rows : List (List Int)}
theorem OwnV.below (h : OwnV w lo hi v rows) (hb : Below w.heap.size w w') : OwnV w' lo hi v rows := by
  obtain ⟨us, h1, h2, h3, h4, h5⟩ := h
  exact ⟨us, h1.below hb, h2, Nat.le_trans h3 hb.size, h4, fun i u r hu hr => (h5 i u r hu hr).below hb⟩
theorem OwnV.touch {lo' hi' : Nat} (h : OwnV w lo hi v rows) (ht : Plain.Touch lo' hi' w w') (hd : hi ≤ lo' ∨ hi' ≤ lo) : OwnV w' lo hi v rows := by
  obtain ⟨us, h1, h2, h3, h4, h5⟩ := h
  exact ⟨us, h1.of_same fun k hk => ht.block k (h1.lt k hk).2 (by have := (h1.lt k hk).1; have := h2 k hk; omega), h2, Nat.le_trans h3 ht.size, h4, fun i u r hu hr => (h5 i u r hu hr).touch ht hd⟩
theorem OwnV.lies (h : OwnV w lo hi v rows) : LiesR w v rows := by
  obtain ⟨us, h1, h2, h3, h4, h5⟩ := h
  exact ⟨us, h1.lies, h4, fun i u r hu hr => (h5 i u r hu hr).lies⟩
theorem RowsV.own {base : Nat} (h : RowsV w base base v rows) : OwnV w base w.heap.size v rows := by
  obtain ⟨us, h1, h2, h3⟩ := h
  exact ⟨us, h1, fun k hk => (h1.lt k hk).2, Nat.le_refl _, h2, fun i u r hu hr => own_of_has (h3 i u r hu hr)⟩
end
/-- Calls that hand back new rows: of the model; of the program; each with a bool too. -/
def GivesV (rows : List (List Int)) (w : World) (e : Ending) (w' : World) : Prop := ∃ v, e = .returned v ∧ OwnV w' w.heap.size w'.heap.size v rows ∧ Below w.heap.size w w'
def GivesVK (rows : List (List Int)) (k : Bool) (w : World) (e : Ending) (w' : World) : Prop := ∃ v, e = .returned (.tuple #[v, .bool k]) ∧ OwnV w' w.heap.size w'.heap.size v rows ∧ Below w.heap.size w w'
def GivesRK (rows : List (List Int)) (k : Bool) (w : World) (e : Ending) (w' : World) : Prop := ∃ v us, e = .returned (.tuple #[v, .bool k]) ∧ OwnR w' w.heap.size w'.heap.size v us rows ∧ Below w.heap.size w w'
end Fac
end Go.Proofs.YtidfgfgokcflfaaGreat
