/- Contracts of the program's longestWithPeriod, greatestExponents, isOverlap, compare, lowestTerms, HasOverlap, HasPower, HasSquare, GreatestExponent and ExponentOf. No conditions beyond those that each states. -/
import Derived.Test.YtojmlhcgghaceaaPowS
import Derived.Test.YtojmlhcgghaceaaRootI
namespace Go.Proofs.Ytojmlhcgghaceaa
open Go.ChangeShapes Go.WideShapes Go.ChangeAt Go.RowKit
open Go.PlainAid Plain
set_option linter.unusedVariables false
namespace Fac
set_option maxHeartbeats 2000000 in
theorem long (v : Value) (u : List Int) (p : Nat) (w : World) (h : Lies (Value.int .i64) w v u) (hs : u.length ≤ 4194304) (hp : 0 < p) (hpl : p ≤ u.length) :
    Calls Try.prog 52 #[v, .int .i64 p] w fun e w' => e = .returned (.int .i64 (lg u p)) ∧ Below w.heap.size w w' := by
  obtain ⟨pa, pc, rfl⟩ := lies_shape h
  have HU := Lib.hid h
  clear h
  go_enter Try.func52, Try.ntmps52
  go_wp2
  go_loopw [5, 6, 7] (fun l' g' i' wr => ∃ k l g i : Nat, i = p + k ∧ i ≤ u.length ∧ l ≤ u.length ∧ g ≤ u.length ∧ l' = .int .i64 l ∧ g' = .int .i64 g ∧ i' = .int .i64 i ∧ Hid (lgT u p k = (l, g)) ∧ Hid (Below w.heap.size w wr)) (fun _ _ i' _ => u.length - (intOf i').toNat)
  case atStart => exact ⟨0, p, p, p, rfl, hpl, hpl, hpl, rfl, rfl, rfl, rfl, Below.refl _ _⟩
  case round =>
    obtain ⟨k, l, g, i, hi, hil, hll, hgl, rfl, rfl, rfl, HT, HB⟩ := hrel
    by_cases hlt : i < u.length
    · have e2 : (i : Int) - (p : Int) = (k : Int) := by omega
      obtain ⟨x, hx⟩ : ∃ x, u[i]? = some x := ⟨_, List.getElem?_eq_getElem hlt⟩
      obtain ⟨y, hy⟩ : ∃ y, u[k]? = some y := ⟨_, List.getElem?_eq_getElem (by omega)⟩
      obtain ⟨q, r, hpa, hc1⟩ := lies_cell (HU.out.below HB.out) hx
      subst hpa
      obtain ⟨_, _, hpa, hc2⟩ := lies_cell (HU.out.below HB.out) hy
      cases hpa
      have hkl : k < u.length := by omega
      have hx2 := hx
      rw [hi] at hx2
      have hle := lgT_le (u := u) (p := p) (k := k + 1) (by omega)
      have HI := Lib.hid hi
      by_cases hxy : x = y
      · have hT := lgT_yes hx2 hy hxy
        rw [HT.out] at hT
        rw [hT] at hle
        have HT2 := Lib.hid hT
        have hd : (x == y) = true := by simpa using hxy
        have hl1 := hle.2.1
        have HLE := Lib.hid hle
        clear hx hy hx2 hxy hi hT hle
        go_wp2_with fail
        go_quiet (fail)
        go_wp2
        go_roundw
        case rel => exact ⟨k + 1, l + 1, max g (l + 1), i + 1, by have := HI.out; omega, by omega, hl1, HLE.out.2.2.2, by go_num, congrArg (Value.int .i64) (by omega), by go_num, HT2, Lib.hid (below_drewN HB.out _)⟩
        case measure => simp [intOf]; omega
      · have hT := lgT_no hx2 hy hxy
        rw [HT.out] at hT
        rw [hT] at hle
        have HT2 := Lib.hid hT
        have hd : (x == y) = false := by simpa using hxy
        have hl1 := hle.2.1
        have HLE := Lib.hid hle
        clear hx hy hx2 hxy hi hT hle
        go_wp2_with fail
        go_quiet (fail)
        go_wp2
        go_roundw
        case rel => exact ⟨k + 1, p, max g p, i + 1, by have := HI.out; omega, by omega, hl1, HLE.out.2.2.2, rfl, congrArg (Value.int .i64) (by omega), by go_num, HT2, Lib.hid (below_drewN HB.out _)⟩
        case measure => simp [intOf]; omega
    · have HE : Hid (g = lg u p) := by
        show _ = (lgT u p (u.length - p)).2
        rw [show u.length - p = k from by omega, HT.out]
      go_wp2
      go_ret
      exact ⟨ret_i (by rw [← HE.out]), HB.out⟩
def exL (l : List (Nat × Nat)) : List (List Int) := l.map fun e => [(e.1 : Int), (e.2 : Int)]
theorem exL_append (l m : List (Nat × Nat)) : exL (l ++ m) = exL l ++ exL m := by simp [exL]
theorem exL_len (l : List (Nat × Nat)) : (exL l).length = l.length := by simp [exL]
theorem exL_at {l : List (Nat × Nat)} {i : Nat} {e : Nat × Nat} (h : l[i]? = some e) : (exL l)[i]? = some [(e.1 : Int), (e.2 : Int)] := by simp [exL, h]
theorem infoE : (Try.prog.info? 44).map (fun i => (i.zero, i.size, i.bytes)) = some (some (.agg #[.int .i64 0, .int .i64 0]), 2, 16) := by kernel_rfl
set_option maxRecDepth 100000 in
set_option maxHeartbeats 2000000 in
theorem exps_I (v : Value) (u : List Int) (w : World) (h : Lies (Value.int .i64) w v u) (hs : u.length ≤ 1000) :
    Calls Try.prog 37 #[v] w (GivesT 44 2 (exL (exps u u.length)) w) := by
  obtain ⟨i0, hi, hz0, hz1, hz2⟩ := info_parts infoE
  obtain ⟨pa, pc, rfl⟩ := lies_shape h
  have HU := Lib.hid h
  clear h
  go_enter Try.func37, Try.ntmps37
  go_wp2
  go_loopw [3, 4] (fun o' p' wr => ∃ (P : Nat) (vo : Value), 0 < P ∧ P ≤ u.length + 1 ∧ vo = o' ∧ p' = .int .i64 P ∧ Hid (OwnT 44 2 wr w.heap.size vo (exL (exps u (P - 1)))) ∧ Hid (Below w.heap.size w wr)) (fun _ p' _ => u.length + 1 - (intOf p').toNat)
  case atStart => exact ⟨1, _, by omega, by omega, rfl, rfl, OwnT.nil _ _, Below.refl _ _⟩
  case round =>
    obtain ⟨P, vo, hP, hPl, rfl, rfl, HOr, HBr⟩ := hrel
    obtain ⟨oa, oc, hvo, _⟩ := HOr.out.form
    have hll : (exL (exps u (P - 1))).length ≤ 1000 := by rw [exL_len, exps_len]; omega
    have HL := Lib.hid hll
    subst hvo
    by_cases hin : P ≤ u.length
    · have HM := Lib.hid (long _ u P wr (HU.out.below HBr.out) (by omega) hP hin)
      have HN : Hid (exL (exps u (P - 1)) ++ [[(lg u P : Int), (P : Int)]] = exL (exps u (P + 1 - 1))) := by
        show _ = _
        obtain ⟨k, rfl⟩ : ∃ k, P = k + 1 := ⟨P - 1, by omega⟩
        rw [Nat.add_sub_cancel, Nat.add_sub_cancel, exps_succ, exL_append]
        rfl
      obtain ⟨m, hm⟩ : ∃ m, m = lg u P := ⟨_, rfl⟩
      rw [← hm] at HM HN
      clear hm hll
      go_wp2_with (first | (go_at_call 52; refine HM.out.mono ?_; rintro e W1 ⟨rfl, b1⟩; have HO1 := Lib.hid (HOr.out.below b1); have HB1 := Lib.hid (HBr.out.trans (b1.mono HBr.out.size)); clear b1) | (at_builtin; refine append_t (e := 44) (k := 2) rfl _ _ 42 rfl i0 _ 16 Try.underlying42 hi hz0 hz1 hz2 rfl (by omega) _ rfl HO1.out [(m : Int), (P : Int)] rfl _ rfl rfl _ rfl (by have := HL.out; omega) (by omega) HB1.out.size ?_; intro v2 w2 ho hg; have HO2 := Lib.hid ho; have HB2 := Lib.hid (HO1.out.frame HB1.out (Nat.le_refl _) hg); clear ho hg))
      go_roundw
      case rel => exact ⟨P + 1, _, by omega, by omega, rfl, by go_num, by rw [← HN.out]; exact HO2, HB2⟩
      case measure => simp [intOf]; omega
    · obtain rfl : P = u.length + 1 := by omega
      have HE := Lib.hid (show OwnT 44 2 wr w.heap.size _ (exL (exps u u.length)) from HOr.out)
      go_wp2
      go_ret
      exact GivesT.of HE.out HBr.out
set_option maxHeartbeats 1000000 in
theorem is_ov (e : Nat × Nat) (w : World) (h1 : e.1 ≤ 100000) (h2 : e.2 ≤ 100000) :
    Calls Try.prog 38 #[(.agg #[.int .i64 (e.1 : Int), .int .i64 (e.2 : Int)])] w fun en w' => en = .returned (.bool (decide (e.1 > 2 * e.2))) ∧ Below w.heap.size w w' := by
  obtain ⟨a, b⟩ := e
  have HD : Hid (decide ((a : Int) > 2 * (b : Int)) = decide (a > 2 * b)) := decide_eq_decide.2 ⟨fun e => by omega, fun e => by omega⟩
  dsimp only at h1 h2 ⊢
  go_enter Try.func38, Try.ntmps38
  go_wp2
  go_ret
  exact ⟨ret_b HD.out, (Below.refl _ _).alloc (Nat.le_refl _) _⟩
/-- What 'compare' answers. -/
def cpE (e f : Nat × Nat) : Int := Lib.compareInt ((e.1 : Int) * (f.2 : Int)) ((f.1 : Int) * (e.2 : Int))
theorem cpE_ge (e f : Nat × Nat) : decide (cpE e f ≥ 0) = decide ((e.1 : Int) * (f.2 : Int) ≥ (f.1 : Int) * (e.2 : Int)) := by
  unfold cpE Lib.compareInt
  by_cases h1 : (e.1 : Int) * (f.2 : Int) < (f.1 : Int) * (e.2 : Int)
  · rw [if_pos h1, decide_eq_false (by omega), decide_eq_false (by omega)]
  · rw [if_neg h1, decide_eq_true (p := (e.1 : Int) * (f.2 : Int) ≥ (f.1 : Int) * (e.2 : Int)) (by omega)]
    split <;> rfl
theorem cpE_gt (e f : Nat × Nat) : cpE e f > 0 ↔ e.1 * f.2 > f.1 * e.2 := by
  unfold cpE Lib.compareInt
  have h0 : ((e.1 * f.2 : Nat) : Int) = (e.1 : Int) * (f.2 : Int) := by simp
  have h9 : ((f.1 * e.2 : Nat) : Int) = (f.1 : Int) * (e.2 : Int) := by simp
  by_cases h1 : (e.1 : Int) * (f.2 : Int) < (f.1 : Int) * (e.2 : Int)
  · rw [if_pos h1]; constructor
    · intro h; omega
    · intro h; omega
  · rw [if_neg h1]
    by_cases h2 : (e.1 : Int) * (f.2 : Int) > (f.1 : Int) * (e.2 : Int)
    · rw [if_pos h2]; constructor
      · intro h; omega
      · intro h; omega
    · rw [if_neg h2]; constructor
      · intro h; omega
      · intro h; omega
theorem cpE_range (e f : Nat × Nat) : -1 ≤ cpE e f ∧ cpE e f ≤ 1 := by
  unfold cpE Lib.compareInt
  split
  · omega
  · split <;> omega
set_option maxHeartbeats 1000000 in
theorem comp (e f : Nat × Nat) (w : World) (h1 : e.1 ≤ 100000) (h2 : e.2 ≤ 100000) (h3 : f.1 ≤ 100000) (h4 : f.2 ≤ 100000) :
    Calls Try.prog 41 #[(.agg #[.int .i64 (e.1 : Int), .int .i64 (e.2 : Int)]), .agg #[.int .i64 (f.1 : Int), .int .i64 (f.2 : Int)]] w fun en w' => en = .returned (.int .i64 (cpE e f)) ∧ Below w.heap.size w w' := by
  have hf1 := mul_fits h1 h4
  have hf2 := mul_fits h3 h2
  have HC := Lib.hid (cmp_int ((e.1 : Int) * (f.2 : Int)) ((f.1 : Int) * (e.2 : Int)))
  have HX : Hid (Lib.compareInt ((e.1 : Int) * (f.2 : Int)) ((f.1 : Int) * (e.2 : Int)) = cpE e f) := rfl
  obtain ⟨a, b⟩ := e
  obtain ⟨c, d⟩ := f
  dsimp only at h1 h2 h3 h4 hf1 hf2 HC HX ⊢
  obtain ⟨f1, f2⟩ := hf1
  obtain ⟨f3, f4⟩ := hf2
  go_enter Try.func41, Try.ntmps41
  go_wp2_with fail
  refine (HC.out _).mono ?_
  rintro e W1 ⟨rfl, rfl⟩
  go_wp2
  go_ret
  exact ⟨ret_i HX.out, ((Below.refl _ _).alloc (Nat.le_refl _) _).alloc (by simp) _⟩
set_option maxHeartbeats 1000000 in
theorem clos (e f : Nat × Nat) (b : Nat) (w : World) (h1 : e.1 ≤ 100000) (h2 : e.2 ≤ 100000) (h3 : f.1 ≤ 100000) (h4 : f.2 ≤ 100000) (hb : CellsN w b 44 [.int .i64 (f.1 : Int), .int .i64 (f.2 : Int)]) :
    Calls Try.prog 40 #[(.agg #[.int .i64 (e.1 : Int), .int .i64 (e.2 : Int)]), .pointer (some ⟨b, 0, none⟩)] w fun en w' => en = .returned (.bool (decide ((e.1 : Int) * (f.2 : Int) ≥ (f.1 : Int) * (e.2 : Int)))) ∧ Below w.heap.size w w' := by
  have HX : Hid (decide (cpE e f ≥ 0) = decide ((e.1 : Int) * (f.2 : Int) ≥ (f.1 : Int) * (e.2 : Int))) := cpE_ge e f
  have HC := Lib.hid (fun W => comp e f W h1 h2 h3 h4)
  obtain ⟨z, hz⟩ : ∃ z, z = cpE e f := ⟨_, rfl⟩
  rw [← hz] at HX HC
  clear hz
  obtain ⟨a, c⟩ := e
  obtain ⟨n, d⟩ := f
  dsimp only at h1 h2 h3 h4 hb HC HX ⊢
  have hbl := hb.lt
  have hb2 := hb.below ((Below.refl w.heap.size w).alloc (Nat.le_refl _) (.cells #[.int .i64 (a : Int), .int .i64 (c : Int)] 44))
  have c0 := hb2.at_ (i := 0) rfl
  have c1 := hb2.at_ (i := 1) rfl
  clear hb hb2
  go_enter Try.func40, Try.ntmps40
  go_wp2_with fail
  refine (HC.out _).mono ?_
  rintro e W1 ⟨rfl, b1⟩
  have HB : Hid (Below w.heap.size w W1) := ((Below.refl _ _).alloc (Nat.le_refl _) _).trans (b1.mono (by simp))
  clear b1
  go_wp2
  go_ret
  exact ⟨ret_b HX.out, HB.out⟩
set_option maxHeartbeats 2000000 in
theorem index_ov (v : Value) (L : List (Nat × Nat)) (cap : Array Value) (p : Nat × Nat → Bool) (base : Nat) (w : World) (h : OwnT 44 2 w base v (exL L))
    (hp : Hid (∀ e ∈ L, ∀ W, Below w.heap.size w W → Calls Try.prog 38 (#[(.agg #[.int .i64 (e.1 : Int), .int .i64 (e.2 : Int)])] ++ cap) W fun en w' => en = .returned (.bool (p e)) ∧ Below W.heap.size W w')) :
    Calls Try.prog 51 #[v, .func (.func 38) #[] cap] w fun e w' => ∃ r : Int, e = .returned (.int .i64 r) ∧ decide (r ≥ 0) = L.any p ∧ -1 ≤ r ∧ r ≤ 9223372036854775807 ∧ Below w.heap.size w w' := by
  have eg : ∀ args w, (callFunc 38 args).run Try.prog w = .ok (.enter 38 args) w := enters_of Try.func38 (by kernel_rfl) rfl
  obtain ⟨a, c, rfl, hag⟩ := h.form
  have hsm := h.small
  have HO := Lib.hid h
  have HG := Lib.hid hag
  rw [exL_len] at hsm ⊢
  clear h hag
  go_enter Try.func51, Try.ntmps51
  go_wp2
  go_loopw [8] (fun i' wr => ∃ i : Nat, i ≤ L.length ∧ i' = .int .i64 i ∧ Hid (∀ (j : Nat) (y : Nat × Nat), j < i → L[j]? = some y → p y = false) ∧ Hid (Below w.heap.size w wr)) (fun i' _ => L.length - (intOf i').toNat)
  case atStart => exact ⟨0, Nat.zero_le _, rfl, fun j x h => by omega, Below.refl _ _⟩
  case round =>
    obtain ⟨i, hi, rfl, HI, HB⟩ := hrel
    by_cases hlt : i < L.length
    · obtain ⟨e, he⟩ : ∃ x, L[i]? = some x := ⟨_, List.getElem?_eq_getElem hlt⟩
      obtain ⟨g, rfl⟩ := HG.out (by rw [exL_len]; omega)
      have HO1 := HO.out.below HB.out
      have p0 := HO1.cell (j := 0) (exL_at he) rfl
      have p1 := HO1.cell (j := 1) (exL_at he) rfl
      rw [Nat.add_zero] at p0
      have HX := Lib.hid he
      have HP := Lib.hid (hp.out e (List.mem_of_getElem? he) wr HB.out)
      obtain ⟨t, ht⟩ : ∃ c, c = p e := ⟨_, rfl⟩
      rw [← ht] at HP
      have HCC := Lib.hid ht
      clear ht he HO1
      obtain ⟨ea, eb⟩ := e
      dsimp only at p0 p1 HP
      have hil : (i : Int) < (L.length : Int) := by omega
      cases t with
      | true =>
        have HE : Hid (true = L.any p) := (List.any_eq_true.2 ⟨_, List.mem_of_getElem? HX.out, HCC.out.symm⟩).symm
        have hge := decide_eq_true (show (i : Int) ≥ 0 by omega)
        go_wp2_with (go_at_fn 38; refine HP.out.mono ?_; rintro e w' ⟨rfl, b1⟩; have HB1 := Lib.hid (HB.out.trans (b1.mono HB.out.size)); clear b1)
        go_ret
        exact ⟨_, rfl, hge.trans HE.out, by omega, by omega, HB1.out⟩
      | false =>
        have HN : Hid (∀ (j : Nat) (y : Nat × Nat), j < i + 1 → L[j]? = some y → p y = false) := fun j y hj hy => by
          by_cases e : j = i
          · subst e
            obtain rfl := Option.some.inj (HX.out.symm.trans hy)
            exact HCC.out.symm
          · exact HI.out j y (by omega) hy
        go_wp2_with (go_at_fn 38; refine HP.out.mono ?_; rintro e w' ⟨rfl, b1⟩; have HB1 := Lib.hid (HB.out.trans (b1.mono HB.out.size)); clear b1)
        go_roundw
        case rel => exact ⟨i + 1, by omega, by go_num, HN, HB1⟩
        case measure => simp [intOf]; omega
    · have HE : Hid (false = L.any p) := by
        show _ = _
        rw [eq_comm, ← Bool.not_eq_true, List.any_eq_true]
        rintro ⟨x, hx, hpx⟩
        obtain ⟨j, hj⟩ := List.getElem?_of_mem hx
        rw [HI.out j x (by have := (List.getElem?_eq_some_iff.1 hj).1; omega) hj] at hpx
        cases hpx
      go_wp2
      go_ret
      exact ⟨_, rfl, HE.out, by omega, by omega, HB.out⟩
theorem any_ov (v : Value) (L : List (Nat × Nat)) (cap : Array Value) (p : Nat × Nat → Bool) (base : Nat) (w : World) (h : OwnT 44 2 w base v (exL L))
    (hp : Hid (∀ e ∈ L, ∀ W, Below w.heap.size w W → Calls Try.prog 38 (#[(.agg #[.int .i64 (e.1 : Int), .int .i64 (e.2 : Int)])] ++ cap) W fun en w' => en = .returned (.bool (p e)) ∧ Below W.heap.size W w')) :
    Calls Try.prog 36 #[v, .func (.func 38) #[] cap] w fun e w' => e = .returned (.bool (L.any p)) ∧ Below w.heap.size w w' := by
  have HL := Lib.hid h
  clear h
  go_enter Try.func36, Try.ntmps36
  go_wp2_with fail
  refine (index_ov v L cap p base w HL.out hp).mono ?_
  rintro e w' ⟨r, rfl, hr, h1, h2, b⟩
  have HR := Lib.hid hr
  have HB := Lib.hid b
  clear hr b
  go_wp2
  go_ret
  exact ⟨ret_b HR.out, HB.out⟩
set_option maxHeartbeats 2000000 in
theorem index_pow (v : Value) (L : List (Nat × Nat)) (cap : Array Value) (p : Nat × Nat → Bool) (base : Nat) (w : World) (h : OwnT 44 2 w base v (exL L))
    (hp : Hid (∀ e ∈ L, ∀ W, Below w.heap.size w W → Calls Try.prog 40 (#[(.agg #[.int .i64 (e.1 : Int), .int .i64 (e.2 : Int)])] ++ cap) W fun en w' => en = .returned (.bool (p e)) ∧ Below W.heap.size W w')) :
    Calls Try.prog 51 #[v, .func (.func 40) #[] cap] w fun e w' => ∃ r : Int, e = .returned (.int .i64 r) ∧ decide (r ≥ 0) = L.any p ∧ -1 ≤ r ∧ r ≤ 9223372036854775807 ∧ Below w.heap.size w w' := by
  have eg : ∀ args w, (callFunc 40 args).run Try.prog w = .ok (.enter 40 args) w := enters_of Try.func40 (by kernel_rfl) rfl
  obtain ⟨a, c, rfl, hag⟩ := h.form
  have hsm := h.small
  have HO := Lib.hid h
  have HG := Lib.hid hag
  rw [exL_len] at hsm ⊢
  clear h hag
  go_enter Try.func51, Try.ntmps51
  go_wp2
  go_loopw [8] (fun i' wr => ∃ i : Nat, i ≤ L.length ∧ i' = .int .i64 i ∧ Hid (∀ (j : Nat) (y : Nat × Nat), j < i → L[j]? = some y → p y = false) ∧ Hid (Below w.heap.size w wr)) (fun i' _ => L.length - (intOf i').toNat)
  case atStart => exact ⟨0, Nat.zero_le _, rfl, fun j x h => by omega, Below.refl _ _⟩
  case round =>
    obtain ⟨i, hi, rfl, HI, HB⟩ := hrel
    by_cases hlt : i < L.length
    · obtain ⟨e, he⟩ : ∃ x, L[i]? = some x := ⟨_, List.getElem?_eq_getElem hlt⟩
      obtain ⟨g, rfl⟩ := HG.out (by rw [exL_len]; omega)
      have HO1 := HO.out.below HB.out
      have p0 := HO1.cell (j := 0) (exL_at he) rfl
      have p1 := HO1.cell (j := 1) (exL_at he) rfl
      rw [Nat.add_zero] at p0
      have HX := Lib.hid he
      have HP := Lib.hid (hp.out e (List.mem_of_getElem? he) wr HB.out)
      obtain ⟨t, ht⟩ : ∃ c, c = p e := ⟨_, rfl⟩
      rw [← ht] at HP
      have HCC := Lib.hid ht
      clear ht he HO1
      obtain ⟨ea, eb⟩ := e
      dsimp only at p0 p1 HP
      have hil : (i : Int) < (L.length : Int) := by omega
      cases t with
      | true =>
        have HE : Hid (true = L.any p) := (List.any_eq_true.2 ⟨_, List.mem_of_getElem? HX.out, HCC.out.symm⟩).symm
        have hge := decide_eq_true (show (i : Int) ≥ 0 by omega)
        go_wp2_with (go_at_fn 40; refine HP.out.mono ?_; rintro e w' ⟨rfl, b1⟩; have HB1 := Lib.hid (HB.out.trans (b1.mono HB.out.size)); clear b1)
        go_ret
        exact ⟨_, rfl, hge.trans HE.out, by omega, by omega, HB1.out⟩
      | false =>
        have HN : Hid (∀ (j : Nat) (y : Nat × Nat), j < i + 1 → L[j]? = some y → p y = false) := fun j y hj hy => by
          by_cases e : j = i
          · subst e
            obtain rfl := Option.some.inj (HX.out.symm.trans hy)
            exact HCC.out.symm
          · exact HI.out j y (by omega) hy
        go_wp2_with (go_at_fn 40; refine HP.out.mono ?_; rintro e w' ⟨rfl, b1⟩; have HB1 := Lib.hid (HB.out.trans (b1.mono HB.out.size)); clear b1)
        go_roundw
        case rel => exact ⟨i + 1, by omega, by go_num, HN, HB1⟩
        case measure => simp [intOf]; omega
    · have HE : Hid (false = L.any p) := by
        show _ = _
        rw [eq_comm, ← Bool.not_eq_true, List.any_eq_true]
        rintro ⟨x, hx, hpx⟩
        obtain ⟨j, hj⟩ := List.getElem?_of_mem hx
        rw [HI.out j x (by have := (List.getElem?_eq_some_iff.1 hj).1; omega) hj] at hpx
        cases hpx
      go_wp2
      go_ret
      exact ⟨_, rfl, HE.out, by omega, by omega, HB.out⟩
theorem any_pow (v : Value) (L : List (Nat × Nat)) (cap : Array Value) (p : Nat × Nat → Bool) (base : Nat) (w : World) (h : OwnT 44 2 w base v (exL L))
    (hp : Hid (∀ e ∈ L, ∀ W, Below w.heap.size w W → Calls Try.prog 40 (#[(.agg #[.int .i64 (e.1 : Int), .int .i64 (e.2 : Int)])] ++ cap) W fun en w' => en = .returned (.bool (p e)) ∧ Below W.heap.size W w')) :
    Calls Try.prog 36 #[v, .func (.func 40) #[] cap] w fun e w' => e = .returned (.bool (L.any p)) ∧ Below w.heap.size w w' := by
  have HL := Lib.hid h
  clear h
  go_enter Try.func36, Try.ntmps36
  go_wp2_with fail
  refine (index_pow v L cap p base w HL.out hp).mono ?_
  rintro e w' ⟨r, rfl, hr, h1, h2, b⟩
  have HR := Lib.hid hr
  have HB := Lib.hid b
  clear hr b
  go_wp2
  go_ret
  exact ⟨ret_b HR.out, HB.out⟩
theorem exps_small {u : List Int} (h : u.length ≤ 128) {e : Nat × Nat} (he : e ∈ exps u u.length) : e.1 ≤ 100000 ∧ e.2 ≤ 100000 := by
  obtain ⟨h1, h2, h3⟩ := exps_mem he
  have := lg_le h2
  omega
set_option maxHeartbeats 1000000 in
theorem impl_ov (v : Value) (u : List Int) (w : World) (h : Lies (Value.int .i64) w v u) (hs : u.length ≤ 4194304) :
    Calls Try.prog 22 #[v] w fun e w' => e = .returned (.bool (ovB u)) ∧ Below w.heap.size w w' := by
  obtain ⟨pa, pc, rfl⟩ := lies_shape h
  have HU := Lib.hid h
  clear h
  by_cases hL : u.length ≤ 128
  · rw [ov_in hL]
    have hLd := decide_eq_true (show (u.length : Int) ≤ 128 by omega)
    have HC := Lib.hid (exps_I _ u w HU.out (by omega))
    have HS : Hid (∀ e ∈ exps u u.length, e.1 ≤ 100000 ∧ e.2 ≤ 100000) := fun e he => exps_small hL he
    go_enter Try.func22, Try.ntmps22
    go_wp2_with (first | (go_at_call 37; refine HC.out.mono ?_; rintro e W1 ⟨vb, rfl, hv, b1⟩; have HV := Lib.hid hv.1; have HB1 := Lib.hid b1; clear hv b1) | (go_at_call 36; refine (any_ov vb (exps u u.length) #[] (fun e => decide (e.1 > 2 * e.2)) _ W1 HV.out (fun e he W hW => is_ov e W (HS.out e he).1 (HS.out e he).2)).mono ?_; rintro e W2 ⟨rfl, b2⟩; have HB2 := Lib.hid (HB1.out.trans (b2.mono HB1.out.size)); clear b2))
    go_ret
    exact ⟨rfl, HB2.out⟩
  · rw [ov_out hL]
    go_enter Try.func22, Try.ntmps22
    go_wp2
    go_ret
    exact ⟨rfl, Below.refl _ _⟩
set_option maxHeartbeats 2000000 in
theorem impl_pow (v : Value) (u : List Int) (num den : Int) (w : World) (h : Lies (Value.int .i64) w v u) (hs : u.length ≤ 4194304) :
    Calls Try.prog 24 #[v, .int .i64 num, .int .i64 den] w fun e w' => e = .returned (.bool (powB u num den)) ∧ Below w.heap.size w w' := by
  obtain ⟨pa, pc, rfl⟩ := lies_shape h
  have HU := Lib.hid h
  clear h
  by_cases hc : u.length ≤ 128 ∧ 2 ≤ num ∧ num ≤ 20 ∧ 1 ≤ den ∧ den < num
  · rw [pow_in hc]
    obtain ⟨hL, h1, h2, h3, h4⟩ := hc
    obtain ⟨N, rfl⟩ : ∃ N : Nat, num = N := ⟨num.toNat, by omega⟩
    obtain ⟨D, rfl⟩ : ∃ D : Nat, den = D := ⟨den.toNat, by omega⟩
    have HS : Hid (∀ e ∈ exps u u.length, e.1 ≤ 100000 ∧ e.2 ≤ 100000) := fun e he => exps_small hL he
    go_enter Try.func24, Try.ntmps24
    go_upto_region 4 with (fail)
    obtain ⟨W0, hW0⟩ : ∃ W, W = w.alloc (.cells #[.int .i64 (N : Int), .int .i64 (D : Int)] 44) := ⟨_, rfl⟩
    have hcb : CellsN W0 w.heap.size 44 [.int .i64 ((N, D) : Nat × Nat).1, .int .i64 ((N, D) : Nat × Nat).2] := by
      rw [hW0]
      exact CellsN.new w 44 [.int .i64 (N : Int), .int .i64 (D : Int)]
    have hb0 : Below w.heap.size w W0 := by
      rw [hW0]
      exact (Below.refl _ _).alloc (Nat.le_refl _) _
    rw [← hW0]
    have HCB := Lib.hid hcb
    have HB0 := Lib.hid hb0
    have HC := Lib.hid (exps_I _ u W0 (HU.out.below hb0) (by omega))
    clear hW0 hcb hb0
    go_wp2_with (first | (go_at_call 37; refine HC.out.mono ?_; rintro e W1 ⟨vb, rfl, hv, b1⟩; have HV := Lib.hid hv.1; have HB1 := Lib.hid b1; clear hv b1) | (go_at_call 36; refine (any_pow vb (exps u u.length) #[.pointer (some ⟨w.heap.size, 0, none⟩)] (fun e => decide ((e.1 : Int) * D ≥ N * (e.2 : Int))) _ W1 HV.out (fun e he W hW => clos e (N, D) w.heap.size W (HS.out e he).1 (HS.out e he).2 (by show N ≤ _; omega) (by show D ≤ _; omega) ((HCB.out.below HB1.out).below hW))).mono ?_; rintro e W2 ⟨rfl, b2⟩; have HB2 := Lib.hid (HB0.out.trans ((HB1.out.trans (b2.mono HB1.out.size)).mono HB0.out.size)); clear b2))
    go_ret
    exact ⟨rfl, HB2.out⟩
  · rw [pow_out hc]
    by_cases c1 : u.length ≤ 128
    · by_cases c2 : 2 ≤ num
      · by_cases c3 : num ≤ 20
        · by_cases c4 : 1 ≤ den
          · have c5 : ¬ den < num := fun h => hc ⟨c1, c2, c3, c4, h⟩
            clear hc
            go_enter Try.func24, Try.ntmps24
            go_wp2
            go_ret
            exact ⟨rfl, Below.refl _ _⟩
          · clear hc
            go_enter Try.func24, Try.ntmps24
            go_wp2
            go_ret
            exact ⟨rfl, Below.refl _ _⟩
        · clear hc
          go_enter Try.func24, Try.ntmps24
          go_wp2
          go_ret
          exact ⟨rfl, Below.refl _ _⟩
      · clear hc
        go_enter Try.func24, Try.ntmps24
        go_wp2
        go_ret
        exact ⟨rfl, Below.refl _ _⟩
    · clear hc
      go_enter Try.func24, Try.ntmps24
      go_wp2
      go_ret
      exact ⟨rfl, Below.refl _ _⟩
theorem impl_hsq (v : Value) (u : List Int) (w : World) (h : Lies (Value.int .i64) w v u) (hs : u.length ≤ 4194304) :
    Calls Try.prog 20 #[v] w fun e w' => e = .returned (.bool (powB u 2 1)) ∧ Below w.heap.size w w' := by
  have HC := Lib.hid (impl_pow v u 2 1 w h hs)
  go_enter Try.func20, Try.ntmps20
  go_wp2_with fail
  refine HC.out.mono ?_
  rintro e W1 ⟨rfl, b1⟩
  have HB := Lib.hid b1
  clear b1
  go_wp2
  go_ret
  exact ⟨rfl, HB.out⟩
end Fac
end Go.Proofs.Ytojmlhcgghaceaa
