/- Contracts of EqualSequences, of the program and of the model, and of the comparisons of lists that they call. No conditions beyond those that each states. -/
import Derived.Test.YthnmighlgifoeaaSeqEq
import Derived.Test.YthnmighlgifoeaaCells3
import Derived.Deep.RegionHeld3
namespace Go.Proofs.Ythnmighlgifoeaa
open Go.ChangeShapes Go.WideShapes Go.ChangeAt Go.RowKit
open Go.PlainAid Plain
set_option linter.unusedVariables false
namespace Seqs
theorem list_ne {α : Type} {xs ys : List α} {k : Nat} {x y : α} (h1 : xs[k]? = some x) (h2 : ys[k]? = some y) (h : ¬ x = y) : ¬ xs = ys := fun e => by
  subst e
  exact h (Option.some.inj (h1.symm.trans h2))
theorem list_eq {α : Type} {xs ys : List α} (hl : xs.length = ys.length) (h : ∀ (k : Nat) (x y : α), k < xs.length → xs[k]? = some x → ys[k]? = some y → x = y) : xs = ys := by
  refine List.ext_getElem hl fun i h1 h2 => ?_
  exact h i _ _ h1 (List.getElem?_eq_getElem h1) (List.getElem?_eq_getElem h2)
theorem some_drew {w W' : World} (he : (∃ n, W' = w.drewN n) ∨ (∃ n m, W' = (w.drewN n).drewN m) := by first | exact .inl ⟨_, rfl⟩ | exact .inr ⟨_, _, rfl⟩) : ∃ n, W' = w.drewN n := by
  rcases he with ⟨n, rfl⟩ | ⟨n, m, rfl⟩
  · exact ⟨n, rfl⟩
  · exact ⟨n + m, by rw [World.drewN_drewN]⟩
theorem same_ints (u v : Value) (xs ys : List Int) (w : World) (h1 : Lies (Value.int .i64) w u xs) (h2 : Lies (Value.int .i64) w v ys) :
    Calls Try.prog 36 #[u, v] w fun e w' => e = .returned (.bool (decide (xs = ys))) ∧ ∃ n, w' = w.drewN n := by
  obtain ⟨hl, a, ca, rfl, _, hca⟩ := h1
  obtain ⟨hl2, b, cb, rfl, _, hcb⟩ := h2
  have HA := Lib.hid hca
  have HB := Lib.hid hcb
  clear hca hcb
  by_cases hlen : xs.length = ys.length
  · have HL := Lib.hid hlen
    have hd : ((xs.length : Int) != (ys.length : Int)) = false := by rw [hlen]; simp
    have hle : xs.length ≤ ys.length := by omega
    clear hlen
    go_enter Try.func36, Try.ntmps36
    go_wp2
    go_loopw [5] (fun i' wr => ∃ k : Nat, k ≤ xs.length ∧ i' = .int .i64 k ∧ Hid (∀ (j : Nat) (x y : Int), j < k → xs[j]? = some x → ys[j]? = some y → x = y) ∧ ∃ n, wr = w.drewN n) (fun i' _ => xs.length - (intOf i').toNat)
    case atStart => exact ⟨0, Nat.zero_le _, rfl, fun j x y h => by omega, 0, rfl⟩
    case round =>
      obtain ⟨k, hk, rfl, HI, n, rfl⟩ := hrel
      by_cases hlt : k < xs.length
      · obtain ⟨x, hx⟩ : ∃ x, xs[k]? = some x := ⟨_, List.getElem?_eq_getElem hlt⟩
        obtain ⟨y, hy⟩ : ∃ y, ys[k]? = some y := ⟨_, List.getElem?_eq_getElem (by omega)⟩
        obtain ⟨p, o, rfl, hc1⟩ := HA.out k x hx
        obtain ⟨q, r, rfl, hc2⟩ := HB.out k y hy
        have HX := Lib.hid hx
        have HY := Lib.hid hy
        clear hx hy
        by_cases he : x = y
        · have HN : Hid (∀ (j : Nat) (x y : Int), j < k + 1 → xs[j]? = some x → ys[j]? = some y → x = y) := fun j x' y' hj hx' hy' => by
            by_cases e : j = k
            · subst e
              obtain rfl := Option.some.inj (HX.out.symm.trans hx')
              obtain rfl := Option.some.inj (HY.out.symm.trans hy')
              exact he
            · exact HI.out j x' y' (by omega) hx' hy'
          have hd2 : (x != y) = false := by rw [he]; simp
          clear he
          go_wp2
          go_quiet (fail)
          go_wp2
          go_roundw
          case rel => exact ⟨k + 1, by omega, by go_num, HN, _, rfl⟩
          case measure => simp [intOf]; omega
        · have HE := Lib.hid (decide_eq_false (list_ne HX.out HY.out he))
          have hd2 : (x != y) = true := by simpa using he
          clear he
          go_wp2
          go_quiet (fail)
          go_wp2
          go_ret
          exact ⟨ret_b HE.out.symm, some_drew⟩
      · have HE := Lib.hid (decide_eq_true (list_eq HL.out fun j x y hj => HI.out j x y (by omega)))
        go_wp2
        go_ret
        exact ⟨ret_b HE.out.symm, n, rfl⟩
  · have HE := Lib.hid (decide_eq_false (fun e : xs = ys => hlen (by rw [e])))
    have hd : ((xs.length : Int) != (ys.length : Int)) = true := by simp; omega
    clear hlen
    go_enter Try.func36, Try.ntmps36
    go_wp2
    go_ret
    exact ⟨ret_b HE.out.symm, 0, rfl⟩
theorem equal_ints (u v : Value) (xs ys : List Int) (w : World) (h1 : Lies (Value.int .i64) w u xs) (h2 : Lies (Value.int .i64) w v ys) :
    Calls Try.prog 98 #[u, v] w fun e w' => e = .returned (.bool (decide (xs = ys))) ∧ ∃ n, w' = w.drewN n := by
  obtain ⟨hl, a, ca, rfl, _, hca⟩ := h1
  obtain ⟨hl2, b, cb, rfl, _, hcb⟩ := h2
  have HA := Lib.hid hca
  have HB := Lib.hid hcb
  clear hca hcb
  by_cases hlen : xs.length = ys.length
  · have HL := Lib.hid hlen
    have hd : ((xs.length : Int) != (ys.length : Int)) = false := by rw [hlen]; simp
    have hle : xs.length ≤ ys.length := by omega
    clear hlen
    go_enter Try.func98, Try.ntmps98
    go_wp2
    go_loopw [13] (fun i' wr => ∃ k : Nat, k ≤ xs.length ∧ i' = .int .i64 k ∧ Hid (∀ (j : Nat) (x y : Int), j < k → xs[j]? = some x → ys[j]? = some y → x = y) ∧ ∃ n, wr = w.drewN n) (fun i' _ => xs.length - (intOf i').toNat)
    case atStart => exact ⟨0, Nat.zero_le _, rfl, fun j x y h => by omega, 0, rfl⟩
    case round =>
      obtain ⟨k, hk, rfl, HI, n, rfl⟩ := hrel
      by_cases hlt : k < xs.length
      · obtain ⟨x, hx⟩ : ∃ x, xs[k]? = some x := ⟨_, List.getElem?_eq_getElem hlt⟩
        obtain ⟨y, hy⟩ : ∃ y, ys[k]? = some y := ⟨_, List.getElem?_eq_getElem (by omega)⟩
        obtain ⟨p, o, rfl, hc1⟩ := HA.out k x hx
        obtain ⟨q, r, rfl, hc2⟩ := HB.out k y hy
        have HX := Lib.hid hx
        have HY := Lib.hid hy
        clear hx hy
        by_cases he : x = y
        · have HN : Hid (∀ (j : Nat) (x y : Int), j < k + 1 → xs[j]? = some x → ys[j]? = some y → x = y) := fun j x' y' hj hx' hy' => by
            by_cases e : j = k
            · subst e
              obtain rfl := Option.some.inj (HX.out.symm.trans hx')
              obtain rfl := Option.some.inj (HY.out.symm.trans hy')
              exact he
            · exact HI.out j x' y' (by omega) hx' hy'
          have hd2 : (x != y) = false := by rw [he]; simp
          clear he
          go_wp2
          go_quiet (fail)
          go_wp2
          go_roundw
          case rel => exact ⟨k + 1, by omega, by go_num, HN, _, rfl⟩
          case measure => simp [intOf]; omega
        · have HE := Lib.hid (decide_eq_false (list_ne HX.out HY.out he))
          have hd2 : (x != y) = true := by simpa using he
          clear he
          go_wp2
          go_quiet (fail)
          go_wp2
          go_ret
          exact ⟨ret_b HE.out.symm, some_drew⟩
      · have HE := Lib.hid (decide_eq_true (list_eq HL.out fun j x y hj => HI.out j x y (by omega)))
        go_wp2
        go_ret
        exact ⟨ret_b HE.out.symm, n, rfl⟩
  · have HE := Lib.hid (decide_eq_false (fun e : xs = ys => hlen (by rw [e])))
    have hd : ((xs.length : Int) != (ys.length : Int)) = true := by simp; omega
    clear hlen
    go_enter Try.func98, Try.ntmps98
    go_wp2
    go_ret
    exact ⟨ret_b HE.out.symm, 0, rfl⟩
theorem same_true (u v : Value) (xs ys : List Int) (w : World) (h1 : Lies (Value.int .i64) w u xs) (h2 : Lies (Value.int .i64) w v ys) (he : xs = ys) :
    Calls Try.prog 36 #[u, v] w fun e w' => e = .returned (.bool true) ∧ ∃ n, w' = w.drewN n := by
  have := same_ints u v xs ys w h1 h2
  rwa [decide_eq_true he] at this
theorem same_false (u v : Value) (xs ys : List Int) (w : World) (h1 : Lies (Value.int .i64) w u xs) (h2 : Lies (Value.int .i64) w v ys) (he : ¬ xs = ys) :
    Calls Try.prog 36 #[u, v] w fun e w' => e = .returned (.bool false) ∧ ∃ n, w' = w.drewN n := by
  have := same_ints u v xs ys w h1 h2
  rwa [decide_eq_false he] at this
theorem LiesS.two {w : World} {b : Int} {rows : List (List Int)} {out : List Int} {vn vo : Value} (h : LiesS w (.agg #[.int .i64 b, vn, vo]) b rows out) : LiesR w vn rows ∧ Lies (Value.int .i64) w vo out := by
  obtain ⟨vn', vo', hv, h1, h2⟩ := h
  injection hv with hv
  simp only [Array.mk.injEq, List.cons.injEq, and_true, true_and] at hv
  obtain ⟨rfl, rfl⟩ := hv
  exact ⟨h1, h2⟩
theorem endsE {B : Nat} {w W W' : World} (h : ∀ n, Below B w (W.drewN n)) (he : (∃ n, W' = W.drewN n) ∨ (∃ n m, W' = (W.drewN n).drewN m) := by first | exact .inl ⟨_, rfl⟩ | exact .inr ⟨_, _, rfl⟩) : Below B w W' := by
  rcases he with ⟨n, rfl⟩ | ⟨n, m, rfl⟩
  · exact h n
  · rw [World.drewN_drewN]; exact h _
theorem equal_rows (u v : Value) (xs ys : List (List Int)) (w : World) (h1 : LiesR w u xs) (h2 : LiesR w v ys) :
    Calls Try.prog 97 #[u, v, .func (.func 98) #[] #[]] w fun e w' => e = .returned (.bool (decide (xs = ys))) ∧ ∃ n, w' = w.drewN n := by
  obtain ⟨a, ca, rfl, hl, hca⟩ := h1.row
  obtain ⟨b, cb, rfl, hl2, hcb⟩ := h2.row
  have HA := Lib.hid hca
  have HB := Lib.hid hcb
  clear hca hcb h1 h2
  by_cases hlen : xs.length = ys.length
  · have HL := Lib.hid hlen
    have hd : ((xs.length : Int) != (ys.length : Int)) = false := by rw [hlen]; simp
    have hle : xs.length ≤ ys.length := by omega
    clear hlen
    go_enter Try.func97, Try.ntmps97
    go_wp2
    go_loopw [17] (fun i' wr => ∃ k : Nat, k ≤ xs.length ∧ i' = .int .i64 k ∧ Hid (∀ (j : Nat) (x y : List Int), j < k → xs[j]? = some x → ys[j]? = some y → x = y) ∧ ∃ n, wr = w.drewN n) (fun i' _ => xs.length - (intOf i').toNat)
    case atStart => exact ⟨0, Nat.zero_le _, rfl, fun j x y h => by omega, 0, rfl⟩
    case round =>
      obtain ⟨k, hk, rfl, HI, n, rfl⟩ := hrel
      by_cases hlt : k < xs.length
      · obtain ⟨x, hx⟩ : ∃ x, xs[k]? = some x := ⟨_, List.getElem?_eq_getElem hlt⟩
        obtain ⟨y, hy⟩ : ∃ y, ys[k]? = some y := ⟨_, List.getElem?_eq_getElem (by omega)⟩
        obtain ⟨p, o, ux, rfl, hc1, lx⟩ := HA.out k x hx
        obtain ⟨q, r, uy, rfl, hc2, ly⟩ := HB.out k y hy
        have HX := Lib.hid hx
        have HY := Lib.hid hy
        have LX := Lib.hid lx
        have LY := Lib.hid ly
        clear hx hy lx ly
        by_cases he : x = y
        · have HN : Hid (∀ (j : Nat) (x y : List Int), j < k + 1 → xs[j]? = some x → ys[j]? = some y → x = y) := fun j x' y' hj hx' hy' => by
            by_cases e : j = k
            · subst e
              obtain rfl := Option.some.inj (HX.out.symm.trans hx')
              obtain rfl := Option.some.inj (HY.out.symm.trans hy')
              exact he
            · exact HI.out j x' y' (by omega) hx' hy'
          have HD := Lib.hid (decide_eq_true he)
          clear he
          go_wp2_with fail
          refine (equal_ints _ _ x y _ (Lies_drewN LX.out _) (Lies_drewN LY.out _)).mono ?_
          rintro e w' ⟨rfl, m, rfl⟩
          rw [HD.out]
          go_wp2
          go_roundw
          case rel => exact ⟨k + 1, by omega, by go_num, HN, _, rfl⟩
          case measure => simp [intOf]; omega
        · have HE := Lib.hid (decide_eq_false (list_ne HX.out HY.out he))
          have HD := Lib.hid (decide_eq_false he)
          clear he
          go_wp2_with fail
          refine (equal_ints _ _ x y _ (Lies_drewN LX.out _) (Lies_drewN LY.out _)).mono ?_
          rintro e w' ⟨rfl, m, rfl⟩
          rw [HD.out]
          go_wp2
          go_ret
          exact ⟨ret_b HE.out.symm, some_drew⟩
      · have HE := Lib.hid (decide_eq_true (list_eq HL.out fun j x y hj => HI.out j x y (by omega)))
        go_wp2
        go_ret
        exact ⟨ret_b HE.out.symm, n, rfl⟩
  · have HE := Lib.hid (decide_eq_false (fun e : xs = ys => hlen (by rw [e])))
    have hd : ((xs.length : Int) != (ys.length : Int)) = true := by simp; omega
    clear hlen
    go_enter Try.func97, Try.ntmps97
    go_wp2
    go_ret
    exact ⟨ret_b HE.out.symm, 0, rfl⟩
/-- Are the two sequences equal, in all their parts? -/
def sameB (b b' : Int) (rows rows' : List (List Int)) (out out' : List Int) : Bool := decide (b = b') && decide (rows = rows') && decide (out = out')
theorem impl_equal (u v : Value) (b b' : Int) (rows rows' : List (List Int)) (out out' : List Int) (w : World) (h1 : LiesS w u b rows out) (h2 : LiesS w v b' rows' out') :
    Calls Try.prog 93 #[u, v] w fun e w' => e = .returned (.bool (sameB b b' rows rows' out out')) ∧ Below w.heap.size w w' := by
  have HS := Lib.hid h1
  have HS' := Lib.hid h2
  obtain ⟨an, cn, ao, co, rfl⟩ := h1.form
  obtain ⟨an', cn', ao', co', rfl⟩ := h2.form
  clear h1 h2
  have hB : Below w.heap.size w ((w.alloc (Obj.cells #[Value.int .i64 b, Value.slice an rows.length cn, Value.slice ao out.length co] 27)).alloc (Obj.cells #[Value.int .i64 b', Value.slice an' rows'.length cn', Value.slice ao' out'.length co'] 27)) := ((Below.refl _ _).alloc (Nat.le_refl _) _).alloc (by simp) _
  have HB : Hid (∀ n, Below w.heap.size w (((w.alloc (Obj.cells #[Value.int .i64 b, Value.slice an rows.length cn, Value.slice ao out.length co] 27)).alloc (Obj.cells #[Value.int .i64 b', Value.slice an' rows'.length cn', Value.slice ao' out'.length co'] 27)).drewN n)) := fun n => below_drewN hB n
  have hC' := Cells3.new (w.alloc (Obj.cells #[Value.int .i64 b, Value.slice an rows.length cn, Value.slice ao out.length co] 27)) 27 (.int .i64 b') (.slice an' rows'.length cn') (.slice ao' out'.length co')
  rw [size_alloc'] at hC'
  have HC := Lib.hid ((Cells3.new w 27 (.int .i64 b) (.slice an rows.length cn) (.slice ao out.length co)).alloc (Obj.cells #[Value.int .i64 b', Value.slice an' rows'.length cn', Value.slice ao' out'.length co'] 27))
  have HC' := Lib.hid hC'
  have HL : Hid (LiesR ((w.alloc (Obj.cells #[Value.int .i64 b, Value.slice an rows.length cn, Value.slice ao out.length co] 27)).alloc (Obj.cells #[Value.int .i64 b', Value.slice an' rows'.length cn', Value.slice ao' out'.length co'] 27)) (.slice an rows.length cn) rows ∧ Lies (Value.int .i64) ((w.alloc (Obj.cells #[Value.int .i64 b, Value.slice an rows.length cn, Value.slice ao out.length co] 27)).alloc (Obj.cells #[Value.int .i64 b', Value.slice an' rows'.length cn', Value.slice ao' out'.length co'] 27)) (.slice ao out.length co) out) := LiesS.two (HS.out.below hB)
  have HL' : Hid (LiesR ((w.alloc (Obj.cells #[Value.int .i64 b, Value.slice an rows.length cn, Value.slice ao out.length co] 27)).alloc (Obj.cells #[Value.int .i64 b', Value.slice an' rows'.length cn', Value.slice ao' out'.length co'] 27)) (.slice an' rows'.length cn') rows' ∧ Lies (Value.int .i64) ((w.alloc (Obj.cells #[Value.int .i64 b, Value.slice an rows.length cn, Value.slice ao out.length co] 27)).alloc (Obj.cells #[Value.int .i64 b', Value.slice an' rows'.length cn', Value.slice ao' out'.length co'] 27)) (.slice ao' out'.length co') out') := LiesS.two (HS'.out.below hB)
  clear hB hC'
  by_cases hb : b = b'
  · have hd0 : (b == b') = true := by simpa using hb
    have HQ : Hid (sameB b b' rows rows' out out' = (decide (rows = rows') && decide (out = out'))) := by show _ = _; rw [sameB, decide_eq_true hb]; rfl
    clear hb
    cases hr : decide (rows = rows') with
    | true =>
      have HR := Lib.hid hr
      have HE : Hid (sameB b b' rows rows' out out' = decide (out = out')) := by show _ = _; rw [HQ.out, hr]; rfl
      clear hr HQ
      go_enter Try.func93, Try.ntmps93
      go_wp2_with fail
      refine (equal_rows _ _ rows rows' _ HL.out.1 HL'.out.1).mono ?_
      rintro e w' ⟨rfl, n, rfl⟩
      rw [HR.out]
      go_wp2_with fail
      refine (equal_ints _ _ out out' _ (Lies_drewN HL.out.2 _) (Lies_drewN HL'.out.2 _)).mono ?_
      rintro e w' ⟨rfl, m, rfl⟩
      rw [← HE.out]
      go_wp2
      go_ret
      exact ⟨rfl, HB.out _⟩
    | false =>
      have HR := Lib.hid hr
      have HE : Hid (sameB b b' rows rows' out out' = false) := by show _ = _; rw [HQ.out, hr]; rfl
      clear hr HQ
      go_enter Try.func93, Try.ntmps93
      go_wp2_with fail
      refine (equal_rows _ _ rows rows' _ HL.out.1 HL'.out.1).mono ?_
      rintro e w' ⟨rfl, n, rfl⟩
      rw [HR.out]
      go_wp2
      go_ret
      exact ⟨ret_b HE.out.symm, HB.out _⟩
  · have hd0 : (b == b') = false := by simpa using hb
    have HE : Hid (sameB b b' rows rows' out out' = false) := by show _ = _; rw [sameB, decide_eq_false hb]; rfl
    clear hb
    go_enter Try.func93, Try.ntmps93
    go_wp2
    go_ret
    exact ⟨ret_b HE.out.symm, HB.out 0⟩
set_option maxHeartbeats 1000000 in
theorem spec_equal (u v : Value) (b b' : Int) (rows rows' : List (List Int)) (out out' : List Int) (w : World) (h1 : LiesS w u b rows out) (h2 : LiesS w v b' rows' out') :
    Calls Try.prog 56 #[u, v] w fun e w' => e = .returned (.bool (sameB b b' rows rows' out out')) ∧ Below w.heap.size w w' := by
  have HS := Lib.hid h1
  have HS' := Lib.hid h2
  obtain ⟨an, cn, ao, co, rfl⟩ := h1.form
  obtain ⟨an', cn', ao', co', rfl⟩ := h2.form
  clear h1 h2
  have hB : Below w.heap.size w ((w.alloc (Obj.cells #[Value.int .i64 b, Value.slice an rows.length cn, Value.slice ao out.length co] 27)).alloc (Obj.cells #[Value.int .i64 b', Value.slice an' rows'.length cn', Value.slice ao' out'.length co'] 27)) := ((Below.refl _ _).alloc (Nat.le_refl _) _).alloc (by simp) _
  have HB : Hid (∀ n, Below w.heap.size w (((w.alloc (Obj.cells #[Value.int .i64 b, Value.slice an rows.length cn, Value.slice ao out.length co] 27)).alloc (Obj.cells #[Value.int .i64 b', Value.slice an' rows'.length cn', Value.slice ao' out'.length co'] 27)).drewN n)) := fun n => below_drewN hB n
  have hC' := Cells3.new (w.alloc (Obj.cells #[Value.int .i64 b, Value.slice an rows.length cn, Value.slice ao out.length co] 27)) 27 (.int .i64 b') (.slice an' rows'.length cn') (.slice ao' out'.length co')
  rw [size_alloc'] at hC'
  have HC := Lib.hid ((Cells3.new w 27 (.int .i64 b) (.slice an rows.length cn) (.slice ao out.length co)).alloc (Obj.cells #[Value.int .i64 b', Value.slice an' rows'.length cn', Value.slice ao' out'.length co'] 27))
  have HC' := Lib.hid hC'
  have HL : Hid (LiesR ((w.alloc (Obj.cells #[Value.int .i64 b, Value.slice an rows.length cn, Value.slice ao out.length co] 27)).alloc (Obj.cells #[Value.int .i64 b', Value.slice an' rows'.length cn', Value.slice ao' out'.length co'] 27)) (.slice an rows.length cn) rows ∧ Lies (Value.int .i64) ((w.alloc (Obj.cells #[Value.int .i64 b, Value.slice an rows.length cn, Value.slice ao out.length co] 27)).alloc (Obj.cells #[Value.int .i64 b', Value.slice an' rows'.length cn', Value.slice ao' out'.length co'] 27)) (.slice ao out.length co) out) := LiesS.two (HS.out.below hB)
  have HL' : Hid (LiesR ((w.alloc (Obj.cells #[Value.int .i64 b, Value.slice an rows.length cn, Value.slice ao out.length co] 27)).alloc (Obj.cells #[Value.int .i64 b', Value.slice an' rows'.length cn', Value.slice ao' out'.length co'] 27)) (.slice an' rows'.length cn') rows' ∧ Lies (Value.int .i64) ((w.alloc (Obj.cells #[Value.int .i64 b, Value.slice an rows.length cn, Value.slice ao out.length co] 27)).alloc (Obj.cells #[Value.int .i64 b', Value.slice an' rows'.length cn', Value.slice ao' out'.length co'] 27)) (.slice ao' out'.length co') out') := LiesS.two (HS'.out.below hB)
  clear hB hC'
  by_cases hb : b = b'
  · have hd0 : (b != b') = false := by simpa using hb
    have HQ : Hid (sameB b b' rows rows' out out' = (decide (rows = rows') && decide (out = out'))) := by show _ = _; rw [sameB, decide_eq_true hb]; rfl
    clear hb
    by_cases hlen : rows.length = rows'.length
    · have HLE := Lib.hid hlen
      have hd1 : ((rows.length : Int) != (rows'.length : Int)) = false := by rw [hlen]; simp
      have hle : rows.length ≤ rows'.length := by omega
      clear hlen
      cases ho : decide (out = out') with
      | true =>
        have HO := Lib.hid ho
        have HE : Hid (sameB b b' rows rows' out out' = decide (rows = rows')) := by show _ = _; rw [HQ.out, ho, Bool.and_true]
        clear ho HQ
        go_enter Try.func56, Try.ntmps56
        go_wp2_with fail
        refine (same_ints _ _ out out' _ HL.out.2 HL'.out.2).mono ?_
        rintro e w' ⟨rfl, n0, rfl⟩
        rw [HO.out]
        obtain ⟨W, hW⟩ : ∃ W, W = ((w.alloc (Obj.cells #[Value.int .i64 b, Value.slice an rows.length cn, Value.slice ao out.length co] 27)).alloc (Obj.cells #[Value.int .i64 b', Value.slice an' rows'.length cn', Value.slice ao' out'.length co'] 27)) := ⟨_, rfl⟩
        rw [← hW] at HL HL' HC HC' HB ⊢
        obtain ⟨_, _, hv, hl, hca⟩ := HL.out.1.row
        injection hv with hv1 _ _
        subst hv1
        obtain ⟨_, _, hv, hl', hcb⟩ := HL'.out.1.row
        injection hv with hv1 _ _
        subst hv1
        have HA := Lib.hid hca
        have HB2 := Lib.hid hcb
        clear hca hcb hW
        have k0 := HC.out.c0
        have k1 := HC.out.c1
        have k2 := HC.out.c2
        have m0 := HC'.out.c0
        have m1 := HC'.out.c1
        have m2 := HC'.out.c2
        go_wp2
        go_loopw [5] (fun i' wr => ∃ k : Nat, k ≤ rows.length ∧ i' = .int .i64 k ∧ Hid (∀ (j : Nat) (x y : List Int), j < k → rows[j]? = some x → rows'[j]? = some y → x = y) ∧ ∃ n, wr = W.drewN n) (fun i' _ => rows.length - (intOf i').toNat)
        case atStart => exact ⟨0, Nat.zero_le _, rfl, fun j x y h => by omega, _, rfl⟩
        case round =>
          obtain ⟨k, hk, rfl, HI, n, rfl⟩ := hrel
          by_cases hlt : k < rows.length
          · obtain ⟨x, hx⟩ : ∃ x, rows[k]? = some x := ⟨_, List.getElem?_eq_getElem hlt⟩
            obtain ⟨y, hy⟩ : ∃ y, rows'[k]? = some y := ⟨_, List.getElem?_eq_getElem (by omega)⟩
            obtain ⟨p, o, ux, rfl, hc1, lx⟩ := HA.out k x hx
            obtain ⟨q, r, uy, rfl, hc2, ly⟩ := HB2.out k y hy
            have HX := Lib.hid hx
            have HY := Lib.hid hy
            have LX := Lib.hid lx
            have LY := Lib.hid ly
            clear hx hy lx ly
            by_cases he : x = y
            · have HN : Hid (∀ (j : Nat) (x y : List Int), j < k + 1 → rows[j]? = some x → rows'[j]? = some y → x = y) := fun j x' y' hj hx' hy' => by
                by_cases e : j = k
                · subst e
                  obtain rfl := Option.some.inj (HX.out.symm.trans hx')
                  obtain rfl := Option.some.inj (HY.out.symm.trans hy')
                  exact he
                · exact HI.out j x' y' (by omega) hx' hy'
              have HD := Lib.hid (fun w l l' => same_true ux uy x y w l l' he)
              clear he
              go_wp2
              go_quiet ((go_at_call 36; exact quiet_more (HD.out _ (Lies_drewN LX.out _) (Lies_drewN LY.out _))))
              go_wp2
              go_roundw
              case rel => exact ⟨k + 1, by omega, by go_num, HN, _, rfl⟩
              case measure => simp [intOf]; omega
            · have HF : Hid (sameB b b' rows rows' out out' = false) := by show _ = _; rw [HE.out]; exact decide_eq_false (list_ne HX.out HY.out he)
              have HD := Lib.hid (fun w l l' => same_false ux uy x y w l l' he)
              clear he
              go_wp2
              go_quiet ((go_at_call 36; exact quiet_more (HD.out _ (Lies_drewN LX.out _) (Lies_drewN LY.out _))))
              go_wp2
              go_ret
              exact ⟨ret_b HF.out.symm, endsE HB.out⟩
          · have HF : Hid (sameB b b' rows rows' out out' = true) := by show _ = _; rw [HE.out]; exact decide_eq_true (list_eq HLE.out fun j x y hj => HI.out j x y (by omega))
            go_wp2
            go_ret
            exact ⟨ret_b HF.out.symm, HB.out _⟩
      | false =>
        have HO := Lib.hid ho
        have HE : Hid (sameB b b' rows rows' out out' = false) := by show _ = _; rw [HQ.out, ho, Bool.and_false]
        clear ho HQ
        go_enter Try.func56, Try.ntmps56
        go_wp2_with fail
        refine (same_ints _ _ out out' _ HL.out.2 HL'.out.2).mono ?_
        rintro e w' ⟨rfl, n0, rfl⟩
        rw [HO.out]
        go_wp2
        go_ret
        exact ⟨ret_b HE.out.symm, HB.out _⟩
    · have hd1 : ((rows.length : Int) != (rows'.length : Int)) = true := by simp; omega
      have HE : Hid (sameB b b' rows rows' out out' = false) := by show _ = _; rw [HQ.out, decide_eq_false (fun e : rows = rows' => hlen (by rw [e]))]; rfl
      clear hlen HQ
      go_enter Try.func56, Try.ntmps56
      go_wp2
      go_ret
      exact ⟨ret_b HE.out.symm, HB.out 0⟩
  · have hd0 : (b != b') = true := by simpa using hb
    have HE : Hid (sameB b b' rows rows' out out' = false) := by show _ = _; rw [sameB, decide_eq_false hb]; rfl
    clear hb
    go_enter Try.func56, Try.ntmps56
    go_wp2
    go_ret
    exact ⟨ret_b HE.out.symm, HB.out 0⟩
end Seqs
end Go.Proofs.Ythnmighlgifoeaa
