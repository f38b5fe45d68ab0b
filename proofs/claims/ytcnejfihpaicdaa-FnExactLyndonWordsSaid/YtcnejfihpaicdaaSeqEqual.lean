/- Contracts of EqualSequences, of the program and of the model, and of the comparisons of lists that they call. No conditions beyond those that each states. -/
import Derived.Test.YtcnejfihpaicdaaSeqEq
import Derived.Test.YtcnejfihpaicdaaCells3
import Derived.Deep.RegionHeld3
namespace Go.Proofs.Ytcnejfihpaicdaa
open Go.ChangeShapes Go.WideShapes Go.ChangeAt Go.RowKit
open Go.PlainAid Plain
set_option linter.unusedVariables false
namespace Seqs
theorem list_ne {α : Type} {xs ys : List α} {k : Nat} {x y : α} (h1 : xs[k]? = some x) (h2 : ys[k]? = some y) (h : ¬ x = y) : ¬ xs = ys := fun e => by
  subst e
  exact h (Option.some.inj (h1.symm.trans h2))
theorem list_eq {α : Type} {xs ys : List α} (hl : xs.length = ys.length) (h : ∀ (k : Nat) (x y : α), k < xs.length → xs[k]? = some x → ys[k]? = some y → x = y) : xs = ys := by
  refine List.ext_getElem hl fun i h1 h2 => ?_
  exact h i _ _ h1 (List.getElem?_eq_getElem h1) (List.getElem?_eq_getElem h2)
theorem some_drew {w W' : World} (he : (∃ n, W' = w.drewN n) ∨ (∃ n m, W' = (w.drewN n).drewN m) := by first | exact .inl ⟨_, rfl⟩ | exact .inr ⟨_, _, rfl⟩) : ∃ n, W' = w.drewN n := by
  rcases he with ⟨n, rfl⟩ | ⟨n, m, rfl⟩
  · exact ⟨n, rfl⟩
  · exact ⟨n + m, by rw [World.drewN_drewN]⟩
theorem equal_ints (u v : Value) (xs ys : List Int) (w : World) (h1 : Lies (Value.int .i64) w u xs) (h2 : Lies (Value.int .i64) w v ys) :
    Calls Try.prog 60 #[u, v] w fun e w' => e = .returned (.bool (decide (xs = ys))) ∧ ∃ n, w' = w.drewN n := by
  obtain ⟨hl, a, ca, rfl, _, hca⟩ := h1
  obtain ⟨hl2, b, cb, rfl, _, hcb⟩ := h2
  have HA := Lib.hid hca
  have HB := Lib.hid hcb
  clear hca hcb
  by_cases hlen : xs.length = ys.length
  · have HL := Lib.hid hlen
    have hd : ((xs.length : Int) != (ys.length : Int)) = false := by rw [hlen]; simp
    have hle : xs.length ≤ ys.length := by omega
    clear hlen
    go_enter Try.func60, Try.ntmps60
    go_wp2
    go_loopw [13] (fun i' wr => ∃ k : Nat, k ≤ xs.length ∧ i' = .int .i64 k ∧ Hid (∀ (j : Nat) (x y : Int), j < k → xs[j]? = some x → ys[j]? = some y → x = y) ∧ ∃ n, wr = w.drewN n) (fun i' _ => xs.length - (intOf i').toNat)
    case atStart => exact ⟨0, Nat.zero_le _, rfl, fun j x y h => by omega, 0, rfl⟩
    case round =>
      obtain ⟨k, hk, rfl, HI, n, rfl⟩ := hrel
      by_cases hlt : k < xs.length
      · obtain ⟨x, hx⟩ : ∃ x, xs[k]? = some x := ⟨_, List.getElem?_eq_getElem hlt⟩
        obtain ⟨y, hy⟩ : ∃ y, ys[k]? = some y := ⟨_, List.getElem?_eq_getElem (by omega)⟩
        obtain ⟨p, o, rfl, hc1⟩ := HA.out k x hx
        obtain ⟨q, r, rfl, hc2⟩ := HB.out k y hy
        have HX := Lib.hid hx
        have HY := Lib.hid hy
        clear hx hy
        by_cases he : x = y
        · have HN : Hid (∀ (j : Nat) (x y : Int), j < k + 1 → xs[j]? = some x → ys[j]? = some y → x = y) := fun j x' y' hj hx' hy' => by
            by_cases e : j = k
            · subst e
              obtain rfl := Option.some.inj (HX.out.symm.trans hx')
              obtain rfl := Option.some.inj (HY.out.symm.trans hy')
              exact he
            · exact HI.out j x' y' (by omega) hx' hy'
          have hd2 : (x != y) = false := by rw [he]; simp
          clear he
          go_wp2
          go_quiet (fail)
          go_wp2
          go_roundw
          case rel => exact ⟨k + 1, by omega, by go_num, HN, _, rfl⟩
          case measure => simp [intOf]; omega
        · have HE := Lib.hid (decide_eq_false (list_ne HX.out HY.out he))
          have hd2 : (x != y) = true := by simpa using he
          clear he
          go_wp2
          go_quiet (fail)
          go_wp2
          go_ret
          exact ⟨ret_b HE.out.symm, some_drew⟩
      · have HE := Lib.hid (decide_eq_true (list_eq HL.out fun j x y hj => HI.out j x y (by omega)))
        go_wp2
        go_ret
        exact ⟨ret_b HE.out.symm, n, rfl⟩
  · have HE := Lib.hid (decide_eq_false (fun e : xs = ys => hlen (by rw [e])))
    have hd : ((xs.length : Int) != (ys.length : Int)) = true := by simp; omega
    clear hlen
    go_enter Try.func60, Try.ntmps60
    go_wp2
    go_ret
    exact ⟨ret_b HE.out.symm, 0, rfl⟩
theorem LiesS.two {w : World} {b : Int} {rows : List (List Int)} {out : List Int} {vn vo : Value} (h : LiesS w (.agg #[.int .i64 b, vn, vo]) b rows out) : LiesR w vn rows ∧ Lies (Value.int .i64) w vo out := by
  obtain ⟨vn', vo', hv, h1, h2⟩ := h
  injection hv with hv
  simp only [Array.mk.injEq, List.cons.injEq, and_true, true_and] at hv
  obtain ⟨rfl, rfl⟩ := hv
  exact ⟨h1, h2⟩
theorem endsE {B : Nat} {w W W' : World} (h : ∀ n, Below B w (W.drewN n)) (he : (∃ n, W' = W.drewN n) ∨ (∃ n m, W' = (W.drewN n).drewN m) := by first | exact .inl ⟨_, rfl⟩ | exact .inr ⟨_, _, rfl⟩) : Below B w W' := by
  rcases he with ⟨n, rfl⟩ | ⟨n, m, rfl⟩
  · exact h n
  · rw [World.drewN_drewN]; exact h _
/-- Are the two sequences equal, in all their parts? -/
def sameB (b b' : Int) (rows rows' : List (List Int)) (out out' : List Int) : Bool := decide (b = b') && decide (rows = rows') && decide (out = out')
end Seqs
end Go.Proofs.Ytcnejfihpaicdaa
