/- Slices of pairs that are the call's own, and the search for a pair in one. No conditions beyond those that each states. -/
import Derived.Test.YthnmighlgifoeaaPairs
import Derived.Test.YthnmighlgifoeaaCellsN2
import Derived.Test.YthnmighlgifoeaaSeqBuild
import Derived.Test.YthnmighlgifoeaaSeqIsI
import Derived.Test.YthnmighlgifoeaaDigits3
import Derived.BigQuiet
import Derived.Laws.StructEq
import Derived.Deep.DeepCutAuto
namespace Go.Proofs.Ythnmighlgifoeaa
open Go.ChangeShapes Go.WideShapes Go.ChangeAt Go.RowKit
open Go.PlainAid Plain
set_option linter.unusedVariables false
namespace Comb
open Seqs
def encP (s : Pr) : Value := .agg #[.int .i64 s.1, .int .i64 s.2]
def flatP (L : List Pr) : List Value := L.flatMap fun s => [.int .i64 s.1, .int .i64 s.2]
theorem flatP_len : ∀ L : List Pr, (flatP L).length = L.length * 2
  | [] => rfl
  | s :: L => by simp [flatP] at *; have := flatP_len L; simp [flatP] at this; omega
theorem flatP_append (L M : List Pr) : flatP (L ++ M) = flatP L ++ flatP M := by simp [flatP]
theorem flatP_get : ∀ (L : List Pr) (i : Nat) (s : Pr), L[i]? = some s → (flatP L)[i * 2]? = some (.int .i64 s.1) ∧ (flatP L)[i * 2 + 1]? = some (.int .i64 s.2)
  | [], i, s, h => by simp at h
  | t :: L, 0, s, h => by
    simp at h
    subst h
    exact ⟨rfl, rfl⟩
  | t :: L, i + 1, s, h => by
    have h1 := flatP_get L i s (by simpa using h)
    have e : flatP (t :: L) = .int .i64 t.1 :: .int .i64 t.2 :: flatP L := rfl
    rw [e, show (i + 1) * 2 = i * 2 + 1 + 1 from by omega, show i * 2 + 1 + 1 + 1 = (i * 2 + 1) + 1 + 1 from by omega]
    simpa using h1
/-- A slice of pairs that the call owns, from block base on. -/
def OwnP (w : World) (base : Nat) (v : Value) (L : List Pr) : Prop := w.ownsRow base 57 2 v L.length (flatP L)
theorem OwnP.form {w : World} {base : Nat} {v : Value} {L : List Pr} (h : OwnP w base v L) (h0 : 0 < L.length) :
    ∃ g c cur, v = .slice (some ⟨g, 0, none⟩) L.length c ∧ base ≤ g ∧ g < w.heap.size ∧ w.heap[g]? = some (.cells cur 57 (0, 0)) := by
  rcases h.2 with ⟨_, h1⟩ | ⟨g, c, cur, rfl, hb, hc, _⟩
  · omega
  · exact ⟨g, c, cur, rfl, hb, (Array.getElem?_eq_some_iff.1 hc).1, hc⟩
theorem OwnP.cells {w : World} {base g c : Nat} {L : List Pr} (h : OwnP w base (.slice (some ⟨g, 0, none⟩) L.length c) L) {i : Nat} {s : Pr} (hi : L[i]? = some s) :
    w.cell? ⟨g, i * 2, none⟩ = some (.int .i64 s.1) ∧ w.cell? ⟨g, i * 2 + 1, none⟩ = some (.int .i64 s.2) := by
  have hg := flatP_get L i s hi
  have hl := (List.getElem?_eq_some_iff.1 hi).1
  have h1 : w.ownsRow base 57 2 (.slice (some ⟨g, 0, none⟩) L.length c) L.length (flatP L) := h
  exact ⟨(h1.cellAt _ (by omega)).trans hg.1, (h1.cellAt _ (by omega)).trans hg.2⟩
theorem OwnP.kept {w w' : World} {base : Nat} {v : Value} {L : List Pr} {r : Option Nat} (h : OwnP w base v L) (hg : w.grownBy w' r) (hn : v.ownBlock = none ∨ v.ownBlock ≠ r) : OwnP w' base v L := World.ownsRow.kept h hg hn
theorem OwnP.below {w w' : World} {base : Nat} {v : Value} {L : List Pr} (h : OwnP w base v L) (hb : Below w.heap.size w w') : OwnP w' base v L :=
  h.kept (Plain.grown_of_below hb) (by
    cases hv : v.ownBlock with
    | none => exact .inl rfl
    | some k => exact .inr (by simp))
/-- Where a pair lies; -1 where it doesn't. -/
def pairAt (L : List Pr) (x : Pr) : Int := if x ∈ L then (ix L x : Int) else -1
theorem pairAt_hit {L : List Pr} {x : Pr} {i : Nat} (hn : L.Nodup) (h : L[i]? = some x) : pairAt L x = (i : Int) := by
  rw [pairAt, if_pos (List.mem_of_getElem? h), idxOf_get hn h]
theorem pairAt_miss {L : List Pr} {x : Pr} (h : ∀ (i : Nat) (s : Pr), L[i]? = some s → ¬ x = s) : pairAt L x = -1 := by
  rw [pairAt, if_neg]
  intro hm
  obtain ⟨i, hi⟩ := List.getElem?_of_mem hm
  exact h i x hi rfl
theorem pair_arr : Try.prog.underlying 57 = some (.array 2 3) := by kernel_rfl
theorem pair_eq_d (d : Nat) (a b c e : Int) (w : World) : (Op.equalIn (d + 1 + 1) 57 (.agg #[.int .i64 a, .int .i64 b]) (.agg #[.int .i64 c, .int .i64 e])).run Try.prog w = .ok (a == c && b == e) w := by
  have hI : ∀ (x y : Int) (w : World), (Op.equalIn (d + 1) 3 (.int .i64 x) (.int .i64 y)).run Try.prog w = .ok (x == y) w := fun x y w => run_equalIn_int w d 3 .i64 .i64 x y Try.underlying3
  rw [Op.equalIn]
  simp only [Sem.run_bind, run_underlying pair_arr, Result.andThen_ok]
  simp [go_sem]
  rw [show List.range' 0 2 = [0, 1] from rfl]
  by_cases h1 : a = c
  · by_cases h2 : b = e
    · simp [go_sem, hI, h1, h2, Try.isAgg3, List.forIn_cons]
    · simp [go_sem, hI, h1, h2, Try.isAgg3, List.forIn_cons]
  · simp [go_sem, hI, h1, Try.isAgg3, List.forIn_cons]
theorem pair_eql (a b c e : Int) (w : World) : (binOp .eql 57 (.agg #[.int .i64 a, .int .i64 b]) (.agg #[.int .i64 c, .int .i64 e])).run Try.prog w = .ok (.bool (a == c && b == e)) w := by
  rw [run_eql_struct, pair_eq_d 9998 a b c e w]
  rfl
set_option maxRecDepth 100000 in
set_option maxHeartbeats 1000000 in
theorem index_pair (v : Value) (L : List Pr) (x1 x2 : Int) (w : World) (base : Nat) (h : OwnP w base v L) (h0 : 0 < L.length) (hn : L.Nodup) (hl : L.length ≤ 1000) :
    Calls Try.prog 77 #[v, .agg #[.int .i64 x1, .int .i64 x2]] w fun e w' => e = .returned (.int .i64 (pairAt L (x1, x2))) ∧ Below w.heap.size w w' := by
  obtain ⟨g, c, cur, rfl, hb, hg, _⟩ := h.form h0
  have HP := Lib.hid (fun (i : Nat) (s : Pr) (hi : L[i]? = some s) => h.cells hi)
  have HN := Lib.hid hn
  have hb1 : Below w.heap.size w (w.alloc (.cells #[.int .i64 x1, .int .i64 x2] 57)) := (Below.refl _ _).alloc (Nat.le_refl _) _
  have hx := CellsN.new w 57 [.int .i64 x1, .int .i64 x2]
  have HX := Lib.hid hx
  have HB := Lib.hid hb1
  clear h hn hb1 hx
  go_enter Try.func77, Try.ntmps77
  go_wp2
  obtain ⟨W, hW⟩ : ∃ W, W = w.alloc (.cells #[.int .i64 x1, .int .i64 x2] 57) := ⟨_, rfl⟩
  rw [← hW] at HB HX ⊢
  clear hW
  go_loopw [8] (fun i' wr => ∃ i : Nat, i ≤ L.length ∧ i' = .int .i64 i ∧ Hid (∀ (j : Nat) (s : Pr), j < i → L[j]? = some s → ¬ (x1, x2) = s) ∧ ∃ n, wr = W.drewN n) (fun i' _ => L.length - (intOf i').toNat)
  case atStart => exact ⟨0, Nat.zero_le _, rfl, fun j s h => by omega, 0, rfl⟩
  case round =>
    obtain ⟨i, hi, rfl, HI, n, rfl⟩ := hrel
    by_cases hlt : i < L.length
    · obtain ⟨s, hs⟩ : ∃ s, L[i]? = some s := ⟨_, List.getElem?_eq_getElem hlt⟩
      obtain ⟨c1, c2⟩ := HP.out i s hs
      have k1 := (HB.out.cell (p := ⟨g, i * 2, none⟩) hg).trans c1
      have k2 := (HB.out.cell (p := ⟨g, i * 2 + 1, none⟩) hg).trans c2
      have hi0 : (0 : Int) ≤ (i : Int) := Int.natCast_nonneg _
      have hiL : (i : Int) < (L.length : Int) := by omega
      have k3 := HX.out.at_ (i := 0) rfl
      have k4 := HX.out.at_ (i := 1) rfl
      have HS := Lib.hid hs
      obtain ⟨y1, y2⟩ := s
      clear c1 c2 hs
      simp only at k1 k2
      by_cases he1 : x1 = y1
      case neg =>
        have e1 : (x1 == y1) = false := by simpa using he1
        have hpe : ∀ W : World, (binOp .eql 57 (.agg #[.int .i64 x1, .int .i64 x2]) (.agg #[.int .i64 y1, .int .i64 y2])).run Try.prog W = .ok (.bool false) W := fun W => by rw [pair_eql, e1]; rfl
        have HN2 : Hid (∀ (j : Nat) (s : Pr), j < i + 1 → L[j]? = some s → ¬ (x1, x2) = s) := fun j s hj hjs => by
          by_cases e : j = i
          · subst e
            obtain rfl := Option.some.inj (HS.out.symm.trans hjs)
            intro e2
            exact he1 (Prod.mk.inj e2).1
          · exact HI.out j s (by omega) hjs
        go_wp2
        go_quiet (fail)
        go_wp2
        go_roundw
        case rel => exact ⟨i + 1, by omega, by go_num, HN2, _, rfl⟩
        case measure => simp [intOf]; omega
      case pos =>
        have e1 : (x1 == y1) = true := by simpa using he1
        have HE1 := Lib.hid he1
        clear he1
        by_cases he2 : x2 = y2
        case neg =>
          have e2 : (x2 == y2) = false := by simpa using he2
          have hpe : ∀ W : World, (binOp .eql 57 (.agg #[.int .i64 x1, .int .i64 x2]) (.agg #[.int .i64 y1, .int .i64 y2])).run Try.prog W = .ok (.bool false) W := fun W => by rw [pair_eql, e1, e2]; rfl
          clear e1 e2
          have HN2 : Hid (∀ (j : Nat) (s : Pr), j < i + 1 → L[j]? = some s → ¬ (x1, x2) = s) := fun j s hj hjs => by
            by_cases e : j = i
            · subst e
              obtain rfl := Option.some.inj (HS.out.symm.trans hjs)
              intro e2
              exact he2 (Prod.mk.inj e2).2
            · exact HI.out j s (by omega) hjs
          go_wp2
          go_quiet (fail)
          go_wp2
          go_roundw
          case rel => exact ⟨i + 1, by omega, by go_num, HN2, _, rfl⟩
          case measure => simp [intOf]; omega
        case pos =>
          have e2 : (x2 == y2) = true := by simpa using he2
          have hpe : ∀ W : World, (binOp .eql 57 (.agg #[.int .i64 x1, .int .i64 x2]) (.agg #[.int .i64 y1, .int .i64 y2])).run Try.prog W = .ok (.bool true) W := fun W => by rw [pair_eql, e1, e2]; rfl
          have HE2 := Lib.hid he2
          have HE : Hid (pairAt L (x1, x2) = (i : Int)) := pairAt_hit HN.out (by rw [HE1.out, HE2.out]; exact HS.out)
          clear he2 e1 e2
          go_wp2
          go_quiet (fail)
          go_wp2
          go_ret
          exact ⟨ret_i HE.out.symm, by rw [World.drewN_drewN]; exact below_drewN HB.out _⟩
    · have HE : Hid (pairAt L (x1, x2) = -1) := pairAt_miss fun j s hj => HI.out j s (by have := (List.getElem?_eq_some_iff.1 hj).1; omega) hj
      go_wp2
      go_ret
      exact ⟨ret_i HE.out.symm, below_drewN HB.out _⟩
end Comb
end Go.Proofs.Ythnmighlgifoeaa
