/- Contracts of the exact laws' own helpers on slices of ints: copying one, comparing two, writing marks into one, asking for the marks. No conditions beyond those that each states. -/
import Derived.Test.YtfpdikohlafpiaaGreatRows
import Derived.WalkKit
import Derived.ProofKit
import Derived.OpenShut
import Derived.PlainAid
import Derived.Lib.Hide
import Derived.BigQuiet
import Derived.Deep.QuietTactic
import Derived.WalkSmall
import Derived.Test.YtfpdikohlafpiaaGreatPlain
import Derived.Test.YtfpdikohlafpiaaGreatKit
import Derived.Test.YtfpdikohlafpiaaGreatLists
namespace Go.Proofs.YtfpdikohlafpiaaGreat
open Go.ChangeShapes Go.WideShapes Go.ChangeAt Go.RowKit
open Go.PlainAid Plain
set_option linter.unusedVariables false
namespace Ints
theorem infoI : (Tryz.prog.info? 3).map (fun i => (i.zero, i.size, i.bytes)) = some (some (.int .i64 0), 1, 8) := by kernel_rfl
theorem same_yes (u v : Value) (xs : List Int) (w : World) (h1 : Lies (Value.int .i64) w u xs) (h2 : Lies (Value.int .i64) w v xs) :
    Calls Tryz.prog 11 #[u, v] w fun e w' => e = .returned (.bool true) ∧ Below w.heap.size w w' := by
  obtain ⟨hl, a, ca, rfl, _, hca⟩ := h1
  obtain ⟨_, b, cb, rfl, _, hcb⟩ := h2
  have HA := Lib.hid hca
  have HB := Lib.hid hcb
  clear hca hcb
  go_enter Tryz.func11, Tryz.ntmps11
  go_wp2
  go_loopw [5] (fun i' wr => ∃ k : Nat, k ≤ xs.length ∧ i' = .int .i64 k ∧ ∃ n, wr = w.drewN n) (fun i' _ => xs.length - (intOf i').toNat)
  case atStart => exact ⟨0, Nat.zero_le _, rfl, 0, rfl⟩
  case round =>
    obtain ⟨k, hk, rfl, n, rfl⟩ := hrel
    by_cases hlt : k < xs.length
    · obtain ⟨p, o, rfl, hc1⟩ := HA.out k _ (List.getElem?_eq_getElem hlt)
      obtain ⟨q, r, rfl, hc2⟩ := HB.out k _ (List.getElem?_eq_getElem hlt)
      go_wp2
      go_quiet (fail)
      go_wp2
      go_roundw
      case rel => exact ⟨k + 1, by omega, by go_num, _, rfl⟩
      case measure => simp [intOf]; omega
    · go_wp2
      go_ret
      exact ⟨rfl, below_drewN (Below.refl _ _) _⟩
/-- n marks from k on. -/
def marks (k : Int) (n : Nat) : List Int := (List.range n).map (fun j : Nat => k + j)
theorem marks_len (k : Int) (n : Nat) : (marks k n).length = n := by simp [marks]
theorem marks_at (k : Int) (n i : Nat) (h : i < n) : (marks k n)[i]? = some (k + i) := by simp [marks, h]
theorem marks_succ (k : Int) (n : Nat) : marks k (n + 1) = marks k n ++ [k + n] := by simp [marks, List.range_succ]
theorem marks_set (k : Int) (i : Nat) (xs : List Int) (h : i < xs.length) : ((marks k i ++ xs.drop i).map (Value.int .i64)).set i (.int .i64 (k + i)) = (marks k (i + 1) ++ xs.drop (i + 1)).map (Value.int .i64) := by
  rw [List.drop_eq_getElem_cons h, List.map_append, List.map_cons, set_mid _ _ _ _ i (by rw [List.length_map, marks_len]), marks_succ, List.append_assoc, List.map_append]
  rfl
theorem take_set (xs : List Int) (i : Nat) (h : i < xs.length) : ((xs.take i ++ List.replicate (xs.length - i) (0 : Int)).map (Value.int .i64)).set i (.int .i64 xs[i]) = (xs.take (i + 1) ++ List.replicate (xs.length - (i + 1)) (0 : Int)).map (Value.int .i64) := by
  rw [show xs.length - i = (xs.length - (i + 1)) + 1 from by omega, List.replicate_succ, List.map_append, List.map_cons, set_mid _ _ _ _ i (by rw [List.length_map, List.length_take]; omega), List.take_succ_eq_append_getElem h, List.append_assoc, List.map_append]
  rfl
theorem zero_made (a : Nat) : (madeCells (Value.int .i64 0).cells (a * 1)).toList = (List.replicate a (0 : Int)).map (Value.int .i64) := by
  rw [show (Value.int .i64 0).cells = #[Value.int .i64 0] from rfl, toList_madeCells_one]
  simp
theorem made_has {w1 : World} {base n : Nat} {v : Value} (h : w1.ownsRow base 3 1 v n (madeCells (Value.int .i64 0).cells (n * 1)).toList) : Has (Value.int .i64) 3 w1 base v (List.replicate n 0) := by
  rw [zero_made] at h
  show w1.ownsRow _ _ _ _ _ _
  rw [List.length_replicate]
  exact h
theorem size_i : (Tryz.prog.info? 3).map (·.size) = some 1 := by kernel_rfl
/-- A slice of ints that came in. -/
theorem lies_of_row {w : World} {a : Option Addr} {len cap : Nat} {zs : List Int}
    (h : (a = none ∧ len = 0 ∧ cap = 0 ∧ zs = []) ∨ ∃ x, a = some x ∧ len ≤ cap ∧ cap ≤ maxLen ∧ zs.length = cap ∧ (∀ i, i < zs.length → w.cell? (x.add i) = some (.int .i64 (zs.getD i 0))) ∧ ∀ n ∈ zs, (Lit.int .i64 n).wf = true) :
    ∃ xs : List Int, len = xs.length ∧ Lies (Value.int .i64) w (.slice a xs.length cap) xs := by
  rcases h with ⟨rfl, rfl, rfl, rfl⟩ | ⟨x, rfl, hl, hm, hz, hcell, _⟩
  · exact ⟨[], rfl, by simp, none, 0, rfl, fun _ => rfl, fun i x hx => by cases hx⟩
  · have hlen : (zs.take len).length = len := by rw [List.length_take]; omega
    refine ⟨zs.take len, hlen.symm, by rw [hlen]; unfold maxLen at hm; omega, some x, cap, rfl, (fun h => by cases h), fun i y hy => ?_⟩
    rw [List.getElem?_take] at hy
    split at hy
    · have hi : i < zs.length := (List.getElem?_eq_some_iff.1 hy).1
      have hc := hcell i hi
      obtain ⟨b, off, spot⟩ := x
      have h0 := hcell 0 (by omega)
      obtain rfl : spot = none := by simpa [Addr.add] using World.cell?_spot h0
      rw [addr_plus] at hc
      rw [show zs.getD i 0 = y from by simp [List.getD, hy]] at hc
      exact ⟨b, off, rfl, hc⟩
    · cases hy
end Ints
end Go.Proofs.YtfpdikohlafpiaaGreat
