/- Contract of raised: a new row whose states are one higher. No conditions beyond those that it states. -/
import Derived.Test.YthnmighlgifoeaaSeqSteady
import Derived.Test.YthnmighlgifoeaaSeqCopyS
namespace Go.Proofs.Ythnmighlgifoeaa
open Go.ChangeShapes Go.WideShapes Go.ChangeAt Go.RowKit
open Go.PlainAid Plain
set_option linter.unusedVariables false
namespace Seqs
theorem raise_len (r : List Int) : (raise r).length = r.length := by simp [raise]
theorem raise_set (xs : List Int) (i : Nat) (h : i < xs.length) : (((raise xs).take i ++ List.replicate (xs.length - i) (0 : Int)).map (Value.int .i64)).set i (.int .i64 (xs[i] + 1)) = ((raise xs).take (i + 1) ++ List.replicate (xs.length - (i + 1)) (0 : Int)).map (Value.int .i64) := by
  have h1 := Ints.take_set (raise xs) i (by rw [raise_len]; exact h)
  have e : (raise xs)[i]'(by rw [raise_len]; exact h) = xs[i] + 1 := by simp [raise]
  rw [e] at h1
  simpa only [raise_len] using h1
theorem raised_any (v : Value) (xs : List Int) (w : World) (h : Lies (Value.int .i64) w v xs) (hs : xs.length ≤ 1048576) (hb : ∀ x ∈ xs, 0 ≤ x ∧ x < 1000) :
    Calls Try.prog 81 #[v] w (Gives (Value.int .i64) 3 (raise xs) w) := by
  obtain ⟨i0, hi, hz0, hz1, hz2⟩ := info_parts Ints.infoI
  obtain ⟨hl, a, ca, rfl, _, hc⟩ := h
  have HC := Lib.hid hc
  have HBD := Lib.hid hb
  clear hc hb
  go_enter Try.func81, Try.ntmps81
  go_wp2_with (at_make; refine wpList_make_full w rfl _ _ 23 rfl w.heap.size 3 i0 (.int .i64 0) 1 Try.underlying23 hi hz0 hz1 .i64 .i64 _ _ xs.length rfl rfl rfl rfl (by rw [hz2]; omega) (by unfold maxLen; omega) (Nat.le_refl _) ?_; intro w1 hown hgrow)
  have hown0 : Hid (w1.ownsRow w.heap.size 3 1 (.slice (some ⟨w.heap.size, 0, none⟩) xs.length xs.length) xs.length (((raise xs).take 0 ++ List.replicate (xs.length - 0) (0 : Int)).map (Value.int .i64))) := by
    show w1.ownsRow _ _ _ _ _ _
    rw [Ints.zero_made] at hown
    simpa using hown
  have hbel0 := Lib.hid (below_of_grown hgrow)
  clear hown hgrow
  go_loopw [11] (fun i' wr => ∃ i : Nat, i ≤ xs.length ∧ i' = .int .i64 i ∧ Hid (wr.ownsRow w.heap.size 3 1 (.slice (some ⟨w.heap.size, 0, none⟩) xs.length xs.length) xs.length (((raise xs).take i ++ List.replicate (xs.length - i) (0 : Int)).map (Value.int .i64))) ∧ Hid (Below w.heap.size w wr)) (fun i' _ => xs.length - (intOf i').toNat)
  case atStart => exact ⟨0, Nat.zero_le _, rfl, hown0, hbel0⟩
  case round =>
    obtain ⟨i, hi, rfl, hown, hbel⟩ := hrel
    by_cases hlt : i < xs.length
    · obtain ⟨b, o, rfl, hc1⟩ := HC.out i _ (List.getElem?_eq_getElem hlt)
      have hx := HBD.out xs[i] (List.getElem_mem _)
      have hx0 := hx.1
      have hx1 := hx.2
      have hc2 : wr.cell? ⟨b, o + i, none⟩ = some (.int .i64 xs[i]) := (hbel.out.cell (p := ⟨b, o + i, none⟩) (World.block_lt_of_cell? w _ hc1)).trans hc1
      have hne : b ≠ w.heap.size := by have := World.block_lt_of_cell? w _ hc1; simp at this; omega
      have hc : wr.cell? ⟨w.heap.size, i, none⟩ = some (.int .i64 0) := by
        rw [hown.out.cellAt i (by omega)]
        rw [List.getElem?_map, List.getElem?_append_right (by rw [List.length_take, raise_len]; omega), List.length_take, List.getElem?_replicate, if_pos (by rw [raise_len]; omega)]
        rfl
      have hfr := hown.out.frozenAt i
      have hst := hown.out.stored i (.int .i64 (xs[i] + 1))
      rw [raise_set xs i hlt] at hst
      have HS := Lib.hid hst
      clear hst hown hc1 hx
      go_wp2
      go_roundw
      case rel => exact ⟨i + 1, by omega, by go_num, HS.out.1, hbel.out.setCell (Nat.le_refl _) _⟩
      case measure => simp [intOf]; omega
    · obtain rfl : i = xs.length := by omega
      have H2 : Hid (Has (Value.int .i64) 3 wr w.heap.size (.slice (some ⟨w.heap.size, 0, none⟩) xs.length xs.length) (raise xs)) := by
        show wr.ownsRow _ _ _ _ _ _
        have := hown.out
        rw [raise_len]
        rw [Nat.sub_self, List.replicate_zero, List.append_nil, List.take_of_length_le (by rw [raise_len]; exact Nat.le_refl _)] at this
        exact this
      clear hown hlt hi
      go_wp2
      go_ret
      exact ⟨_, rfl, H2.out, hbel.out⟩
end Seqs
end Go.Proofs.Ythnmighlgifoeaa
