/- Contracts of the functions that read letters, of the model and of the program. No conditions beyond those that each states. -/
import Derived.Test.YtbebifnnnmgihabDoorTextVal
import Derived.Test.YtbebifnnnmgihabDoorHexRune
import Derived.Test.YtbebifnnnmgihabDoorInts
import Derived.Test.YtbebifnnnmgihabDoorSeqEq
import Derived.Test.YtbebifnnnmgihabDoorHexDecVal
import Derived.Test.YtbebifnnnmgihabDoorLists2
import Derived.Test.YtbebifnnnmgihabDoorSeqs2
import Derived.Lib.RuneCount
import Derived.Lib.OthersKept
namespace Go.Proofs.YtbebifnnnmgihabDoor
open Go.ChangeShapes Go.WideShapes Go.ChangeAt Go.RowKit
open Go.PlainAid Plain
set_option linter.unusedVariables false
namespace Mor
open Seqs
theorem letter (b : Int) (w : World) (h0 : 0 ≤ b) (h1 : b ≤ 255) :
    Calls Tryd.prog 33 #[.int .u8 b] w fun e w' => e = .returned (.int .i64 (hexv b)) ∧ w = w' := by
  by_cases h2 : 48 ≤ b
  · have hd := decide_eq_true (show b ≥ 48 from h2)
    by_cases h3 : b ≤ 57
    · have hd1 := decide_eq_true h3
      have HE : Hid (hexv b = b - 48) := by show _ = _; unfold hexv; rw [if_pos ⟨h2, h3⟩]
      go_enter Tryd.func33, Tryd.ntmps33
      go_wp2
      go_ret
      exact ⟨ret_i (by rw [HE.out]), rfl⟩
    · have hd1 := decide_eq_false h3
      by_cases h4 : 97 ≤ b
      · have hd2 := decide_eq_true (show b ≥ 97 from h4)
        by_cases h5 : b ≤ 102
        · have hd3 := decide_eq_true h5
          have HE : Hid (hexv b = b - 97 + 10) := by show _ = _; unfold hexv; rw [if_neg (by omega), if_pos ⟨h4, h5⟩]; omega
          go_enter Tryd.func33, Tryd.ntmps33
          go_wp2
          go_ret
          exact ⟨ret_i (by rw [HE.out]), rfl⟩
        · have hd3 := decide_eq_false h5
          have HE : Hid (hexv b = -1) := by show _ = _; unfold hexv; rw [if_neg (by omega), if_neg (by omega)]
          go_enter Tryd.func33, Tryd.ntmps33
          go_wp2
          go_ret
          exact ⟨ret_i (by rw [HE.out]), rfl⟩
      · have hd2 := decide_eq_false (show ¬ b ≥ 97 from h4)
        have HE : Hid (hexv b = -1) := by show _ = _; unfold hexv; rw [if_neg (by omega), if_neg (by omega)]
        go_enter Tryd.func33, Tryd.ntmps33
        go_wp2
        go_ret
        exact ⟨ret_i (by rw [HE.out]), rfl⟩
  · have hd := decide_eq_false (show ¬ b ≥ 48 from h2)
    have hd2 := decide_eq_false (show ¬ b ≥ 97 by omega)
    have HE : Hid (hexv b = -1) := by show _ = _; unfold hexv; rw [if_neg (by omega), if_neg (by omega)]
    go_enter Tryd.func33, Tryd.ntmps33
    go_wp2
    go_ret
    exact ⟨ret_i (by rw [HE.out]), rfl⟩
/-- How far the program's letters have come at byte i. -/
def RunesAt (s : ByteArray) (i : Nat) (xs : List Int) : Prop := xs.length ≤ i ∧ ((i ≤ s.size ∧ xs = lets s i) ∨ ((-1 : Int) ∈ xs ∧ (-1 : Int) ∈ lets s s.size))
theorem lets_mem {s : ByteArray} {i : Nat} (h : i < s.size) : hexv (bt s i) ∈ lets s s.size := by
  have : ∀ n i : Nat, i < n → hexv (bt s i) ∈ lets s n := by
    intro n
    induction n with
    | zero => intro i hi; omega
    | succ n ih =>
      intro i hi
      rw [lets_succ]
      by_cases e : i = n
      · subst e; simp
      · exact List.mem_append_left _ (ih i (by omega))
  exact this _ _ h
theorem runes_ascii {s : ByteArray} {i : Nat} {xs : List Int} (h : RunesAt s i xs) (hi : i < s.size) : RunesAt s (i + 1) (xs ++ [hexv (bt s i)]) := by
  refine ⟨by have := h.1; simp; omega, ?_⟩
  rcases h.2 with ⟨h1, h2⟩ | ⟨h1, h2⟩
  · exact .inl ⟨by omega, by rw [lets_succ, h2]⟩
  · exact .inr ⟨by simp [h1], h2⟩
theorem runes_high {s : ByteArray} {i q : Nat} {xs : List Int} (h : RunesAt s i xs) (hi : i < s.size) (hb : 128 ≤ bt s i) (hq : 1 ≤ q) : RunesAt s (i + q) (xs ++ [-1]) := by
  refine ⟨by have := h.1; simp; omega, .inr ⟨by simp, ?_⟩⟩
  have h1 := lets_mem hi
  rwa [hexv_high _ hb] at h1
theorem runes_end {s : ByteArray} {i : Nat} {xs : List Int} (h : RunesAt s i xs) (hi : ¬ i < s.size) : wordB xs 16 = wordB (lets s s.size) 16 ∧ (wordB (lets s s.size) 16 = true → xs = lets s s.size) := by
  rcases h.2 with ⟨h1, h2⟩ | ⟨h1, h2⟩
  · have e : i = s.size := by omega
    subst e
    exact ⟨by rw [h2], fun _ => h2⟩
  · rw [no_word h1, no_word h2]
    exact ⟨rfl, fun h => by cases h⟩
theorem has_iter {w : World} {base k p0 : Nat} {v : Value} {xs : List Int} {s : ByteArray} (h : Has (Value.int .i64) 3 w base v xs) (hk : w.heap[k]? = some (.stringIter s p0)) (p : Nat) : Has (Value.int .i64) 3 (w.iterAt k s p) base v xs := owns_iterAt h hk p
set_option maxHeartbeats 2000000 in
theorem hex_values (s : ByteArray) (w : World) (hs : s.size ≤ 1048576) :
    Calls Tryd.prog 37 #[.string s] w fun e w' => ∃ v xs, e = .returned v ∧ Has (Value.int .i64) 3 w' w.heap.size v xs ∧ (wordB xs 16 = wordB (lets s s.size) 16 ∧ (wordB (lets s s.size) 16 = true → xs = lets s s.size)) ∧ Below w.heap.size w w' := by
  obtain ⟨i0, hi, hz0, hz1, hz2⟩ := info_parts Ints.infoI
  have hbt := get_bt s
  go_enter Tryd.func37, Tryd.ntmps37
  have HI0 : Hid ((w.alloc (.stringIter s 0)).heap[w.heap.size]? = some (.stringIter s 0)) := World.iter_heap _ _ _
  have HO0 : Hid (Has (Value.int .i64) 3 (w.alloc (.stringIter s 0)) (w.heap.size + 1) (.slice none 0 0) []) := World.ownsRow_nil _ _ _ _
  have HB0 : Hid (Below w.heap.size w (w.alloc (.stringIter s 0))) := (Below.refl _ _).alloc (Nat.le_refl _) _
  have HR0 : Hid (RunesAt s 0 []) := ⟨Nat.zero_le _, .inl ⟨Nat.zero_le _, rfl⟩⟩
  go_wp2
  go_loopw [3] (fun v' wr => ∃ (i : Nat) (vo : Value) (xs : List Int), vo = v' ∧ Hid (wr.heap[w.heap.size]? = some (.stringIter s i)) ∧ Hid (Has (Value.int .i64) 3 wr (w.heap.size + 1) vo xs) ∧ Hid (RunesAt s i xs) ∧ Hid (Below w.heap.size w wr)) (fun _ wr => s.size - wr.iterPos w.heap.size)
  case atStart => exact ⟨0, _, [], rfl, HI0, HO0, HR0, HB0⟩
  case round =>
    obtain ⟨i, vo, xs, rfl, HIr, HOr, HRr, HBr⟩ := hrel
    have hit := HIr.out
    have hkz : w.heap.size < wr.heap.size := (Array.getElem?_eq_some_iff.1 hit).1
    by_cases hlt : i < s.size
    · have hb0 := bt_nonneg s i
      have hb1 := bt_le s i
      have hxl : xs.length ≤ 1048576 := by have := HRr.out.1; omega
      by_cases hasc : bt s i < 128
      · have hnx := fun ty => Lib.run_next_ascii_at (P := Tryd.prog) wr w.heap.size s i ty hit hlt (by have := hbt i hlt; omega)
        have HR2 := Lib.hid (runes_ascii HRr.out hlt)
        have HO2 := Lib.hid (has_iter HOr.out hit (i + 1))
        have HI2 := Lib.hid (Lib.iterAt_heap wr w.heap.size s i (i + 1) hit)
        have HB2 := Lib.hid (Lib.below_iterAt HBr.out (k := w.heap.size) (Nat.le_refl _) s (i + 1))
        have HZ2 : Hid (w.heap.size + 1 ≤ (wr.iterAt w.heap.size s (i + 1)).heap.size) := (Array.getElem?_eq_some_iff.1 HI2.out).1
        clear HOr HBr
        go_wp2_with (first | (go_at_call 51; refine (HexRune.digit_ascii _ _ (by omega) (by omega)).mono ?_; rintro e w' ⟨rfl, rfl⟩; obtain ⟨W2, hW2⟩ : ∃ W, W = wr.iterAt w.heap.size s (i + 1) := ⟨_, rfl⟩; rw [← hW2] at HO2 HI2 HB2 HZ2 ⊢; clear hW2) | (at_builtin; refine append_one (enc := (Value.int .i64)) (e := 3) W2 rfl _ _ 23 rfl (w.heap.size + 1) i0 (.int .i64 0) 8 Tryd.underlying23 hi hz0 hz1 hz2 rfl vo xs rfl HO2.out (hexv (bt s i)) rfl (fun _ => rfl) (by omega) (by omega) HZ2.out ?_; intro v' w1 ho hg; have HO3 := Lib.hid ho; have HI3 : Hid (w1.heap[w.heap.size]? = some (.stringIter s (i + 1))) := (hg.block _ (by have := HZ2.out; omega) (fun e => by have := HO2.out.lt _ e.symm; omega)).trans HI2.out; have HB3 := Lib.hid (HO2.out.frame HB2.out (Nat.le_succ _) hg); clear hg ho))
        go_roundw
        case rel => exact ⟨i + 1, v', _, rfl, HI3, HO3, HR2, HB3⟩
        case measure =>
          rw [iterPos_of (p := i + 1) HI3.out, iterPos_of HIr.out]
          omega
      · have hnx := fun ty => Lib.run_next_any_at (P := Tryd.prog) wr w.heap.size s i ty hit hlt
        have hval := Plain.decode_valid s i
        have hhi := Plain.decode_high s i hlt (by omega)
        have hwp := Lib.decode_width_pos s i hlt
        obtain ⟨r, hr⟩ : ∃ r : Nat, r = (Utf8.decode s i).1 := ⟨_, rfl⟩
        obtain ⟨q, hq⟩ : ∃ q : Nat, q = (Utf8.decode s i).2 := ⟨_, rfl⟩
        rw [← hr] at hnx hval hhi
        rw [← hq] at hnx hwp
        have HR2 := Lib.hid (runes_high HRr.out hlt (by omega) hwp)
        have HO2 := Lib.hid (has_iter HOr.out hit (i + q))
        have HI2 := Lib.hid (Lib.iterAt_heap wr w.heap.size s i (i + q) hit)
        have HB2 := Lib.hid (Lib.below_iterAt HBr.out (k := w.heap.size) (Nat.le_refl _) s (i + q))
        have HZ2 : Hid (w.heap.size + 1 ≤ (wr.iterAt w.heap.size s (i + q)).heap.size) := (Array.getElem?_eq_some_iff.1 HI2.out).1
        have hr1 : (128 : Int) ≤ (r : Int) := by omega
        have HV := Lib.hid hval
        clear HOr HBr hr hq hval
        go_wp2_with (first | (go_at_call 51; refine (HexRune.digit_high _ _ HV.out hr1).mono ?_; rintro e W2 ⟨rfl, hb2⟩; replace HO2 := Lib.hid (HO2.out.below hb2); replace HI2 : Hid (W2.heap[w.heap.size]? = some (.stringIter s (i + q))) := (hb2.block _ HZ2.out).trans HI2.out; replace HB2 := Lib.hid (HB2.out.trans (hb2.mono HB2.out.size)); replace HZ2 : Hid (w.heap.size + 1 ≤ W2.heap.size) := Nat.le_trans HZ2.out hb2.size; clear hb2) | (at_builtin; refine append_one (enc := (Value.int .i64)) (e := 3) W2 rfl _ _ 23 rfl (w.heap.size + 1) i0 (.int .i64 0) 8 Tryd.underlying23 hi hz0 hz1 hz2 rfl vo xs rfl HO2.out (-1) rfl (fun _ => rfl) (by omega) (by omega) HZ2.out ?_; intro v' w1 ho hg; have HO3 := Lib.hid ho; have HI3 : Hid (w1.heap[w.heap.size]? = some (.stringIter s (i + q))) := (hg.block _ (by have := HZ2.out; omega) (fun e => by have := HO2.out.lt _ e.symm; omega)).trans HI2.out; have HB3 := Lib.hid (HO2.out.frame HB2.out (Nat.le_succ _) hg); clear hg ho))
        go_roundw
        case rel => exact ⟨i + q, v', _, rfl, HI3, HO3, HR2, HB3⟩
        case measure =>
          rw [iterPos_of (p := i + q) HI3.out, iterPos_of HIr.out]
          omega
    · have hnx := fun ty => Lib.run_next_end_at (P := Tryd.prog) wr w.heap.size s i ty hit hlt
      have HE := Lib.hid (runes_end HRr.out hlt)
      go_wp2
      go_ret
      exact ⟨_, xs, rfl, HOr.out.mono (Nat.le_succ _), HE.out, HBr.out⟩
theorem eq_none (s : ByteArray) : s.toList.isEmpty = decide (s.size = 0) := by
  have h := nums_beq (bseg s 0 s.size) [] (bseg_bytes s _ _) (fun x hx => by simp at hx)
  rw [← seg_all, Lib.strOfNums_toList] at h
  have h2 : s.toList.isEmpty = (s.toList == Lib.bytesOf []) := by
    show s.toList.isEmpty = (s.toList == [])
    cases s.toList <;> rfl
  rw [h2]
  refine h.trans (decide_eq_decide.2 ⟨fun h => ?_, fun h => ?_⟩)
  · have := congrArg List.length h
    rw [bseg_length] at this
    exact this
  · rw [h]; rfl
theorem eq_none' {s : ByteArray} (h : s.size = 0) : s.toList = [] := List.isEmpty_iff.1 (by rw [eq_none]; exact decide_eq_true h)
theorem ne_none {s : ByteArray} (h : ¬ s.size = 0) : ¬ s.toList = [] := fun e => h (of_decide_eq_true (by rw [← eq_none, e]; rfl))
end Mor
end Go.Proofs.YtbebifnnnmgihabDoor
