/- Contract of the model's function that cuts a text into its pieces. No conditions beyond those that it states. -/
import Derived.Test.YtbebifnnnmgihabDoorParVal
import Derived.Test.YtbebifnnnmgihabDoorSeqs2
import Derived.Test.YtbebifnnnmgihabDoorSeqEq
import Derived.BigQuiet
import Derived.Deep.QuietTactic
import Derived.IntWalk
namespace Go.Proofs.YtbebifnnnmgihabDoor
open Go.ChangeShapes Go.WideShapes Go.ChangeAt Go.RowKit
open Go.PlainAid Plain
set_option linter.unusedVariables false
namespace Par
open Seqs
def encS (l : List UInt8) : Value := .string ⟨l.toArray⟩
theorem infoT : (Tryd.prog.info? 9).map (fun i => (i.zero, i.size, i.bytes)) = some (some (.string ⟨#[]⟩), 1, 16) := by kernel_rfl
theorem bt_data (s : ByteArray) (i : Nat) (x : UInt8) (h : s.data.toList[i]? = some x) : bt s i = (x.toNat : Int) := by
  obtain ⟨h1, h2⟩ := List.getElem?_eq_some_iff.1 h
  have hs : i < s.size := by simpa using h1
  unfold bt
  rw [dif_pos hs, ← h2, Array.getElem_toList]
  rfl
theorem part_more (s : ByteArray) (p : List UInt8) (i : Nat) (x : UInt8) (h : s.data.toList[i]? = some x) : (⟨p.toArray⟩ : ByteArray) ++ s.extract i (i + 1) = ⟨(p ++ [x]).toArray⟩ := by
  obtain ⟨h1, h2⟩ := List.getElem?_eq_some_iff.1 h
  apply ByteArray.ext
  apply Array.ext'
  rw [ByteArray.data_append, Array.toList_append, Lib.extract_data, Nat.add_sub_cancel_left, List.drop_eq_getElem_cons h1, h2]
  simp
theorem u8_eq {x c : UInt8} : ((x.toNat : Int) = (c.toNat : Int)) ↔ x = c := by
  rw [Int.ofNat_inj]
  exact UInt8.toNat_inj
theorem has_lits {w : World} {base : Nat} (h : base ≤ w.heap.size) : Has encS 9 (w.alloc (Obj.cells #[] 9)) base (.slice (some ⟨w.heap.size, 0, none⟩) 0 0) [] := has_lit0 rfl h
set_option maxHeartbeats 1000000 in
set_option maxRecDepth 100000 in
theorem spec_cut (s : ByteArray) (c : UInt8) (w : World) (hs : s.size ≤ 1048576) :
    Calls Tryd.prog 32 #[.string s, .int .u8 (c.toNat : Int)] w (Gives encS 9 (cutP c s.data.toList) w) := by
  obtain ⟨i0, hi, hz0, hz1, hz2⟩ := info_parts infoT
  have hbt := get_bt s
  have HL : Hid (s.data.toList.length = s.size) := Array.length_toList
  have HO0 : Hid (Has encS 9 (w.alloc (Obj.cells #[] 9)) w.heap.size (.slice (some ⟨w.heap.size, 0, none⟩) 0 0) []) := has_lits (Nat.le_refl _)
  have HB0 : Hid (Below w.heap.size w (w.alloc (Obj.cells #[] 9))) := (Below.refl _ _).alloc (Nat.le_refl _) _
  go_enter Tryd.func32, Tryd.ntmps32
  go_wp2
  generalize w.alloc (Obj.cells #[] 9) = W0 at HO0 HB0 ⊢
  go_loopw [5, 6, 7] (fun o' p' i' wr => ∃ (i : Nat) (vo : Value) (done : List (List UInt8)) (part : List UInt8), i ≤ s.size ∧ i' = .int .i64 i ∧ vo = o' ∧ p' = .string ⟨part.toArray⟩ ∧ Hid (cutF c (s.data.toList.take i) = (done, part)) ∧ Hid (Has encS 9 wr w.heap.size vo done) ∧ Hid (Below w.heap.size w wr)) (fun _ _ i' _ => s.size - (intOf i').toNat)
  case atStart => exact ⟨0, _, [], [], Nat.zero_le _, rfl, rfl, rfl, rfl, HO0, HB0⟩
  case round =>
    obtain ⟨i, vo, done, part, hil, rfl, rfl, rfl, HF, HO, HB⟩ := hrel
    have hsz := cutF_size c (s.data.toList.take i)
    rw [HF.out] at hsz
    have hdl : done.length ≤ 1048576 := by have h1 : done.length ≤ _ := hsz.1; rw [List.length_take] at h1; have := HL.out; omega
    have hpl : part.length ≤ 1048576 := by have h1 : part.length ≤ _ := hsz.2; rw [List.length_take] at h1; have := HL.out; omega
    have hps : (⟨part.toArray⟩ : ByteArray).size ≤ 1048576 := by show part.toArray.size ≤ _; rw [List.size_toArray]; exact hpl
    have HZ : Hid (w.heap.size ≤ wr.heap.size) := HB.out.size
    clear hsz
    by_cases hlt : i < s.size
    · obtain ⟨x, hx⟩ : ∃ x, s.data.toList[i]? = some x := ⟨_, List.getElem?_eq_getElem (by rw [HL.out]; exact hlt)⟩
      have hbx := bt_data s i x hx
      have hd1 := decide_eq_true (show (i : Int) < (s.size : Int) by omega)
      have hd2 := decide_eq_true hlt
      have HSN : Hid (cutF c (s.data.toList.take (i + 1)) = stepC c (done, part) x) := by
        show _ = _
        obtain ⟨h1, h2⟩ := List.getElem?_eq_some_iff.1 hx
        rw [List.take_succ_eq_append_getElem h1, h2, cutF_snoc, HF.out]
      have HPM := Lib.hid (part_more s part i x hx)
      have hi0 : (0 : Int) ≤ (i : Int) := Int.natCast_nonneg _
      have hb0 := bt_nonneg s i
      have hb1 := bt_le s i
      have e1 : IntKind.i64.wrap ((i : Int) + 1) = (i : Int) + 1 := IntWalk.i64_in _ (by omega)
      have e2 : 0 ≤ (i : Int) + 1 := by omega
      have e3 : ((i : Int) + 1).toNat = i + 1 := by omega
      have e4 : (i : Int) ≤ (i : Int) + 1 := by omega
      have e5 : i + 1 ≤ s.size := by omega
      have e6 : i ≤ i + 1 := by omega
      have e7 : (i : Int) + 1 ≤ (s.size : Int) := by omega
      by_cases hxc : x = c
      · have hq : bt s i = (c.toNat : Int) := by rw [hbx, hxc]
        have hdq := decide_eq_true hq
        have HS2 : Hid (cutF c (s.data.toList.take (i + 1)) = (done ++ [part], [])) := by
          show _ = _
          rw [HSN.out, hxc, stepC_hit]
        clear hx hbx hxc e1 e2 e3 e4 e5 e6 e7
        go_wp2_with (at_builtin; refine append_one (enc := encS) (e := 9) wr rfl _ _ 55 rfl w.heap.size i0 (.string ⟨#[]⟩) 16 Tryd.underlying55 hi hz0 hz1 hz2 rfl vo done rfl HO.out part rfl (fun _ => rfl) (by omega) (by omega) HZ.out ?_; intro v' w1 ho hg; have HO3 := Lib.hid ho; have HB3 := Lib.hid (HO.out.frame HB.out (Nat.le_refl _) hg); clear hg ho)
        go_roundw
        case rel => exact ⟨i + 1, v', _, _, by omega, by go_num, rfl, rfl, HS2, HO3, HB3⟩
        case measure => simp [intOf]; omega
      · have hq : ¬ bt s i = (c.toNat : Int) := by rw [hbx]; exact fun e => hxc (u8_eq.1 e)
        have hdq := decide_eq_false hq
        have HS2 : Hid (cutF c (s.data.toList.take (i + 1)) = (done, part ++ [x])) := by
          show _ = _
          rw [HSN.out, stepC_miss hxc]
        clear hx hbx hxc
        go_wp2
        go_roundw
        case rel => exact ⟨i + 1, vo, _, _, by omega, by go_num, rfl, by rw [HPM.out], HS2, HO, HB⟩
        case measure => simp [intOf]; omega
    · obtain rfl : i = s.size := by omega
      have hd1 := decide_eq_false (show ¬ (s.size : Int) < (s.size : Int) by omega)
      have HE : Hid (done ++ [part] = cutP c s.data.toList) := by
        show _ = _
        have h1 := HF.out
        rw [List.take_of_length_le (by rw [HL.out]; exact Nat.le_refl _)] at h1
        unfold cutP
        rw [h1]
      go_wp2_with (at_builtin; refine append_one (enc := encS) (e := 9) wr rfl _ _ 55 rfl w.heap.size i0 (.string ⟨#[]⟩) 16 Tryd.underlying55 hi hz0 hz1 hz2 rfl vo done rfl HO.out part rfl (fun _ => rfl) (by omega) (by omega) HZ.out ?_; intro v' w1 ho hg; have HO3 := Lib.hid ho; have HB3 := Lib.hid (HO.out.frame HB.out (Nat.le_refl _) hg); clear hg ho)
      rw [HE.out] at HO3
      go_ret
      exact ⟨_, rfl, HO3.out, HB3.out⟩
end Par
end Go.Proofs.YtbebifnnnmgihabDoor
