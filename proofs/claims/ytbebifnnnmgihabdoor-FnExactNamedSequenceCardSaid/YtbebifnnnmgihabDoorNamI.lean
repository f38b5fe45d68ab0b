/- Contracts of NamedSequence, of the model and of the program. Conditions of the program's: the library's table of powers of ten holds its numbers, and internal/bytealg.MaxLen some number. -/
import Derived.Test.YtbebifnnnmgihabDoorNamL
import Derived.Test.YtbebifnnnmgihabDoorParI
import Derived.Test.YtbebifnnnmgihabDoorParS
namespace Go.Proofs.YtbebifnnnmgihabDoor
open Go.ChangeShapes Go.WideShapes Go.ChangeAt Go.RowKit
open Go.PlainAid Plain
set_option linter.unusedVariables false
set_option linter.unusedSimpArgs false
namespace Plain

def nm_thue : List UInt8 := [116, 104, 117, 101]
def tx_thue : List UInt8 := [50, 58, 32, 48, 49, 47, 48, 32, 49, 48, 47, 49]
def nm_rudin : List UInt8 := [114, 117, 100, 105, 110]
def tx_rudin : List UInt8 := [50, 58, 32, 48, 49, 47, 48, 32, 48, 50, 47, 48, 32, 51, 49, 47, 49, 32, 51, 50, 47, 49]
def nm_period : List UInt8 := [112, 101, 114, 105, 111, 100]
def tx_period : List UInt8 := [50, 58, 32, 48, 49, 47, 48, 32, 50, 51, 47, 48, 32, 48, 49, 47, 49, 32, 50, 51, 47, 49]
def nm_powers : List UInt8 := [112, 111, 119, 101, 114, 115]
def tx_powers : List UInt8 := [50, 58, 32, 48, 49, 47, 48, 32, 49, 50, 47, 49, 32, 50, 50, 47, 48]
def nm_cantor : List UInt8 := [99, 97, 110, 116, 111, 114]
def tx_cantor : List UInt8 := [51, 58, 32, 48, 49, 48, 47, 49, 32, 49, 49, 49, 47, 48]
def nm_mod : List UInt8 := [109, 111, 100]
def tx_mod : List UInt8 := [50, 58, 32, 48, 49, 47, 48, 32, 50, 48, 47, 49, 32, 49, 50, 47, 50]
/-- The text of a named sequence, the empty text for every other name. -/
def namedT (l : List UInt8) : List UInt8 := if l = nm_thue then tx_thue else if l = nm_rudin then tx_rudin else if l = nm_period then tx_period else if l = nm_powers then tx_powers else if l = nm_cantor then tx_cantor else if l = nm_mod then tx_mod else []
theorem i0 : (itoaS 0).data.toList = [48] := itoa_data 0 (by decide)
theorem i1 : (itoaS 1).data.toList = [49] := itoa_data 1 (by decide)
theorem i2 : (itoaS 2).data.toList = [50] := itoa_data 2 (by decide)
theorem i3 : (itoaS 3).data.toList = [51] := itoa_data 3 (by decide)
theorem x0 : hexU 0 = 48 := by decide +kernel
theorem x1 : hexU 1 = 49 := by decide +kernel
theorem x2 : hexU 2 = 50 := by decide +kernel
theorem x3 : hexU 3 = 51 := by decide +kernel
theorem named_of {l t : List UInt8} {b : Int} {rows : List (List Int)} {out : List Int} (hn : namedT l = t) (h0 : t ≠ []) (hq : seqB b rows out = true) (hf : fmtT b rows out rows.length = t) : parK (namedT l) = true ∧ parVB (namedT l) = b ∧ parVR (namedT l) = rows ∧ parVO (namedT l) = out := by
  rw [hn]
  have h1 : fmtV b rows out = ⟨t.toArray⟩ := by rw [fmtV, if_pos hq, hf]
  obtain ⟨h2, h3, h4, h5⟩ := parK_yes h0 h1
  obtain ⟨h6, h7, h8⟩ := par_yes h2
  exact ⟨h2, by rw [h6, h3], by rw [h7, h4], by rw [h8, h5]⟩
theorem is_thue : parK (namedT nm_thue) = true ∧ parVB (namedT nm_thue) = 2 ∧ parVR (namedT nm_thue) = [[0, 1], [1, 0]] ∧ parVO (namedT nm_thue) = [0, 1] := by
  refine named_of (t := tx_thue) (by decide) (by decide) (by decide) ?_
  simp [fmtT, bodyT, rowT, i0, i1, i2, i3, x0, x1, x2, x3, tx_thue]
theorem is_rudin : parK (namedT nm_rudin) = true ∧ parVB (namedT nm_rudin) = 2 ∧ parVR (namedT nm_rudin) = [[0, 1], [0, 2], [3, 1], [3, 2]] ∧ parVO (namedT nm_rudin) = [0, 0, 1, 1] := by
  refine named_of (t := tx_rudin) (by decide) (by decide) (by decide) ?_
  simp [fmtT, bodyT, rowT, i0, i1, i2, i3, x0, x1, x2, x3, tx_rudin]
theorem is_period : parK (namedT nm_period) = true ∧ parVB (namedT nm_period) = 2 ∧ parVR (namedT nm_period) = [[0, 1], [2, 3], [0, 1], [2, 3]] ∧ parVO (namedT nm_period) = [0, 0, 1, 1] := by
  refine named_of (t := tx_period) (by decide) (by decide) (by decide) ?_
  simp [fmtT, bodyT, rowT, i0, i1, i2, i3, x0, x1, x2, x3, tx_period]
theorem is_powers : parK (namedT nm_powers) = true ∧ parVB (namedT nm_powers) = 2 ∧ parVR (namedT nm_powers) = [[0, 1], [1, 2], [2, 2]] ∧ parVO (namedT nm_powers) = [0, 1, 0] := by
  refine named_of (t := tx_powers) (by decide) (by decide) (by decide) ?_
  simp [fmtT, bodyT, rowT, i0, i1, i2, i3, x0, x1, x2, x3, tx_powers]
theorem is_cantor : parK (namedT nm_cantor) = true ∧ parVB (namedT nm_cantor) = 3 ∧ parVR (namedT nm_cantor) = [[0, 1, 0], [1, 1, 1]] ∧ parVO (namedT nm_cantor) = [1, 0] := by
  refine named_of (t := tx_cantor) (by decide) (by decide) (by decide) ?_
  simp [fmtT, bodyT, rowT, i0, i1, i2, i3, x0, x1, x2, x3, tx_cantor]
theorem is_mod : parK (namedT nm_mod) = true ∧ parVB (namedT nm_mod) = 2 ∧ parVR (namedT nm_mod) = [[0, 1], [2, 0], [1, 2]] ∧ parVO (namedT nm_mod) = [0, 1, 2] := by
  refine named_of (t := tx_mod) (by decide) (by decide) (by decide) ?_
  simp [fmtT, bodyT, rowT, i0, i1, i2, i3, x0, x1, x2, x3, tx_mod]
theorem no_name {l : List UInt8} (h_thue : ¬ l = nm_thue) (h_rudin : ¬ l = nm_rudin) (h_period : ¬ l = nm_period) (h_powers : ¬ l = nm_powers) (h_cantor : ¬ l = nm_cantor) (h_mod : ¬ l = nm_mod) : namedT l = [] ∧ parK (namedT l) = false := by
  have h : namedT l = [] := by
    unfold namedT
    rw [if_neg h_thue, if_neg h_rudin, if_neg h_period, if_neg h_powers, if_neg h_cantor, if_neg h_mod]
  rw [h]
  exact ⟨rfl, decide_eq_false fun h => h.1 rfl⟩
theorem name_lit {s : ByteArray} {l : List UInt8} (h : s.data.toList = l) : s = ⟨l.toArray⟩ := by rw [← h]
end Plain
namespace Nam
open Seqs
theorem name_ne {s : ByteArray} {l : List UInt8} (h : ¬ s.data.toList = l) : (s.toList == l) = false := by
  rw [ByteArray.toList_eq]
  exact beq_eq_false_iff_ne.2 h

set_option maxRecDepth 100000 in
set_option maxHeartbeats 1000000 in
theorem spec_named (s : ByteArray) (w : World) (hs : s.size ≤ 1048576) :
    Calls Tryd.prog 15 #[.string s] w (GivesK (parVB (namedT s.data.toList)) (parVR (namedT s.data.toList)) (parVO (namedT s.data.toList)) (parK (namedT s.data.toList)) w) := by
  by_cases h_thue : s.data.toList = nm_thue
  · have hi := is_thue
    rw [h_thue, hi.1, hi.2.1, hi.2.2.1, hi.2.2.2, name_lit h_thue]
    exact named_thue w
  by_cases h_rudin : s.data.toList = nm_rudin
  · have hi := is_rudin
    rw [h_rudin, hi.1, hi.2.1, hi.2.2.1, hi.2.2.2, name_lit h_rudin]
    exact named_rudin w
  by_cases h_period : s.data.toList = nm_period
  · have hi := is_period
    rw [h_period, hi.1, hi.2.1, hi.2.2.1, hi.2.2.2, name_lit h_period]
    exact named_period w
  by_cases h_powers : s.data.toList = nm_powers
  · have hi := is_powers
    rw [h_powers, hi.1, hi.2.1, hi.2.2.1, hi.2.2.2, name_lit h_powers]
    exact named_powers w
  by_cases h_cantor : s.data.toList = nm_cantor
  · have hi := is_cantor
    rw [h_cantor, hi.1, hi.2.1, hi.2.2.1, hi.2.2.2, name_lit h_cantor]
    exact named_cantor w
  by_cases h_mod : s.data.toList = nm_mod
  · have hi := is_mod
    rw [h_mod, hi.1, hi.2.1, hi.2.2.1, hi.2.2.2, name_lit h_mod]
    exact named_mod w
  have hN := no_name h_thue h_rudin h_period h_powers h_cantor h_mod
  have HK := Lib.hid hN.2
  have HVN := Lib.hid (par_no hN.2)
  have e_thue : (s.toList == ([116, 104, 117, 101] : List UInt8)) = false := name_ne h_thue
  have e_rudin : (s.toList == ([114, 117, 100, 105, 110] : List UInt8)) = false := name_ne h_rudin
  have e_period : (s.toList == ([112, 101, 114, 105, 111, 100] : List UInt8)) = false := name_ne h_period
  have e_powers : (s.toList == ([112, 111, 119, 101, 114, 115] : List UInt8)) = false := name_ne h_powers
  have e_cantor : (s.toList == ([99, 97, 110, 116, 111, 114] : List UInt8)) = false := name_ne h_cantor
  have e_mod : (s.toList == ([109, 111, 100] : List UInt8)) = false := name_ne h_mod
  clear hN h_thue h_rudin h_period h_powers h_cantor h_mod
  go_enter Tryd.func15, Tryd.ntmps15
  go_wp2
  refine bodyPost_ret (v := .tuple #[.agg #[.int .i64 0, .slice none 0 0, .slice none 0 0], .bool false]) (by simp [results, Tryd.results15, go_sem]) rfl ?_
  rw [HVN.out.1, HVN.out.2.1, HVN.out.2.2, HK.out]
  exact ⟨_, rfl, OwnS.zero _, (Below.refl _ _).alloc (Nat.le_refl _) _⟩
set_option maxRecDepth 100000 in
set_option maxHeartbeats 1000000 in
theorem impl_text (s : ByteArray) (w : World) :
    Calls Tryd.prog 42 #[.string s] w fun e w' => e = .returned (.string ⟨(namedT s.data.toList).toArray⟩) ∧ w = w' := by
  by_cases h_thue : s.data.toList = nm_thue
  · have hn : namedT s.data.toList = tx_thue := by rw [h_thue]; decide
    rw [hn, name_lit h_thue]
    clear hn h_thue
    go_enter Tryd.func42, Tryd.ntmps42
    go_wp2
    go_ret
    exact ⟨rfl, rfl⟩
  by_cases h_rudin : s.data.toList = nm_rudin
  · have hn : namedT s.data.toList = tx_rudin := by rw [h_rudin]; decide
    rw [hn, name_lit h_rudin]
    clear hn h_rudin
    go_enter Tryd.func42, Tryd.ntmps42
    go_wp2
    go_ret
    exact ⟨rfl, rfl⟩
  by_cases h_period : s.data.toList = nm_period
  · have hn : namedT s.data.toList = tx_period := by rw [h_period]; decide
    rw [hn, name_lit h_period]
    clear hn h_period
    go_enter Tryd.func42, Tryd.ntmps42
    go_wp2
    go_ret
    exact ⟨rfl, rfl⟩
  by_cases h_powers : s.data.toList = nm_powers
  · have hn : namedT s.data.toList = tx_powers := by rw [h_powers]; decide
    rw [hn, name_lit h_powers]
    clear hn h_powers
    go_enter Tryd.func42, Tryd.ntmps42
    go_wp2
    go_ret
    exact ⟨rfl, rfl⟩
  by_cases h_cantor : s.data.toList = nm_cantor
  · have hn : namedT s.data.toList = tx_cantor := by rw [h_cantor]; decide
    rw [hn, name_lit h_cantor]
    clear hn h_cantor
    go_enter Tryd.func42, Tryd.ntmps42
    go_wp2
    go_ret
    exact ⟨rfl, rfl⟩
  by_cases h_mod : s.data.toList = nm_mod
  · have hn : namedT s.data.toList = tx_mod := by rw [h_mod]; decide
    rw [hn, name_lit h_mod]
    clear hn h_mod
    go_enter Tryd.func42, Tryd.ntmps42
    go_wp2
    go_ret
    exact ⟨rfl, rfl⟩
  have hN := (no_name h_thue h_rudin h_period h_powers h_cantor h_mod).1
  rw [hN]
  have e_thue : (s.toList == ([116, 104, 117, 101] : List UInt8)) = false := name_ne h_thue
  have e_rudin : (s.toList == ([114, 117, 100, 105, 110] : List UInt8)) = false := name_ne h_rudin
  have e_period : (s.toList == ([112, 101, 114, 105, 111, 100] : List UInt8)) = false := name_ne h_period
  have e_powers : (s.toList == ([112, 111, 119, 101, 114, 115] : List UInt8)) = false := name_ne h_powers
  have e_cantor : (s.toList == ([99, 97, 110, 116, 111, 114] : List UInt8)) = false := name_ne h_cantor
  have e_mod : (s.toList == ([109, 111, 100] : List UInt8)) = false := name_ne h_mod
  clear hN h_thue h_rudin h_period h_powers h_cantor h_mod
  go_enter Tryd.func42, Tryd.ntmps42
  go_wp2
  go_ret
  exact ⟨rfl, rfl⟩
set_option maxRecDepth 100000 in
set_option maxHeartbeats 1000000 in
theorem impl_named (s : ByteArray) (m : Int) (w : World) (hm : w.cell? ⟨0, 0, none⟩ = some (.int .i64 m))
    (htab : ∀ W', Below w.heap.size w W' → Lib.TabIs Tryd.prog W' "internal/strconv.uint64pow10" .u64 Lib.pow10Tab) :
    Calls Tryd.prog 16 #[.string s] w (GivesK (parVB (namedT s.data.toList)) (parVR (namedT s.data.toList)) (parVO (namedT s.data.toList)) (parK (namedT s.data.toList)) w) := by
  have hZ := Cells3.new w 28 (.int .i64 0) (.slice none 0 0) (.slice none 0 0)
  have hB : Below w.heap.size w (w.alloc (Obj.cells #[Value.int .i64 0, Value.slice none 0 0, Value.slice none 0 0] 28)) := (Below.refl _ _).alloc (Nat.le_refl _) _
  have HP := Lib.hid (ParI.impl_par ⟨(namedT s.data.toList).toArray⟩ m (w.alloc (Obj.cells #[Value.int .i64 0, Value.slice none 0 0, Value.slice none 0 0] 28)) (ParI.old_cellP hB hm) (fun W' h => htab W' (hB.trans (h.mono hB.size))))
  have HX := Lib.hid (impl_text s (w.alloc (Obj.cells #[Value.int .i64 0, Value.slice none 0 0, Value.slice none 0 0] 28)))
  have hl : (⟨(namedT s.data.toList).toArray⟩ : ByteArray).data.toList = namedT s.data.toList := rfl
  rw [hl] at HP
  obtain ⟨l, hll⟩ : ∃ l, l = namedT s.data.toList := ⟨_, rfl⟩
  rw [← hll] at HP HX ⊢
  have HZ := Lib.hid hZ
  have HB := Lib.hid hB
  clear hl hll hZ hB hm htab
  go_enter Tryd.func16, Tryd.ntmps16
  go_wp2_with fail
  refine HX.out.mono ?_
  rintro e w' ⟨rfl, rfl⟩
  go_wp2_with fail
  refine HP.out.mono ?_
  rintro e W2 ⟨v, rfl, hq, hb⟩
  obtain ⟨na, nc, oa, oc, rfl⟩ := hq.form
  have HQ := Lib.hid hq
  have HB2 := Lib.hid (HB.out.trans (hb.mono HB.out.size))
  have hZ2 := HZ.out.below hb
  have z0 := hZ2.c0
  have z1 := hZ2.c1
  have z2 := hZ2.c2
  have z3 := hZ2.f
  have hz1 : (w.alloc (Obj.cells #[Value.int .i64 0, Value.slice none 0 0, Value.slice none 0 0] 28)).heap.size = w.heap.size + 1 := size_alloc' _ _
  obtain ⟨l1, hl1⟩ : ∃ n, n = (parVR l).length := ⟨_, rfl⟩
  obtain ⟨l2, hl2⟩ : ∃ n, n = (parVO l).length := ⟨_, rfl⟩
  obtain ⟨bb, hbb⟩ : ∃ b, b = parVB l := ⟨_, rfl⟩
  obtain ⟨kk, hkk⟩ : ∃ b, b = parK l := ⟨_, rfl⟩
  rw [← hl1, ← hl2] at HQ ⊢
  rw [← hbb] at HQ ⊢
  rw [← hkk]
  have HK := Lib.hid hkk
  have HBE := Lib.hid hbb
  clear hl1 hl2 hb hq hkk hbb
  go_wp2
  have hZ3 := (((hZ2.set0 (.int .i64 bb)).set1 (.slice na l1 nc)).set2 (.slice oa l2 oc))
  have n0 := hZ3.c0
  have n1 := hZ3.c1
  have n2 := hZ3.c2
  refine bodyPost_ret (v := .tuple #[.agg #[.int .i64 bb, .slice na l1 nc, .slice oa l2 oc], .bool kk]) (by simp [results, Tryd.results16, go_sem, n0, n1, n2]) rfl ?_
  rw [← HK.out, ← HBE.out]
  refine ⟨_, rfl, ?_, ((HB2.out.setCell (Nat.le_refl _) _).setCell (Nat.le_refl _) _).setCell (Nat.le_refl _) _⟩
  have hT : ∀ (i : Nat) (u : Value) (W : World), Plain.Touch w.heap.size (w.heap.size + 1) W (W.setCell ⟨w.heap.size, i, none⟩ u) := fun i u W => Plain.Touch.of_set (a := ⟨w.heap.size, i, none⟩) u (Nat.le_refl _) (Nat.lt_succ_self _)
  have T0 : Plain.Touch w.heap.size (w.heap.size + 1) W2 (((W2.setCell ⟨w.heap.size, 0, none⟩ (.int .i64 bb)).setCell ⟨w.heap.size, 1, none⟩ (.slice na l1 nc)).setCell ⟨w.heap.size, 2, none⟩ (.slice oa l2 oc)) := ((hT 0 _ _).trans (hT 1 _ _)).trans (hT 2 _ _)
  have := (HQ.out.touch T0 (.inr (by rw [hz1]; exact Nat.le_refl _))).lower (show w.heap.size ≤ (w.alloc (Obj.cells #[Value.int .i64 0, Value.slice none 0 0, Value.slice none 0 0] 28)).heap.size by rw [hz1]; omega)
  simpa only [size_setCell'] using this
end Nam
end Go.Proofs.YtbebifnnnmgihabDoor
