/- The sequences that the model names: each is a literal, the call's own. No conditions beyond those that each states. -/
import Derived.Test.YtbebifnnnmgihabDoorSeqForm
import Derived.Test.YtbebifnnnmgihabDoorSeqs3
import Derived.Test.YtbebifnnnmgihabDoorSeqEq
namespace Go.Proofs.YtbebifnnnmgihabDoor
open Go.ChangeShapes Go.WideShapes Go.ChangeAt Go.RowKit
open Go.PlainAid Plain
set_option linter.unusedVariables false
namespace Nam
open Seqs
theorem chain_row {W : World} {lo : Nat} {us : List Value} {rows : List (List Int)} (h : OwnRows W lo W.heap.size us rows) (hlo : lo ≤ W.heap.size) (xs : List Int) (hx : xs.length ≤ 100) :
    OwnRows (W.alloc (.cells (xs.map (Value.int .i64)).toArray 3)) lo (W.alloc (.cells (xs.map (Value.int .i64)).toArray 3)).heap.size (us ++ [.slice (some ⟨W.heap.size, 0, none⟩) xs.length xs.length]) (rows ++ [xs]) := by
  have hb : Below W.heap.size W (W.alloc (.cells (xs.map (Value.int .i64)).toArray 3)) := (Below.refl _ _).alloc (Nat.le_refl _) _
  have h1 : Has (Value.int .i64) 3 (W.alloc (.cells (xs.map (Value.int .i64)).toArray 3)) W.heap.size (.slice (some ⟨W.heap.size, 0, none⟩) xs.length xs.length) xs := Has.lit (enc := Value.int .i64) (e := 3) W xs (Nat.le_refl _) (by omega)
  exact (h.below hb).snoc ⟨h1, fun k hk => (h1.lt k hk).2, Nat.le_refl _⟩ hlo hb.size
theorem chain_top {W : World} {lo : Nat} {us : List Value} {rows : List (List Int)} (h : OwnRows W lo W.heap.size us rows) (hlo : lo ≤ W.heap.size) (hu : us.length ≤ 100) :
    OwnR (W.alloc (.cells us.toArray 23)) lo (W.alloc (.cells us.toArray 23)).heap.size (.slice (some ⟨W.heap.size, 0, none⟩) us.length us.length) us rows := by
  have hb : Below W.heap.size W (W.alloc (.cells us.toArray 23)) := (Below.refl _ _).alloc (Nat.le_refl _) _
  have h1 : Has id 23 (W.alloc (.cells (us.map id).toArray 23)) lo (.slice (some ⟨W.heap.size, 0, none⟩) us.length us.length) us := Has.lit (enc := id) (e := 23) W us hlo (by omega)
  rw [List.map_id] at h1
  exact ⟨h1, fun k hk => (h1.lt k hk).2, Nat.le_refl _, (h.below hb).mono hb.size (Nat.le_refl _)⟩
theorem chain_out {W : World} {lo base : Nat} {vn : Value} {us : List Value} {b : Int} {rows : List (List Int)} (h : OwnR W lo W.heap.size vn us rows) (hb : base ≤ lo) (hlo : lo ≤ W.heap.size) (xs : List Int) (hx : xs.length ≤ 100) :
    OwnS (W.alloc (.cells (xs.map (Value.int .i64)).toArray 3)) base (W.alloc (.cells (xs.map (Value.int .i64)).toArray 3)).heap.size (.agg #[.int .i64 b, vn, .slice (some ⟨W.heap.size, 0, none⟩) xs.length xs.length]) b rows xs := by
  have hbb : Below W.heap.size W (W.alloc (.cells (xs.map (Value.int .i64)).toArray 3)) := (Below.refl _ _).alloc (Nat.le_refl _) _
  have h1 : Has (Value.int .i64) 3 (W.alloc (.cells (xs.map (Value.int .i64)).toArray 3)) W.heap.size (.slice (some ⟨W.heap.size, 0, none⟩) xs.length xs.length) xs := Has.lit (enc := Value.int .i64) (e := 3) W xs (Nat.le_refl _) (by omega)
  exact OwnS.make (h.below hbb) ⟨h1, fun k hk => (h1.lt k hk).2, Nat.le_refl _⟩ hb hlo hbb.size
set_option maxHeartbeats 1000000 in
theorem named_thue (w : World) : Calls Tryd.prog 15 #[.string ⟨#[116, 104, 117, 101]⟩] w (GivesK 2 [[0, 1], [1, 0]] [0, 1] true w) := by
  have HZ := Lib.hid (Cells3.new w 28 (.int .i64 0) (.slice none 0 0) (.slice none 0 0))
  have HO := Lib.hid (chain_out (base := w.heap.size) (b := 2) (chain_top (chain_row (chain_row (OwnRows.nil (w.alloc (.cells #[.int .i64 2, Value.slice (some ⟨w.heap.size + 1 + 1 + 1, 0, none⟩) 2 2, Value.slice (some ⟨w.heap.size + 1 + 1 + 1 + 1, 0, none⟩) 2 2] 28)) (w.alloc (.cells #[.int .i64 2, Value.slice (some ⟨w.heap.size + 1 + 1 + 1, 0, none⟩) 2 2, Value.slice (some ⟨w.heap.size + 1 + 1 + 1 + 1, 0, none⟩) 2 2] 28)).heap.size (w.alloc (.cells #[.int .i64 2, Value.slice (some ⟨w.heap.size + 1 + 1 + 1, 0, none⟩) 2 2, Value.slice (some ⟨w.heap.size + 1 + 1 + 1 + 1, 0, none⟩) 2 2] 28)).heap.size) (by simp only [size_alloc'] <;> omega) [0, 1] (by decide)) (by simp only [size_alloc'] <;> omega) [1, 0] (by decide)) (by simp only [size_alloc'] <;> omega) (by simp)) (by simp only [size_alloc'] <;> omega) (by simp only [size_alloc'] <;> omega) [0, 1] (by decide))
  go_enter Tryd.func15, Tryd.ntmps15
  go_wp2_with fail
  have hC := (((((Cells3.new w 28 (.int .i64 2) (Value.slice (some ⟨w.heap.size + 1 + 1 + 1, 0, none⟩) 2 2) (Value.slice (some ⟨w.heap.size + 1 + 1 + 1 + 1, 0, none⟩) 2 2)).alloc (.cells #[Value.int .i64 0, Value.int .i64 1] 3)).alloc (.cells #[Value.int .i64 1, Value.int .i64 0] 3)).alloc (.cells #[Value.slice (some ⟨w.heap.size + 1, 0, none⟩) 2 2, Value.slice (some ⟨w.heap.size + 1 + 1, 0, none⟩) 2 2] 23)).alloc (.cells #[Value.int .i64 0, Value.int .i64 1] 3))
  refine bodyPost_ret (v := .tuple #[.agg #[.int .i64 2, Value.slice (some ⟨w.heap.size + 1 + 1 + 1, 0, none⟩) 2 2, Value.slice (some ⟨w.heap.size + 1 + 1 + 1 + 1, 0, none⟩) 2 2], .bool true]) (by simp [results, Tryd.results15, go_sem, hC.c0, hC.c1, hC.c2]) rfl ⟨_, rfl, ?_, ?_⟩
  · have h := HO.out
    simp only [size_alloc', List.nil_append, List.cons_append, List.length_cons, List.length_nil, List.map_cons, List.map_nil] at h ⊢
    exact h
  · exact ((((((Below.refl w.heap.size w).alloc (Nat.le_refl _) _).alloc (by simp only [size_alloc'] <;> omega) _).alloc (by simp only [size_alloc'] <;> omega) _).alloc (by simp only [size_alloc'] <;> omega) _).alloc (by simp only [size_alloc'] <;> omega) _)
set_option maxHeartbeats 1000000 in
theorem named_rudin (w : World) : Calls Tryd.prog 15 #[.string ⟨#[114, 117, 100, 105, 110]⟩] w (GivesK 2 [[0, 1], [0, 2], [3, 1], [3, 2]] [0, 0, 1, 1] true w) := by
  have HZ := Lib.hid (Cells3.new w 28 (.int .i64 0) (.slice none 0 0) (.slice none 0 0))
  have HO := Lib.hid (chain_out (base := w.heap.size) (b := 2) (chain_top (chain_row (chain_row (chain_row (chain_row (OwnRows.nil (w.alloc (.cells #[.int .i64 2, Value.slice (some ⟨w.heap.size + 1 + 1 + 1 + 1 + 1, 0, none⟩) 4 4, Value.slice (some ⟨w.heap.size + 1 + 1 + 1 + 1 + 1 + 1, 0, none⟩) 4 4] 28)) (w.alloc (.cells #[.int .i64 2, Value.slice (some ⟨w.heap.size + 1 + 1 + 1 + 1 + 1, 0, none⟩) 4 4, Value.slice (some ⟨w.heap.size + 1 + 1 + 1 + 1 + 1 + 1, 0, none⟩) 4 4] 28)).heap.size (w.alloc (.cells #[.int .i64 2, Value.slice (some ⟨w.heap.size + 1 + 1 + 1 + 1 + 1, 0, none⟩) 4 4, Value.slice (some ⟨w.heap.size + 1 + 1 + 1 + 1 + 1 + 1, 0, none⟩) 4 4] 28)).heap.size) (by simp only [size_alloc'] <;> omega) [0, 1] (by decide)) (by simp only [size_alloc'] <;> omega) [0, 2] (by decide)) (by simp only [size_alloc'] <;> omega) [3, 1] (by decide)) (by simp only [size_alloc'] <;> omega) [3, 2] (by decide)) (by simp only [size_alloc'] <;> omega) (by simp)) (by simp only [size_alloc'] <;> omega) (by simp only [size_alloc'] <;> omega) [0, 0, 1, 1] (by decide))
  go_enter Tryd.func15, Tryd.ntmps15
  go_wp2_with fail
  have hC := (((((((Cells3.new w 28 (.int .i64 2) (Value.slice (some ⟨w.heap.size + 1 + 1 + 1 + 1 + 1, 0, none⟩) 4 4) (Value.slice (some ⟨w.heap.size + 1 + 1 + 1 + 1 + 1 + 1, 0, none⟩) 4 4)).alloc (.cells #[Value.int .i64 0, Value.int .i64 1] 3)).alloc (.cells #[Value.int .i64 0, Value.int .i64 2] 3)).alloc (.cells #[Value.int .i64 3, Value.int .i64 1] 3)).alloc (.cells #[Value.int .i64 3, Value.int .i64 2] 3)).alloc (.cells #[Value.slice (some ⟨w.heap.size + 1, 0, none⟩) 2 2, Value.slice (some ⟨w.heap.size + 1 + 1, 0, none⟩) 2 2, Value.slice (some ⟨w.heap.size + 1 + 1 + 1, 0, none⟩) 2 2, Value.slice (some ⟨w.heap.size + 1 + 1 + 1 + 1, 0, none⟩) 2 2] 23)).alloc (.cells #[Value.int .i64 0, Value.int .i64 0, Value.int .i64 1, Value.int .i64 1] 3))
  refine bodyPost_ret (v := .tuple #[.agg #[.int .i64 2, Value.slice (some ⟨w.heap.size + 1 + 1 + 1 + 1 + 1, 0, none⟩) 4 4, Value.slice (some ⟨w.heap.size + 1 + 1 + 1 + 1 + 1 + 1, 0, none⟩) 4 4], .bool true]) (by simp [results, Tryd.results15, go_sem, hC.c0, hC.c1, hC.c2]) rfl ⟨_, rfl, ?_, ?_⟩
  · have h := HO.out
    simp only [size_alloc', List.nil_append, List.cons_append, List.length_cons, List.length_nil, List.map_cons, List.map_nil] at h ⊢
    exact h
  · exact ((((((((Below.refl w.heap.size w).alloc (Nat.le_refl _) _).alloc (by simp only [size_alloc'] <;> omega) _).alloc (by simp only [size_alloc'] <;> omega) _).alloc (by simp only [size_alloc'] <;> omega) _).alloc (by simp only [size_alloc'] <;> omega) _).alloc (by simp only [size_alloc'] <;> omega) _).alloc (by simp only [size_alloc'] <;> omega) _)
set_option maxHeartbeats 1000000 in
theorem named_period (w : World) : Calls Tryd.prog 15 #[.string ⟨#[112, 101, 114, 105, 111, 100]⟩] w (GivesK 2 [[0, 1], [2, 3], [0, 1], [2, 3]] [0, 0, 1, 1] true w) := by
  have HZ := Lib.hid (Cells3.new w 28 (.int .i64 0) (.slice none 0 0) (.slice none 0 0))
  have HO := Lib.hid (chain_out (base := w.heap.size) (b := 2) (chain_top (chain_row (chain_row (chain_row (chain_row (OwnRows.nil (w.alloc (.cells #[.int .i64 2, Value.slice (some ⟨w.heap.size + 1 + 1 + 1 + 1 + 1, 0, none⟩) 4 4, Value.slice (some ⟨w.heap.size + 1 + 1 + 1 + 1 + 1 + 1, 0, none⟩) 4 4] 28)) (w.alloc (.cells #[.int .i64 2, Value.slice (some ⟨w.heap.size + 1 + 1 + 1 + 1 + 1, 0, none⟩) 4 4, Value.slice (some ⟨w.heap.size + 1 + 1 + 1 + 1 + 1 + 1, 0, none⟩) 4 4] 28)).heap.size (w.alloc (.cells #[.int .i64 2, Value.slice (some ⟨w.heap.size + 1 + 1 + 1 + 1 + 1, 0, none⟩) 4 4, Value.slice (some ⟨w.heap.size + 1 + 1 + 1 + 1 + 1 + 1, 0, none⟩) 4 4] 28)).heap.size) (by simp only [size_alloc'] <;> omega) [0, 1] (by decide)) (by simp only [size_alloc'] <;> omega) [2, 3] (by decide)) (by simp only [size_alloc'] <;> omega) [0, 1] (by decide)) (by simp only [size_alloc'] <;> omega) [2, 3] (by decide)) (by simp only [size_alloc'] <;> omega) (by simp)) (by simp only [size_alloc'] <;> omega) (by simp only [size_alloc'] <;> omega) [0, 0, 1, 1] (by decide))
  go_enter Tryd.func15, Tryd.ntmps15
  go_wp2_with fail
  have hC := (((((((Cells3.new w 28 (.int .i64 2) (Value.slice (some ⟨w.heap.size + 1 + 1 + 1 + 1 + 1, 0, none⟩) 4 4) (Value.slice (some ⟨w.heap.size + 1 + 1 + 1 + 1 + 1 + 1, 0, none⟩) 4 4)).alloc (.cells #[Value.int .i64 0, Value.int .i64 1] 3)).alloc (.cells #[Value.int .i64 2, Value.int .i64 3] 3)).alloc (.cells #[Value.int .i64 0, Value.int .i64 1] 3)).alloc (.cells #[Value.int .i64 2, Value.int .i64 3] 3)).alloc (.cells #[Value.slice (some ⟨w.heap.size + 1, 0, none⟩) 2 2, Value.slice (some ⟨w.heap.size + 1 + 1, 0, none⟩) 2 2, Value.slice (some ⟨w.heap.size + 1 + 1 + 1, 0, none⟩) 2 2, Value.slice (some ⟨w.heap.size + 1 + 1 + 1 + 1, 0, none⟩) 2 2] 23)).alloc (.cells #[Value.int .i64 0, Value.int .i64 0, Value.int .i64 1, Value.int .i64 1] 3))
  refine bodyPost_ret (v := .tuple #[.agg #[.int .i64 2, Value.slice (some ⟨w.heap.size + 1 + 1 + 1 + 1 + 1, 0, none⟩) 4 4, Value.slice (some ⟨w.heap.size + 1 + 1 + 1 + 1 + 1 + 1, 0, none⟩) 4 4], .bool true]) (by simp [results, Tryd.results15, go_sem, hC.c0, hC.c1, hC.c2]) rfl ⟨_, rfl, ?_, ?_⟩
  · have h := HO.out
    simp only [size_alloc', List.nil_append, List.cons_append, List.length_cons, List.length_nil, List.map_cons, List.map_nil] at h ⊢
    exact h
  · exact ((((((((Below.refl w.heap.size w).alloc (Nat.le_refl _) _).alloc (by simp only [size_alloc'] <;> omega) _).alloc (by simp only [size_alloc'] <;> omega) _).alloc (by simp only [size_alloc'] <;> omega) _).alloc (by simp only [size_alloc'] <;> omega) _).alloc (by simp only [size_alloc'] <;> omega) _).alloc (by simp only [size_alloc'] <;> omega) _)
set_option maxHeartbeats 1000000 in
theorem named_powers (w : World) : Calls Tryd.prog 15 #[.string ⟨#[112, 111, 119, 101, 114, 115]⟩] w (GivesK 2 [[0, 1], [1, 2], [2, 2]] [0, 1, 0] true w) := by
  have HZ := Lib.hid (Cells3.new w 28 (.int .i64 0) (.slice none 0 0) (.slice none 0 0))
  have HO := Lib.hid (chain_out (base := w.heap.size) (b := 2) (chain_top (chain_row (chain_row (chain_row (OwnRows.nil (w.alloc (.cells #[.int .i64 2, Value.slice (some ⟨w.heap.size + 1 + 1 + 1 + 1, 0, none⟩) 3 3, Value.slice (some ⟨w.heap.size + 1 + 1 + 1 + 1 + 1, 0, none⟩) 3 3] 28)) (w.alloc (.cells #[.int .i64 2, Value.slice (some ⟨w.heap.size + 1 + 1 + 1 + 1, 0, none⟩) 3 3, Value.slice (some ⟨w.heap.size + 1 + 1 + 1 + 1 + 1, 0, none⟩) 3 3] 28)).heap.size (w.alloc (.cells #[.int .i64 2, Value.slice (some ⟨w.heap.size + 1 + 1 + 1 + 1, 0, none⟩) 3 3, Value.slice (some ⟨w.heap.size + 1 + 1 + 1 + 1 + 1, 0, none⟩) 3 3] 28)).heap.size) (by simp only [size_alloc'] <;> omega) [0, 1] (by decide)) (by simp only [size_alloc'] <;> omega) [1, 2] (by decide)) (by simp only [size_alloc'] <;> omega) [2, 2] (by decide)) (by simp only [size_alloc'] <;> omega) (by simp)) (by simp only [size_alloc'] <;> omega) (by simp only [size_alloc'] <;> omega) [0, 1, 0] (by decide))
  go_enter Tryd.func15, Tryd.ntmps15
  go_wp2_with fail
  have hC := ((((((Cells3.new w 28 (.int .i64 2) (Value.slice (some ⟨w.heap.size + 1 + 1 + 1 + 1, 0, none⟩) 3 3) (Value.slice (some ⟨w.heap.size + 1 + 1 + 1 + 1 + 1, 0, none⟩) 3 3)).alloc (.cells #[Value.int .i64 0, Value.int .i64 1] 3)).alloc (.cells #[Value.int .i64 1, Value.int .i64 2] 3)).alloc (.cells #[Value.int .i64 2, Value.int .i64 2] 3)).alloc (.cells #[Value.slice (some ⟨w.heap.size + 1, 0, none⟩) 2 2, Value.slice (some ⟨w.heap.size + 1 + 1, 0, none⟩) 2 2, Value.slice (some ⟨w.heap.size + 1 + 1 + 1, 0, none⟩) 2 2] 23)).alloc (.cells #[Value.int .i64 0, Value.int .i64 1, Value.int .i64 0] 3))
  refine bodyPost_ret (v := .tuple #[.agg #[.int .i64 2, Value.slice (some ⟨w.heap.size + 1 + 1 + 1 + 1, 0, none⟩) 3 3, Value.slice (some ⟨w.heap.size + 1 + 1 + 1 + 1 + 1, 0, none⟩) 3 3], .bool true]) (by simp [results, Tryd.results15, go_sem, hC.c0, hC.c1, hC.c2]) rfl ⟨_, rfl, ?_, ?_⟩
  · have h := HO.out
    simp only [size_alloc', List.nil_append, List.cons_append, List.length_cons, List.length_nil, List.map_cons, List.map_nil] at h ⊢
    exact h
  · exact (((((((Below.refl w.heap.size w).alloc (Nat.le_refl _) _).alloc (by simp only [size_alloc'] <;> omega) _).alloc (by simp only [size_alloc'] <;> omega) _).alloc (by simp only [size_alloc'] <;> omega) _).alloc (by simp only [size_alloc'] <;> omega) _).alloc (by simp only [size_alloc'] <;> omega) _)
set_option maxHeartbeats 1000000 in
theorem named_cantor (w : World) : Calls Tryd.prog 15 #[.string ⟨#[99, 97, 110, 116, 111, 114]⟩] w (GivesK 3 [[0, 1, 0], [1, 1, 1]] [1, 0] true w) := by
  have HZ := Lib.hid (Cells3.new w 28 (.int .i64 0) (.slice none 0 0) (.slice none 0 0))
  have HO := Lib.hid (chain_out (base := w.heap.size) (b := 3) (chain_top (chain_row (chain_row (OwnRows.nil (w.alloc (.cells #[.int .i64 3, Value.slice (some ⟨w.heap.size + 1 + 1 + 1, 0, none⟩) 2 2, Value.slice (some ⟨w.heap.size + 1 + 1 + 1 + 1, 0, none⟩) 2 2] 28)) (w.alloc (.cells #[.int .i64 3, Value.slice (some ⟨w.heap.size + 1 + 1 + 1, 0, none⟩) 2 2, Value.slice (some ⟨w.heap.size + 1 + 1 + 1 + 1, 0, none⟩) 2 2] 28)).heap.size (w.alloc (.cells #[.int .i64 3, Value.slice (some ⟨w.heap.size + 1 + 1 + 1, 0, none⟩) 2 2, Value.slice (some ⟨w.heap.size + 1 + 1 + 1 + 1, 0, none⟩) 2 2] 28)).heap.size) (by simp only [size_alloc'] <;> omega) [0, 1, 0] (by decide)) (by simp only [size_alloc'] <;> omega) [1, 1, 1] (by decide)) (by simp only [size_alloc'] <;> omega) (by simp)) (by simp only [size_alloc'] <;> omega) (by simp only [size_alloc'] <;> omega) [1, 0] (by decide))
  go_enter Tryd.func15, Tryd.ntmps15
  go_wp2_with fail
  have hC := (((((Cells3.new w 28 (.int .i64 3) (Value.slice (some ⟨w.heap.size + 1 + 1 + 1, 0, none⟩) 2 2) (Value.slice (some ⟨w.heap.size + 1 + 1 + 1 + 1, 0, none⟩) 2 2)).alloc (.cells #[Value.int .i64 0, Value.int .i64 1, Value.int .i64 0] 3)).alloc (.cells #[Value.int .i64 1, Value.int .i64 1, Value.int .i64 1] 3)).alloc (.cells #[Value.slice (some ⟨w.heap.size + 1, 0, none⟩) 3 3, Value.slice (some ⟨w.heap.size + 1 + 1, 0, none⟩) 3 3] 23)).alloc (.cells #[Value.int .i64 1, Value.int .i64 0] 3))
  refine bodyPost_ret (v := .tuple #[.agg #[.int .i64 3, Value.slice (some ⟨w.heap.size + 1 + 1 + 1, 0, none⟩) 2 2, Value.slice (some ⟨w.heap.size + 1 + 1 + 1 + 1, 0, none⟩) 2 2], .bool true]) (by simp [results, Tryd.results15, go_sem, hC.c0, hC.c1, hC.c2]) rfl ⟨_, rfl, ?_, ?_⟩
  · have h := HO.out
    simp only [size_alloc', List.nil_append, List.cons_append, List.length_cons, List.length_nil, List.map_cons, List.map_nil] at h ⊢
    exact h
  · exact ((((((Below.refl w.heap.size w).alloc (Nat.le_refl _) _).alloc (by simp only [size_alloc'] <;> omega) _).alloc (by simp only [size_alloc'] <;> omega) _).alloc (by simp only [size_alloc'] <;> omega) _).alloc (by simp only [size_alloc'] <;> omega) _)
set_option maxHeartbeats 1000000 in
theorem named_mod (w : World) : Calls Tryd.prog 15 #[.string ⟨#[109, 111, 100]⟩] w (GivesK 2 [[0, 1], [2, 0], [1, 2]] [0, 1, 2] true w) := by
  have HZ := Lib.hid (Cells3.new w 28 (.int .i64 0) (.slice none 0 0) (.slice none 0 0))
  have HO := Lib.hid (chain_out (base := w.heap.size) (b := 2) (chain_top (chain_row (chain_row (chain_row (OwnRows.nil (w.alloc (.cells #[.int .i64 2, Value.slice (some ⟨w.heap.size + 1 + 1 + 1 + 1, 0, none⟩) 3 3, Value.slice (some ⟨w.heap.size + 1 + 1 + 1 + 1 + 1, 0, none⟩) 3 3] 28)) (w.alloc (.cells #[.int .i64 2, Value.slice (some ⟨w.heap.size + 1 + 1 + 1 + 1, 0, none⟩) 3 3, Value.slice (some ⟨w.heap.size + 1 + 1 + 1 + 1 + 1, 0, none⟩) 3 3] 28)).heap.size (w.alloc (.cells #[.int .i64 2, Value.slice (some ⟨w.heap.size + 1 + 1 + 1 + 1, 0, none⟩) 3 3, Value.slice (some ⟨w.heap.size + 1 + 1 + 1 + 1 + 1, 0, none⟩) 3 3] 28)).heap.size) (by simp only [size_alloc'] <;> omega) [0, 1] (by decide)) (by simp only [size_alloc'] <;> omega) [2, 0] (by decide)) (by simp only [size_alloc'] <;> omega) [1, 2] (by decide)) (by simp only [size_alloc'] <;> omega) (by simp)) (by simp only [size_alloc'] <;> omega) (by simp only [size_alloc'] <;> omega) [0, 1, 2] (by decide))
  go_enter Tryd.func15, Tryd.ntmps15
  go_wp2_with fail
  have hC := ((((((Cells3.new w 28 (.int .i64 2) (Value.slice (some ⟨w.heap.size + 1 + 1 + 1 + 1, 0, none⟩) 3 3) (Value.slice (some ⟨w.heap.size + 1 + 1 + 1 + 1 + 1, 0, none⟩) 3 3)).alloc (.cells #[Value.int .i64 0, Value.int .i64 1] 3)).alloc (.cells #[Value.int .i64 2, Value.int .i64 0] 3)).alloc (.cells #[Value.int .i64 1, Value.int .i64 2] 3)).alloc (.cells #[Value.slice (some ⟨w.heap.size + 1, 0, none⟩) 2 2, Value.slice (some ⟨w.heap.size + 1 + 1, 0, none⟩) 2 2, Value.slice (some ⟨w.heap.size + 1 + 1 + 1, 0, none⟩) 2 2] 23)).alloc (.cells #[Value.int .i64 0, Value.int .i64 1, Value.int .i64 2] 3))
  refine bodyPost_ret (v := .tuple #[.agg #[.int .i64 2, Value.slice (some ⟨w.heap.size + 1 + 1 + 1 + 1, 0, none⟩) 3 3, Value.slice (some ⟨w.heap.size + 1 + 1 + 1 + 1 + 1, 0, none⟩) 3 3], .bool true]) (by simp [results, Tryd.results15, go_sem, hC.c0, hC.c1, hC.c2]) rfl ⟨_, rfl, ?_, ?_⟩
  · have h := HO.out
    simp only [size_alloc', List.nil_append, List.cons_append, List.length_cons, List.length_nil, List.map_cons, List.map_nil] at h ⊢
    exact h
  · exact (((((((Below.refl w.heap.size w).alloc (Nat.le_refl _) _).alloc (by simp only [size_alloc'] <;> omega) _).alloc (by simp only [size_alloc'] <;> omega) _).alloc (by simp only [size_alloc'] <;> omega) _).alloc (by simp only [size_alloc'] <;> omega) _).alloc (by simp only [size_alloc'] <;> omega) _)
end Nam
end Go.Proofs.YtbebifnnnmgihabDoor
