/- The sequences that the model names: each is a literal, the call's own. No conditions beyond those that each states. -/
import Derived.Test.YtfpdikohlafpiaaGreatDraw3
namespace Go.Proofs.YtfpdikohlafpiaaGreat
open Go.ChangeShapes Go.WideShapes Go.ChangeAt Go.RowKit
open Go.PlainAid Plain
set_option linter.unusedVariables false
namespace Cursor
open Ints Digits
theorem chain_row {W : World} {lo : Nat} {us : List Value} {rows : List (List Int)} (h : OwnRows W lo W.heap.size us rows) (hlo : lo ≤ W.heap.size) (xs : List Int) (hx : xs.length ≤ 100) :
    OwnRows (W.alloc (.cells (xs.map (Value.int .i64)).toArray 3)) lo (W.alloc (.cells (xs.map (Value.int .i64)).toArray 3)).heap.size (us ++ [.slice (some ⟨W.heap.size, 0, none⟩) xs.length xs.length]) (rows ++ [xs]) := by
  have hb : Below W.heap.size W (W.alloc (.cells (xs.map (Value.int .i64)).toArray 3)) := (Below.refl _ _).alloc (Nat.le_refl _) _
  have h1 : Has (Value.int .i64) 3 (W.alloc (.cells (xs.map (Value.int .i64)).toArray 3)) W.heap.size (.slice (some ⟨W.heap.size, 0, none⟩) xs.length xs.length) xs := Has.lit (enc := Value.int .i64) (e := 3) W xs (Nat.le_refl _) (by omega)
  exact (h.below hb).snoc ⟨h1, fun k hk => (h1.lt k hk).2, Nat.le_refl _⟩ hlo hb.size
theorem chain_top {W : World} {lo : Nat} {us : List Value} {rows : List (List Int)} (h : OwnRows W lo W.heap.size us rows) (hlo : lo ≤ W.heap.size) (hu : us.length ≤ 100) :
    OwnR (W.alloc (.cells us.toArray 24)) lo (W.alloc (.cells us.toArray 24)).heap.size (.slice (some ⟨W.heap.size, 0, none⟩) us.length us.length) us rows := by
  have hb : Below W.heap.size W (W.alloc (.cells us.toArray 24)) := (Below.refl _ _).alloc (Nat.le_refl _) _
  have h1 : Has id 24 (W.alloc (.cells (us.map id).toArray 24)) lo (.slice (some ⟨W.heap.size, 0, none⟩) us.length us.length) us := Has.lit (enc := id) (e := 24) W us hlo (by omega)
  rw [List.map_id] at h1
  exact ⟨h1, fun k hk => (h1.lt k hk).2, Nat.le_refl _, (h.below hb).mono hb.size (Nat.le_refl _)⟩
theorem chain_out {W : World} {lo base : Nat} {vn : Value} {us : List Value} {b : Int} {rows : List (List Int)} (h : OwnR W lo W.heap.size vn us rows) (hb : base ≤ lo) (hlo : lo ≤ W.heap.size) (xs : List Int) (hx : xs.length ≤ 100) :
    OwnS (W.alloc (.cells (xs.map (Value.int .i64)).toArray 3)) base (W.alloc (.cells (xs.map (Value.int .i64)).toArray 3)).heap.size (.agg #[.int .i64 b, vn, .slice (some ⟨W.heap.size, 0, none⟩) xs.length xs.length]) b rows xs := by
  have hbb : Below W.heap.size W (W.alloc (.cells (xs.map (Value.int .i64)).toArray 3)) := (Below.refl _ _).alloc (Nat.le_refl _) _
  have h1 : Has (Value.int .i64) 3 (W.alloc (.cells (xs.map (Value.int .i64)).toArray 3)) W.heap.size (.slice (some ⟨W.heap.size, 0, none⟩) xs.length xs.length) xs := Has.lit (enc := Value.int .i64) (e := 3) W xs (Nat.le_refl _) (by omega)
  exact OwnS.make (h.below hbb) ⟨h1, fun k hk => (h1.lt k hk).2, Nat.le_refl _⟩ hb hlo hbb.size
def SomeNamed (w : World) (e : Ending) (w' : World) : Prop := ∃ v b rows out, SeqOk rows out ∧ e = .returned (.tuple #[v, .bool true]) ∧ OwnS w' w.heap.size w'.heap.size v b rows out ∧ Below w.heap.size w w'
set_option maxHeartbeats 1000000 in
theorem named_thue (w : World) : Calls Tryz.prog 74 #[.string ⟨#[116, 104, 117, 101]⟩] w (SomeNamed w) := by
  have HZ := Lib.hid (Cells3.new w 69 (.int .i64 0) (.slice none 0 0) (.slice none 0 0))
  have HO := Lib.hid (chain_out (base := w.heap.size) (b := 2) (chain_top (chain_row (chain_row (OwnRows.nil (w.alloc (.cells #[.int .i64 2, Value.slice (some ⟨w.heap.size + 1 + 1 + 1, 0, none⟩) 2 2, Value.slice (some ⟨w.heap.size + 1 + 1 + 1 + 1, 0, none⟩) 2 2] 69)) (w.alloc (.cells #[.int .i64 2, Value.slice (some ⟨w.heap.size + 1 + 1 + 1, 0, none⟩) 2 2, Value.slice (some ⟨w.heap.size + 1 + 1 + 1 + 1, 0, none⟩) 2 2] 69)).heap.size (w.alloc (.cells #[.int .i64 2, Value.slice (some ⟨w.heap.size + 1 + 1 + 1, 0, none⟩) 2 2, Value.slice (some ⟨w.heap.size + 1 + 1 + 1 + 1, 0, none⟩) 2 2] 69)).heap.size) (by simp only [size_alloc'] <;> omega) [0, 1] (by decide)) (by simp only [size_alloc'] <;> omega) [1, 0] (by decide)) (by simp only [size_alloc'] <;> omega) (by simp)) (by simp only [size_alloc'] <;> omega) (by simp only [size_alloc'] <;> omega) [0, 1] (by decide))
  go_enter Tryz.func74, Tryz.ntmps74
  go_wp2_with fail
  have hC := (((((Cells3.new w 69 (.int .i64 2) (Value.slice (some ⟨w.heap.size + 1 + 1 + 1, 0, none⟩) 2 2) (Value.slice (some ⟨w.heap.size + 1 + 1 + 1 + 1, 0, none⟩) 2 2)).alloc (.cells #[Value.int .i64 0, Value.int .i64 1] 3)).alloc (.cells #[Value.int .i64 1, Value.int .i64 0] 3)).alloc (.cells #[Value.slice (some ⟨w.heap.size + 1, 0, none⟩) 2 2, Value.slice (some ⟨w.heap.size + 1 + 1, 0, none⟩) 2 2] 24)).alloc (.cells #[Value.int .i64 0, Value.int .i64 1] 3))
  refine bodyPost_ret (v := .tuple #[.agg #[.int .i64 2, Value.slice (some ⟨w.heap.size + 1 + 1 + 1, 0, none⟩) 2 2, Value.slice (some ⟨w.heap.size + 1 + 1 + 1 + 1, 0, none⟩) 2 2], .bool true]) (by simp [results, Tryz.results74, go_sem, hC.c0, hC.c1, hC.c2]) rfl ⟨_, 2, [[0, 1], [1, 0]], [0, 1], by unfold SeqOk; decide, rfl, ?_, ?_⟩
  · have h := HO.out
    simp only [size_alloc', List.nil_append, List.cons_append, List.length_cons, List.length_nil, List.map_cons, List.map_nil] at h ⊢
    exact h
  · exact ((((((Below.refl w.heap.size w).alloc (Nat.le_refl _) _).alloc (by simp only [size_alloc'] <;> omega) _).alloc (by simp only [size_alloc'] <;> omega) _).alloc (by simp only [size_alloc'] <;> omega) _).alloc (by simp only [size_alloc'] <;> omega) _)
set_option maxHeartbeats 1000000 in
theorem named_rudin (w : World) : Calls Tryz.prog 74 #[.string ⟨#[114, 117, 100, 105, 110]⟩] w (SomeNamed w) := by
  have HZ := Lib.hid (Cells3.new w 69 (.int .i64 0) (.slice none 0 0) (.slice none 0 0))
  have HO := Lib.hid (chain_out (base := w.heap.size) (b := 2) (chain_top (chain_row (chain_row (chain_row (chain_row (OwnRows.nil (w.alloc (.cells #[.int .i64 2, Value.slice (some ⟨w.heap.size + 1 + 1 + 1 + 1 + 1, 0, none⟩) 4 4, Value.slice (some ⟨w.heap.size + 1 + 1 + 1 + 1 + 1 + 1, 0, none⟩) 4 4] 69)) (w.alloc (.cells #[.int .i64 2, Value.slice (some ⟨w.heap.size + 1 + 1 + 1 + 1 + 1, 0, none⟩) 4 4, Value.slice (some ⟨w.heap.size + 1 + 1 + 1 + 1 + 1 + 1, 0, none⟩) 4 4] 69)).heap.size (w.alloc (.cells #[.int .i64 2, Value.slice (some ⟨w.heap.size + 1 + 1 + 1 + 1 + 1, 0, none⟩) 4 4, Value.slice (some ⟨w.heap.size + 1 + 1 + 1 + 1 + 1 + 1, 0, none⟩) 4 4] 69)).heap.size) (by simp only [size_alloc'] <;> omega) [0, 1] (by decide)) (by simp only [size_alloc'] <;> omega) [0, 2] (by decide)) (by simp only [size_alloc'] <;> omega) [3, 1] (by decide)) (by simp only [size_alloc'] <;> omega) [3, 2] (by decide)) (by simp only [size_alloc'] <;> omega) (by simp)) (by simp only [size_alloc'] <;> omega) (by simp only [size_alloc'] <;> omega) [0, 0, 1, 1] (by decide))
  go_enter Tryz.func74, Tryz.ntmps74
  go_wp2_with fail
  have hC := (((((((Cells3.new w 69 (.int .i64 2) (Value.slice (some ⟨w.heap.size + 1 + 1 + 1 + 1 + 1, 0, none⟩) 4 4) (Value.slice (some ⟨w.heap.size + 1 + 1 + 1 + 1 + 1 + 1, 0, none⟩) 4 4)).alloc (.cells #[Value.int .i64 0, Value.int .i64 1] 3)).alloc (.cells #[Value.int .i64 0, Value.int .i64 2] 3)).alloc (.cells #[Value.int .i64 3, Value.int .i64 1] 3)).alloc (.cells #[Value.int .i64 3, Value.int .i64 2] 3)).alloc (.cells #[Value.slice (some ⟨w.heap.size + 1, 0, none⟩) 2 2, Value.slice (some ⟨w.heap.size + 1 + 1, 0, none⟩) 2 2, Value.slice (some ⟨w.heap.size + 1 + 1 + 1, 0, none⟩) 2 2, Value.slice (some ⟨w.heap.size + 1 + 1 + 1 + 1, 0, none⟩) 2 2] 24)).alloc (.cells #[Value.int .i64 0, Value.int .i64 0, Value.int .i64 1, Value.int .i64 1] 3))
  refine bodyPost_ret (v := .tuple #[.agg #[.int .i64 2, Value.slice (some ⟨w.heap.size + 1 + 1 + 1 + 1 + 1, 0, none⟩) 4 4, Value.slice (some ⟨w.heap.size + 1 + 1 + 1 + 1 + 1 + 1, 0, none⟩) 4 4], .bool true]) (by simp [results, Tryz.results74, go_sem, hC.c0, hC.c1, hC.c2]) rfl ⟨_, 2, [[0, 1], [0, 2], [3, 1], [3, 2]], [0, 0, 1, 1], by unfold SeqOk; decide, rfl, ?_, ?_⟩
  · have h := HO.out
    simp only [size_alloc', List.nil_append, List.cons_append, List.length_cons, List.length_nil, List.map_cons, List.map_nil] at h ⊢
    exact h
  · exact ((((((((Below.refl w.heap.size w).alloc (Nat.le_refl _) _).alloc (by simp only [size_alloc'] <;> omega) _).alloc (by simp only [size_alloc'] <;> omega) _).alloc (by simp only [size_alloc'] <;> omega) _).alloc (by simp only [size_alloc'] <;> omega) _).alloc (by simp only [size_alloc'] <;> omega) _).alloc (by simp only [size_alloc'] <;> omega) _)
set_option maxHeartbeats 1000000 in
theorem named_period (w : World) : Calls Tryz.prog 74 #[.string ⟨#[112, 101, 114, 105, 111, 100]⟩] w (SomeNamed w) := by
  have HZ := Lib.hid (Cells3.new w 69 (.int .i64 0) (.slice none 0 0) (.slice none 0 0))
  have HO := Lib.hid (chain_out (base := w.heap.size) (b := 2) (chain_top (chain_row (chain_row (chain_row (chain_row (OwnRows.nil (w.alloc (.cells #[.int .i64 2, Value.slice (some ⟨w.heap.size + 1 + 1 + 1 + 1 + 1, 0, none⟩) 4 4, Value.slice (some ⟨w.heap.size + 1 + 1 + 1 + 1 + 1 + 1, 0, none⟩) 4 4] 69)) (w.alloc (.cells #[.int .i64 2, Value.slice (some ⟨w.heap.size + 1 + 1 + 1 + 1 + 1, 0, none⟩) 4 4, Value.slice (some ⟨w.heap.size + 1 + 1 + 1 + 1 + 1 + 1, 0, none⟩) 4 4] 69)).heap.size (w.alloc (.cells #[.int .i64 2, Value.slice (some ⟨w.heap.size + 1 + 1 + 1 + 1 + 1, 0, none⟩) 4 4, Value.slice (some ⟨w.heap.size + 1 + 1 + 1 + 1 + 1 + 1, 0, none⟩) 4 4] 69)).heap.size) (by simp only [size_alloc'] <;> omega) [0, 1] (by decide)) (by simp only [size_alloc'] <;> omega) [2, 3] (by decide)) (by simp only [size_alloc'] <;> omega) [0, 1] (by decide)) (by simp only [size_alloc'] <;> omega) [2, 3] (by decide)) (by simp only [size_alloc'] <;> omega) (by simp)) (by simp only [size_alloc'] <;> omega) (by simp only [size_alloc'] <;> omega) [0, 0, 1, 1] (by decide))
  go_enter Tryz.func74, Tryz.ntmps74
  go_wp2_with fail
  have hC := (((((((Cells3.new w 69 (.int .i64 2) (Value.slice (some ⟨w.heap.size + 1 + 1 + 1 + 1 + 1, 0, none⟩) 4 4) (Value.slice (some ⟨w.heap.size + 1 + 1 + 1 + 1 + 1 + 1, 0, none⟩) 4 4)).alloc (.cells #[Value.int .i64 0, Value.int .i64 1] 3)).alloc (.cells #[Value.int .i64 2, Value.int .i64 3] 3)).alloc (.cells #[Value.int .i64 0, Value.int .i64 1] 3)).alloc (.cells #[Value.int .i64 2, Value.int .i64 3] 3)).alloc (.cells #[Value.slice (some ⟨w.heap.size + 1, 0, none⟩) 2 2, Value.slice (some ⟨w.heap.size + 1 + 1, 0, none⟩) 2 2, Value.slice (some ⟨w.heap.size + 1 + 1 + 1, 0, none⟩) 2 2, Value.slice (some ⟨w.heap.size + 1 + 1 + 1 + 1, 0, none⟩) 2 2] 24)).alloc (.cells #[Value.int .i64 0, Value.int .i64 0, Value.int .i64 1, Value.int .i64 1] 3))
  refine bodyPost_ret (v := .tuple #[.agg #[.int .i64 2, Value.slice (some ⟨w.heap.size + 1 + 1 + 1 + 1 + 1, 0, none⟩) 4 4, Value.slice (some ⟨w.heap.size + 1 + 1 + 1 + 1 + 1 + 1, 0, none⟩) 4 4], .bool true]) (by simp [results, Tryz.results74, go_sem, hC.c0, hC.c1, hC.c2]) rfl ⟨_, 2, [[0, 1], [2, 3], [0, 1], [2, 3]], [0, 0, 1, 1], by unfold SeqOk; decide, rfl, ?_, ?_⟩
  · have h := HO.out
    simp only [size_alloc', List.nil_append, List.cons_append, List.length_cons, List.length_nil, List.map_cons, List.map_nil] at h ⊢
    exact h
  · exact ((((((((Below.refl w.heap.size w).alloc (Nat.le_refl _) _).alloc (by simp only [size_alloc'] <;> omega) _).alloc (by simp only [size_alloc'] <;> omega) _).alloc (by simp only [size_alloc'] <;> omega) _).alloc (by simp only [size_alloc'] <;> omega) _).alloc (by simp only [size_alloc'] <;> omega) _).alloc (by simp only [size_alloc'] <;> omega) _)
set_option maxHeartbeats 1000000 in
theorem named_powers (w : World) : Calls Tryz.prog 74 #[.string ⟨#[112, 111, 119, 101, 114, 115]⟩] w (SomeNamed w) := by
  have HZ := Lib.hid (Cells3.new w 69 (.int .i64 0) (.slice none 0 0) (.slice none 0 0))
  have HO := Lib.hid (chain_out (base := w.heap.size) (b := 2) (chain_top (chain_row (chain_row (chain_row (OwnRows.nil (w.alloc (.cells #[.int .i64 2, Value.slice (some ⟨w.heap.size + 1 + 1 + 1 + 1, 0, none⟩) 3 3, Value.slice (some ⟨w.heap.size + 1 + 1 + 1 + 1 + 1, 0, none⟩) 3 3] 69)) (w.alloc (.cells #[.int .i64 2, Value.slice (some ⟨w.heap.size + 1 + 1 + 1 + 1, 0, none⟩) 3 3, Value.slice (some ⟨w.heap.size + 1 + 1 + 1 + 1 + 1, 0, none⟩) 3 3] 69)).heap.size (w.alloc (.cells #[.int .i64 2, Value.slice (some ⟨w.heap.size + 1 + 1 + 1 + 1, 0, none⟩) 3 3, Value.slice (some ⟨w.heap.size + 1 + 1 + 1 + 1 + 1, 0, none⟩) 3 3] 69)).heap.size) (by simp only [size_alloc'] <;> omega) [0, 1] (by decide)) (by simp only [size_alloc'] <;> omega) [1, 2] (by decide)) (by simp only [size_alloc'] <;> omega) [2, 2] (by decide)) (by simp only [size_alloc'] <;> omega) (by simp)) (by simp only [size_alloc'] <;> omega) (by simp only [size_alloc'] <;> omega) [0, 1, 0] (by decide))
  go_enter Tryz.func74, Tryz.ntmps74
  go_wp2_with fail
  have hC := ((((((Cells3.new w 69 (.int .i64 2) (Value.slice (some ⟨w.heap.size + 1 + 1 + 1 + 1, 0, none⟩) 3 3) (Value.slice (some ⟨w.heap.size + 1 + 1 + 1 + 1 + 1, 0, none⟩) 3 3)).alloc (.cells #[Value.int .i64 0, Value.int .i64 1] 3)).alloc (.cells #[Value.int .i64 1, Value.int .i64 2] 3)).alloc (.cells #[Value.int .i64 2, Value.int .i64 2] 3)).alloc (.cells #[Value.slice (some ⟨w.heap.size + 1, 0, none⟩) 2 2, Value.slice (some ⟨w.heap.size + 1 + 1, 0, none⟩) 2 2, Value.slice (some ⟨w.heap.size + 1 + 1 + 1, 0, none⟩) 2 2] 24)).alloc (.cells #[Value.int .i64 0, Value.int .i64 1, Value.int .i64 0] 3))
  refine bodyPost_ret (v := .tuple #[.agg #[.int .i64 2, Value.slice (some ⟨w.heap.size + 1 + 1 + 1 + 1, 0, none⟩) 3 3, Value.slice (some ⟨w.heap.size + 1 + 1 + 1 + 1 + 1, 0, none⟩) 3 3], .bool true]) (by simp [results, Tryz.results74, go_sem, hC.c0, hC.c1, hC.c2]) rfl ⟨_, 2, [[0, 1], [1, 2], [2, 2]], [0, 1, 0], by unfold SeqOk; decide, rfl, ?_, ?_⟩
  · have h := HO.out
    simp only [size_alloc', List.nil_append, List.cons_append, List.length_cons, List.length_nil, List.map_cons, List.map_nil] at h ⊢
    exact h
  · exact (((((((Below.refl w.heap.size w).alloc (Nat.le_refl _) _).alloc (by simp only [size_alloc'] <;> omega) _).alloc (by simp only [size_alloc'] <;> omega) _).alloc (by simp only [size_alloc'] <;> omega) _).alloc (by simp only [size_alloc'] <;> omega) _).alloc (by simp only [size_alloc'] <;> omega) _)
set_option maxHeartbeats 1000000 in
theorem named_cantor (w : World) : Calls Tryz.prog 74 #[.string ⟨#[99, 97, 110, 116, 111, 114]⟩] w (SomeNamed w) := by
  have HZ := Lib.hid (Cells3.new w 69 (.int .i64 0) (.slice none 0 0) (.slice none 0 0))
  have HO := Lib.hid (chain_out (base := w.heap.size) (b := 3) (chain_top (chain_row (chain_row (OwnRows.nil (w.alloc (.cells #[.int .i64 3, Value.slice (some ⟨w.heap.size + 1 + 1 + 1, 0, none⟩) 2 2, Value.slice (some ⟨w.heap.size + 1 + 1 + 1 + 1, 0, none⟩) 2 2] 69)) (w.alloc (.cells #[.int .i64 3, Value.slice (some ⟨w.heap.size + 1 + 1 + 1, 0, none⟩) 2 2, Value.slice (some ⟨w.heap.size + 1 + 1 + 1 + 1, 0, none⟩) 2 2] 69)).heap.size (w.alloc (.cells #[.int .i64 3, Value.slice (some ⟨w.heap.size + 1 + 1 + 1, 0, none⟩) 2 2, Value.slice (some ⟨w.heap.size + 1 + 1 + 1 + 1, 0, none⟩) 2 2] 69)).heap.size) (by simp only [size_alloc'] <;> omega) [0, 1, 0] (by decide)) (by simp only [size_alloc'] <;> omega) [1, 1, 1] (by decide)) (by simp only [size_alloc'] <;> omega) (by simp)) (by simp only [size_alloc'] <;> omega) (by simp only [size_alloc'] <;> omega) [1, 0] (by decide))
  go_enter Tryz.func74, Tryz.ntmps74
  go_wp2_with fail
  have hC := (((((Cells3.new w 69 (.int .i64 3) (Value.slice (some ⟨w.heap.size + 1 + 1 + 1, 0, none⟩) 2 2) (Value.slice (some ⟨w.heap.size + 1 + 1 + 1 + 1, 0, none⟩) 2 2)).alloc (.cells #[Value.int .i64 0, Value.int .i64 1, Value.int .i64 0] 3)).alloc (.cells #[Value.int .i64 1, Value.int .i64 1, Value.int .i64 1] 3)).alloc (.cells #[Value.slice (some ⟨w.heap.size + 1, 0, none⟩) 3 3, Value.slice (some ⟨w.heap.size + 1 + 1, 0, none⟩) 3 3] 24)).alloc (.cells #[Value.int .i64 1, Value.int .i64 0] 3))
  refine bodyPost_ret (v := .tuple #[.agg #[.int .i64 3, Value.slice (some ⟨w.heap.size + 1 + 1 + 1, 0, none⟩) 2 2, Value.slice (some ⟨w.heap.size + 1 + 1 + 1 + 1, 0, none⟩) 2 2], .bool true]) (by simp [results, Tryz.results74, go_sem, hC.c0, hC.c1, hC.c2]) rfl ⟨_, 3, [[0, 1, 0], [1, 1, 1]], [1, 0], by unfold SeqOk; decide, rfl, ?_, ?_⟩
  · have h := HO.out
    simp only [size_alloc', List.nil_append, List.cons_append, List.length_cons, List.length_nil, List.map_cons, List.map_nil] at h ⊢
    exact h
  · exact ((((((Below.refl w.heap.size w).alloc (Nat.le_refl _) _).alloc (by simp only [size_alloc'] <;> omega) _).alloc (by simp only [size_alloc'] <;> omega) _).alloc (by simp only [size_alloc'] <;> omega) _).alloc (by simp only [size_alloc'] <;> omega) _)
set_option maxHeartbeats 1000000 in
theorem named_mod (w : World) : Calls Tryz.prog 74 #[.string ⟨#[109, 111, 100]⟩] w (SomeNamed w) := by
  have HZ := Lib.hid (Cells3.new w 69 (.int .i64 0) (.slice none 0 0) (.slice none 0 0))
  have HO := Lib.hid (chain_out (base := w.heap.size) (b := 2) (chain_top (chain_row (chain_row (chain_row (OwnRows.nil (w.alloc (.cells #[.int .i64 2, Value.slice (some ⟨w.heap.size + 1 + 1 + 1 + 1, 0, none⟩) 3 3, Value.slice (some ⟨w.heap.size + 1 + 1 + 1 + 1 + 1, 0, none⟩) 3 3] 69)) (w.alloc (.cells #[.int .i64 2, Value.slice (some ⟨w.heap.size + 1 + 1 + 1 + 1, 0, none⟩) 3 3, Value.slice (some ⟨w.heap.size + 1 + 1 + 1 + 1 + 1, 0, none⟩) 3 3] 69)).heap.size (w.alloc (.cells #[.int .i64 2, Value.slice (some ⟨w.heap.size + 1 + 1 + 1 + 1, 0, none⟩) 3 3, Value.slice (some ⟨w.heap.size + 1 + 1 + 1 + 1 + 1, 0, none⟩) 3 3] 69)).heap.size) (by simp only [size_alloc'] <;> omega) [0, 1] (by decide)) (by simp only [size_alloc'] <;> omega) [2, 0] (by decide)) (by simp only [size_alloc'] <;> omega) [1, 2] (by decide)) (by simp only [size_alloc'] <;> omega) (by simp)) (by simp only [size_alloc'] <;> omega) (by simp only [size_alloc'] <;> omega) [0, 1, 2] (by decide))
  go_enter Tryz.func74, Tryz.ntmps74
  go_wp2_with fail
  have hC := ((((((Cells3.new w 69 (.int .i64 2) (Value.slice (some ⟨w.heap.size + 1 + 1 + 1 + 1, 0, none⟩) 3 3) (Value.slice (some ⟨w.heap.size + 1 + 1 + 1 + 1 + 1, 0, none⟩) 3 3)).alloc (.cells #[Value.int .i64 0, Value.int .i64 1] 3)).alloc (.cells #[Value.int .i64 2, Value.int .i64 0] 3)).alloc (.cells #[Value.int .i64 1, Value.int .i64 2] 3)).alloc (.cells #[Value.slice (some ⟨w.heap.size + 1, 0, none⟩) 2 2, Value.slice (some ⟨w.heap.size + 1 + 1, 0, none⟩) 2 2, Value.slice (some ⟨w.heap.size + 1 + 1 + 1, 0, none⟩) 2 2] 24)).alloc (.cells #[Value.int .i64 0, Value.int .i64 1, Value.int .i64 2] 3))
  refine bodyPost_ret (v := .tuple #[.agg #[.int .i64 2, Value.slice (some ⟨w.heap.size + 1 + 1 + 1 + 1, 0, none⟩) 3 3, Value.slice (some ⟨w.heap.size + 1 + 1 + 1 + 1 + 1, 0, none⟩) 3 3], .bool true]) (by simp [results, Tryz.results74, go_sem, hC.c0, hC.c1, hC.c2]) rfl ⟨_, 2, [[0, 1], [2, 0], [1, 2]], [0, 1, 2], by unfold SeqOk; decide, rfl, ?_, ?_⟩
  · have h := HO.out
    simp only [size_alloc', List.nil_append, List.cons_append, List.length_cons, List.length_nil, List.map_cons, List.map_nil] at h ⊢
    exact h
  · exact (((((((Below.refl w.heap.size w).alloc (Nat.le_refl _) _).alloc (by simp only [size_alloc'] <;> omega) _).alloc (by simp only [size_alloc'] <;> omega) _).alloc (by simp only [size_alloc'] <;> omega) _).alloc (by simp only [size_alloc'] <;> omega) _).alloc (by simp only [size_alloc'] <;> omega) _)
/-- A list of strings that lies in block q, each with P. -/
def StrsIn (w : World) (q n : Nat) (P : ByteArray → Prop) : Prop := ∀ j, j < n → ∃ s, P s ∧ w.cell? ⟨q, j, none⟩ = some (.string s)
def SomeStr (P : ByteArray → Prop) (Q : World → Prop) (e : Ending) (w' : World) : Prop := ∃ s, P s ∧ e = .returned (.string s) ∧ Q w'
theorem pick (W w : World) (p : Nat) (a : Option Addr) (len cap q n c : Nat) (P : ByteArray → Prop) (hn : 1 ≤ n) (hn2 : n ≤ 256) (hq : q ≠ p) (hlist : StrsIn w q n P) (hlen : len ≤ 1048576) (hcode : CodeIs W W.heap.size a len) (hs : Stands W w p a len cap) :
    Calls Tryz.prog 75 #[.pointer (some ⟨p, 0, none⟩), .slice (some ⟨q, 0, none⟩) n c] w (SomeStr P (fun w' => w.grownBy w' (some p) ∧ CurIs w' p a len cap)) := by
  have H := Lib.hid (below W w p a len cap n (by omega) (by omega) hlen hcode hs)
  have HL := Lib.hid hlist
  clear hcode hs hlist
  go_enter Tryz.func75, Tryz.ntmps75
  go_wp2_with fail
  refine H.out.mono ?_
  rintro e w1 ⟨x, ⟨hx0, hx1⟩, rfl, hg, hc⟩
  obtain ⟨k, rfl⟩ := Int.eq_ofNat_of_zero_le hx0
  have hkn : k < n := by omega
  obtain ⟨v, hv0, hcv⟩ := HL.out k hkn
  have hcell : w1.cell? ⟨q, k, none⟩ = some (.string v) := hg.cell hcv (by simp [hq])
  have HV : Hid (P v) := hv0
  clear hcv hv0
  go_wp2
  go_ret
  exact ⟨v, HV.out, rfl, hg, hc⟩
def Named6 (s : ByteArray) : Prop := s = ⟨#[116, 104, 117, 101]⟩ ∨ s = ⟨#[114, 117, 100, 105, 110]⟩ ∨ s = ⟨#[112, 101, 114, 105, 111, 100]⟩ ∨ s = ⟨#[112, 111, 119, 101, 114, 115]⟩ ∨ s = ⟨#[99, 97, 110, 116, 111, 114]⟩ ∨ s = ⟨#[109, 111, 100]⟩
theorem named (w : World) (s : ByteArray) (h : Named6 s) : Calls Tryz.prog 74 #[.string s] w (SomeNamed w) := by
  rcases h with rfl | rfl | rfl | rfl | rfl | rfl
  · exact named_thue w
  · exact named_rudin w
  · exact named_period w
  · exact named_powers w
  · exact named_cantor w
  · exact named_mod w
theorem strs6 (w : World) (T : TypeId) : StrsIn (w.alloc (.cells #[.string ⟨#[116, 104, 117, 101]⟩, .string ⟨#[114, 117, 100, 105, 110]⟩, .string ⟨#[112, 101, 114, 105, 111, 100]⟩, .string ⟨#[112, 111, 119, 101, 114, 115]⟩, .string ⟨#[99, 97, 110, 116, 111, 114]⟩, .string ⟨#[109, 111, 100]⟩] T)) w.heap.size 6 Named6 := by
  intro j hj
  have hc := fun j => cell_of_row _ w.heap.size j _ T (0, 0) (heap_alloc_new w (.cells #[.string ⟨#[116, 104, 117, 101]⟩, .string ⟨#[114, 117, 100, 105, 110]⟩, .string ⟨#[112, 101, 114, 105, 111, 100]⟩, .string ⟨#[112, 111, 119, 101, 114, 115]⟩, .string ⟨#[99, 97, 110, 116, 111, 114]⟩, .string ⟨#[109, 111, 100]⟩] T))
  match j, hj with
  | 0, _ => exact ⟨_, .inl rfl, hc 0⟩
  | 1, _ => exact ⟨_, .inr (.inl rfl), hc 1⟩
  | 2, _ => exact ⟨_, .inr (.inr (.inl rfl)), hc 2⟩
  | 3, _ => exact ⟨_, .inr (.inr (.inr (.inl rfl))), hc 3⟩
  | 4, _ => exact ⟨_, .inr (.inr (.inr (.inr (.inl rfl)))), hc 4⟩
  | 5, _ => exact ⟨_, .inr (.inr (.inr (.inr (.inr rfl)))), hc 5⟩
theorem randomI (W w : World) (c : Nat) (a : Option Addr) (len cap : Nat) (b n : Int) (hb1 : 1 ≤ b) (hb4 : b ≤ 4) (hn1 : 1 ≤ n) (hn16 : n ≤ 16) (hlen : len ≤ 1048576) (hcode : CodeIs W W.heap.size a len) (hs : Stands W w c a len cap) :
    Calls Tryz.prog 76 #[.pointer (some ⟨c, 0, none⟩), .int .i64 b, .int .i64 n] w (SomeSeq w (fun w' => w.grownBy w' (some c) ∧ CurIs w' c a len cap)) := by
  obtain ⟨bn, rfl⟩ := Int.eq_ofNat_of_zero_le (show 0 ≤ b by omega)
  obtain ⟨nn, rfl⟩ := Int.eq_ofNat_of_zero_le (show 0 ≤ n by omega)
  exact random W w c a len cap bn nn (by omega) (by omega) (by omega) (by omega) hlen hcode hs
theorem own_within {w : World} {lo hi hi' : Nat} {v : Value} {b : Int} {rows : List (List Int)} {out : List Int} (h : OwnS w lo hi v b rows out) (h1 : hi ≤ hi') (h2 : hi' ≤ w.heap.size) : OwnS w lo hi' v b rows out := by
  obtain ⟨vn, vo, us, rfl, hr, ho⟩ := h
  exact ⟨vn, vo, us, rfl, ⟨hr.top, fun k hk => Nat.lt_of_lt_of_le (hr.lt k hk) h1, h2, hr.rows.mono h1 h2⟩, ho.mono h1 h2⟩
set_option maxHeartbeats 1000000 in
theorem draw3 (W w : World) (c : Nat) (a : Option Addr) (len cap : Nat) (hlen : len ≤ 1048576) (hcode : CodeIs W W.heap.size a len) (hs : Stands W w c a len cap) :
    Calls Tryz.prog 66 #[.pointer (some ⟨c, 0, none⟩)] w (SomeSeq w (fun w' => w.grownBy w' (some c) ∧ CurIs w' c a len cap)) := by
  have HO := Lib.hid (fun (w : World) (hs : Stands W w c a len cap) => once W w c a len cap 3 (by decide) (by decide) hlen hcode hs)
  have HB := Lib.hid (fun (w : World) (n : Int) (hn0 : 1 ≤ n) (hn1 : n ≤ 9223372036854775807) (hs : Stands W w c a len cap) => below W w c a len cap n hn0 hn1 hlen hcode hs)
  have HR := Lib.hid (fun (w : World) (b n : Int) (h1 : 1 ≤ b) (h2 : b ≤ 4) (h3 : 1 ≤ n) (h4 : n ≤ 16) (hs : Stands W w c a len cap) => randomI W w c a len cap b n h1 h2 h3 h4 hlen hcode hs)
  have HP := Lib.hid (fun (w : World) (q : Nat) (hq : q ≠ c) (hl : StrsIn w q 6 Named6) (hs : Stands W w c a len cap) => pick W w c a len cap q 6 6 Named6 (by decide) (by decide) hq hl hlen hcode hs)
  have hcw := hs.lt
  have hown := hs.own
  have HG1 : Hid (w.grownBy (w.alloc (Obj.cells #[Value.int .i64 0, Value.slice none 0 0, Value.slice none 0 0] 69)) (some c)) := grown_new (grown_self w c) _
  have HS1 := Lib.hid (hs.alloc (Obj.cells #[Value.int .i64 0, Value.slice none 0 0, Value.slice none 0 0] 69))
  have HZ1 := Lib.hid (Cells3.new w 69 (.int .i64 0) (.slice none 0 0) (.slice none 0 0))
  clear hcode hs
  go_enter Tryz.func66, Tryz.ntmps66
  go_wp2_with fail
  refine (HO.out _ HS1.out).mono ?_
  rintro e w1 ⟨t, rfl, g1, c1⟩
  have HG2 := Lib.hid (grown_more HG1.out g1 (fun k hk => .inl (Option.some.inj hk).symm))
  have HS2 := Lib.hid (HS1.out.next g1 c1)
  have HZ2 := Lib.hid (HZ1.out.grown g1 (by simp; omega))
  clear HG1 HS1 HZ1 g1 c1
  cases t with
  | true =>
    have HS3 := Lib.hid (HS2.out.alloc (.cells #[.string ⟨#[116, 104, 117, 101]⟩, .string ⟨#[114, 117, 100, 105, 110]⟩, .string ⟨#[112, 101, 114, 105, 111, 100]⟩, .string ⟨#[112, 111, 119, 101, 114, 115]⟩, .string ⟨#[99, 97, 110, 116, 111, 114]⟩, .string ⟨#[109, 111, 100]⟩] 9))
    have HG3 := Lib.hid (grown_new HG2.out (.cells #[.string ⟨#[116, 104, 117, 101]⟩, .string ⟨#[114, 117, 100, 105, 110]⟩, .string ⟨#[112, 101, 114, 105, 111, 100]⟩, .string ⟨#[112, 111, 119, 101, 114, 115]⟩, .string ⟨#[99, 97, 110, 116, 111, 114]⟩, .string ⟨#[109, 111, 100]⟩] 9))
    have HZ3 := Lib.hid (HZ2.out.alloc (.cells #[.string ⟨#[116, 104, 117, 101]⟩, .string ⟨#[114, 117, 100, 105, 110]⟩, .string ⟨#[112, 101, 114, 105, 111, 100]⟩, .string ⟨#[112, 111, 119, 101, 114, 115]⟩, .string ⟨#[99, 97, 110, 116, 111, 114]⟩, .string ⟨#[109, 111, 100]⟩] 9))
    have hlt := HS2.out.lt
    have hP := Lib.hid (HP.out _ w1.heap.size (by omega) (strs6 w1 _) HS3.out)
    go_wp2_with fail
    refine hP.out.mono ?_
    rintro e w2 ⟨s, hs6, rfl, g2, c2⟩
    have HN := Lib.hid (named w2 s hs6)
    have HG4 := Lib.hid (grown_more HG3.out g2 (fun k hk => .inl (Option.some.inj hk).symm))
    have HS4 := Lib.hid (HS3.out.next g2 c2)
    have HZ4 := Lib.hid (HZ3.out.grown g2 (by simp; omega))
    clear HG2 HS2 HZ2 HG3 HS3 HZ3 hP g2 c2 hs6
    go_wp2_with fail
    refine HN.out.mono ?_
    rintro e w3 ⟨v, b, rows, out, hok, rfl, hv, b3⟩
    obtain ⟨an, cn, ao, co, rfl⟩ := hv.form
    have HOK := Lib.hid hok
    have HV := Lib.hid (own_within (hv.below ((Below.refl w3.heap.size w3).alloc (Nat.le_refl _) (Obj.cells #[Value.int .i64 b, .slice an rows.length cn, .slice ao out.length co] 69))) (by simp) (Nat.le_refl _))
    have g3 := grown_of_below b3
    have HLO : Hid (w.heap.size + 1 ≤ w2.heap.size) := HZ4.out.lt
    have HG5 := Lib.hid (grown_new (grown_more HG4.out g3 (fun k hk => by cases hk)) (Obj.cells #[Value.int .i64 b, .slice an rows.length cn, .slice ao out.length co] 69))
    have HS5 := Lib.hid ((HS4.out.other g3 (fun k hk => by cases hk)).alloc (Obj.cells #[Value.int .i64 b, .slice an rows.length cn, .slice ao out.length co] 69))
    have HZ5 := Lib.hid ((HZ4.out.below b3).alloc (Obj.cells #[Value.int .i64 b, .slice an rows.length cn, .slice ao out.length co] 69))
    have HX := Lib.hid (Cells3.new w3 69 (.int .i64 b) (.slice an rows.length cn) (.slice ao out.length co))
    have x0 := HX.out.c0
    have x1 := HX.out.c1
    have x2 := HX.out.c2
    clear HG4 HS4 HZ4 hok hv g3 b3
    have z0 := HZ5.out.c0
    have z1 := HZ5.out.c1
    have z2 := HZ5.out.c2
    have z3 := HZ5.out.f
    go_wp2
    have hZ3 := (((HZ5.out.set0 (.int .i64 b)).set1 (.slice an rows.length cn)).set2 (.slice ao out.length co))
    have n0 := hZ3.c0
    have n1 := hZ3.c1
    have n2 := hZ3.c2
    have hcc : w.heap.size ≠ c := by omega
    have hcW : W.heap.size ≤ w.heap.size := by omega
    refine bodyPost_ret (v := .agg #[.int .i64 b, .slice an rows.length cn, .slice ao out.length co]) (by simp [results, Tryz.results66, go_sem, n0, n1, n2]) rfl ⟨_, b, _, _, HOK.out, rfl, ?_, ?_, ?_⟩
    · have T0 : Plain.Touch w.heap.size (w.heap.size + 1) (w3.alloc (Obj.cells #[Value.int .i64 b, .slice an rows.length cn, .slice ao out.length co] 69)) ((((w3.alloc (Obj.cells #[Value.int .i64 b, .slice an rows.length cn, .slice ao out.length co] 69)).setCell ⟨w.heap.size, 0, none⟩ (.int .i64 b)).setCell ⟨w.heap.size, 1, none⟩ (.slice an rows.length cn)).setCell ⟨w.heap.size, 2, none⟩ (.slice ao out.length co)) :=
        ((Plain.Touch.of_set _ (by show w.heap.size ≤ w.heap.size; exact Nat.le_refl _) (by show w.heap.size < w.heap.size + 1; omega)).trans (Plain.Touch.of_set _ (by show w.heap.size ≤ w.heap.size; exact Nat.le_refl _) (by show w.heap.size < w.heap.size + 1; omega))).trans (Plain.Touch.of_set _ (by show w.heap.size ≤ w.heap.size; exact Nat.le_refl _) (by show w.heap.size < w.heap.size + 1; omega))
      have := (HV.out.touch T0 (.inr HLO.out)).lower (Nat.le_trans (Nat.le_succ _) HLO.out)
      simpa only [size_setCell'] using this
    · exact grown_set (grown_set (grown_set HG5.out (Nat.le_refl _) _) (Nat.le_refl _) _) (Nat.le_refl _) _
    · exact (((HS5.out.other (Cursor.grown_setCell _ w.heap.size 0 _) (fun k hk => by cases hk; exact ⟨hcc, hcW⟩)).other (Cursor.grown_setCell _ w.heap.size 1 _) (fun k hk => by cases hk; exact ⟨hcc, hcW⟩)).other (Cursor.grown_setCell _ w.heap.size 2 _) (fun k hk => by cases hk; exact ⟨hcc, hcW⟩)).cur
  | false =>
    go_wp2_with fail
    refine (HB.out _ 2 (by decide) (by decide) HS2.out).mono ?_
    rintro e w2 ⟨x, ⟨hx0, hx1⟩, rfl, g2, c2⟩
    have HG3 := Lib.hid (grown_more HG2.out g2 (fun k hk => .inl (Option.some.inj hk).symm))
    have HS3 := Lib.hid (HS2.out.next g2 c2)
    have HZ3 := Lib.hid (HZ2.out.grown g2 (by simp; omega))
    clear HG2 HS2 HZ2 g2 c2
    go_wp2_with fail
    refine (HB.out _ 5 (by decide) (by decide) HS3.out).mono ?_
    rintro e w3 ⟨y, ⟨hy0, hy1⟩, rfl, g3, c3⟩
    have HG4 := Lib.hid (grown_more HG3.out g3 (fun k hk => .inl (Option.some.inj hk).symm))
    have HS4 := Lib.hid (HS3.out.next g3 c3)
    have HZ4 := Lib.hid (HZ3.out.grown g3 (by simp; omega))
    clear HG3 HS3 HZ3 g3 c3
    go_wp2_with fail
    refine (HR.out _ (2 + x) (1 + y) (by omega) (by omega) (by omega) (by omega) HS4.out).mono ?_
    rintro e w4 ⟨v, b, rows, out, hok, rfl, hv, g4, c4⟩
    obtain ⟨an, cn, ao, co, rfl⟩ := hv.form
    have HOK := Lib.hid hok
    have HV := Lib.hid hv
    have HLO : Hid (w.heap.size + 1 ≤ w3.heap.size) := HZ4.out.lt
    have HG5 := Lib.hid (grown_more HG4.out g4 (fun k hk => .inl (Option.some.inj hk).symm))
    have HS5 := Lib.hid (HS4.out.next g4 c4)
    have HZ5 := Lib.hid (HZ4.out.grown g4 (by simp; omega))
    clear HG4 HS4 HZ4 g4 c4 hok hv
    have z0 := HZ5.out.c0
    have z1 := HZ5.out.c1
    have z2 := HZ5.out.c2
    have z3 := HZ5.out.f
    go_wp2
    have hZ3 := (((HZ5.out.set0 (.int .i64 b)).set1 (.slice an rows.length cn)).set2 (.slice ao out.length co))
    have n0 := hZ3.c0
    have n1 := hZ3.c1
    have n2 := hZ3.c2
    have hcc : w.heap.size ≠ c := by omega
    have hcW : W.heap.size ≤ w.heap.size := by omega
    refine bodyPost_ret (v := .agg #[.int .i64 b, .slice an rows.length cn, .slice ao out.length co]) (by simp [results, Tryz.results66, go_sem, n0, n1, n2]) rfl ⟨_, b, _, _, HOK.out, rfl, ?_, ?_, ?_⟩
    · have T0 : Plain.Touch w.heap.size (w.heap.size + 1) w4 (((w4.setCell ⟨w.heap.size, 0, none⟩ (.int .i64 b)).setCell ⟨w.heap.size, 1, none⟩ (.slice an rows.length cn)).setCell ⟨w.heap.size, 2, none⟩ (.slice ao out.length co)) :=
        ((Plain.Touch.of_set _ (by show w.heap.size ≤ w.heap.size; exact Nat.le_refl _) (by show w.heap.size < w.heap.size + 1; omega)).trans (Plain.Touch.of_set _ (by show w.heap.size ≤ w.heap.size; exact Nat.le_refl _) (by show w.heap.size < w.heap.size + 1; omega))).trans (Plain.Touch.of_set _ (by show w.heap.size ≤ w.heap.size; exact Nat.le_refl _) (by show w.heap.size < w.heap.size + 1; omega))
      have := (HV.out.touch T0 (.inr HLO.out)).lower (Nat.le_trans (Nat.le_succ _) HLO.out)
      simpa only [size_setCell'] using this
    · exact grown_set (grown_set (grown_set HG5.out (Nat.le_refl _) _) (Nat.le_refl _) _) (Nat.le_refl _) _
    · exact (((HS5.out.other (Cursor.grown_setCell _ w.heap.size 0 _) (fun k hk => by cases hk; exact ⟨hcc, hcW⟩)).other (Cursor.grown_setCell _ w.heap.size 1 _) (fun k hk => by cases hk; exact ⟨hcc, hcW⟩)).other (Cursor.grown_setCell _ w.heap.size 2 _) (fun k hk => by cases hk; exact ⟨hcc, hcW⟩)).cur
end Cursor
end Go.Proofs.YtfpdikohlafpiaaGreat
