/- Several texts of this proof, one behind the other: each says ahead of it what it shows and under which conditions. -/
import Derived.Test.YtdgfecjakmdheaaKM6
import Derived.Test.YtdgfecjakmdheaaKM5
/- The sequences that the model names: each is a literal, the call's own. No conditions beyond those that each states. -/
namespace Go.Proofs.Ytdgfecjakmdheaa
open Go.ChangeShapes Go.WideShapes Go.ChangeAt Go.RowKit
open Go.PlainAid Plain
set_option linter.unusedVariables false
namespace Cursor
open Ints Digits
theorem chain_row {W : World} {lo : Nat} {us : List Value} {rows : List (List Int)} (h : OwnRows W lo W.heap.size us rows) (hlo : lo ≤ W.heap.size) (xs : List Int) (hx : xs.length ≤ 100) :
    OwnRows (W.alloc (.cells (xs.map (Value.int .i64)).toArray 3)) lo (W.alloc (.cells (xs.map (Value.int .i64)).toArray 3)).heap.size (us ++ [.slice (some ⟨W.heap.size, 0, none⟩) xs.length xs.length]) (rows ++ [xs]) := by
  have hb : Below W.heap.size W (W.alloc (.cells (xs.map (Value.int .i64)).toArray 3)) := (Below.refl _ _).alloc (Nat.le_refl _) _
  have h1 : Has (Value.int .i64) 3 (W.alloc (.cells (xs.map (Value.int .i64)).toArray 3)) W.heap.size (.slice (some ⟨W.heap.size, 0, none⟩) xs.length xs.length) xs := Has.lit (enc := Value.int .i64) (e := 3) W xs (Nat.le_refl _) (by omega)
  exact (h.below hb).snoc ⟨h1, fun k hk => (h1.lt k hk).2, Nat.le_refl _⟩ hlo hb.size
theorem chain_top {W : World} {lo : Nat} {us : List Value} {rows : List (List Int)} (h : OwnRows W lo W.heap.size us rows) (hlo : lo ≤ W.heap.size) (hu : us.length ≤ 100) :
    OwnR (W.alloc (.cells us.toArray 25)) lo (W.alloc (.cells us.toArray 25)).heap.size (.slice (some ⟨W.heap.size, 0, none⟩) us.length us.length) us rows := by
  have hb : Below W.heap.size W (W.alloc (.cells us.toArray 25)) := (Below.refl _ _).alloc (Nat.le_refl _) _
  have h1 : Has id 25 (W.alloc (.cells (us.map id).toArray 25)) lo (.slice (some ⟨W.heap.size, 0, none⟩) us.length us.length) us := Has.lit (enc := id) (e := 25) W us hlo (by omega)
  rw [List.map_id] at h1
  exact ⟨h1, fun k hk => (h1.lt k hk).2, Nat.le_refl _, (h.below hb).mono hb.size (Nat.le_refl _)⟩
theorem chain_out {W : World} {lo base : Nat} {vn : Value} {us : List Value} {b : Int} {rows : List (List Int)} (h : OwnR W lo W.heap.size vn us rows) (hb : base ≤ lo) (hlo : lo ≤ W.heap.size) (xs : List Int) (hx : xs.length ≤ 100) :
    OwnS (W.alloc (.cells (xs.map (Value.int .i64)).toArray 3)) base (W.alloc (.cells (xs.map (Value.int .i64)).toArray 3)).heap.size (.agg #[.int .i64 b, vn, .slice (some ⟨W.heap.size, 0, none⟩) xs.length xs.length]) b rows xs := by
  have hbb : Below W.heap.size W (W.alloc (.cells (xs.map (Value.int .i64)).toArray 3)) := (Below.refl _ _).alloc (Nat.le_refl _) _
  have h1 : Has (Value.int .i64) 3 (W.alloc (.cells (xs.map (Value.int .i64)).toArray 3)) W.heap.size (.slice (some ⟨W.heap.size, 0, none⟩) xs.length xs.length) xs := Has.lit (enc := Value.int .i64) (e := 3) W xs (Nat.le_refl _) (by omega)
  exact OwnS.make (h.below hbb) ⟨h1, fun k hk => (h1.lt k hk).2, Nat.le_refl _⟩ hb hlo hbb.size
def SomeNamed (w : World) (e : Ending) (w' : World) : Prop := ∃ v b rows out, SeqOk rows out ∧ e = .returned (.tuple #[v, .bool true]) ∧ OwnS w' w.heap.size w'.heap.size v b rows out ∧ Below w.heap.size w w'
set_option maxHeartbeats 1000000 in
theorem named_thue (w : World) : Calls Try.prog 63 #[.string ⟨#[116, 104, 117, 101]⟩] w (SomeNamed w) := by
  have HZ := Lib.hid (Cells3.new w 27 (.int .i64 0) (.slice none 0 0) (.slice none 0 0))
  have HO := Lib.hid (chain_out (base := w.heap.size) (b := 2) (chain_top (chain_row (chain_row (OwnRows.nil (w.alloc (.cells #[.int .i64 2, Value.slice (some ⟨w.heap.size + 1 + 1 + 1, 0, none⟩) 2 2, Value.slice (some ⟨w.heap.size + 1 + 1 + 1 + 1, 0, none⟩) 2 2] 27)) (w.alloc (.cells #[.int .i64 2, Value.slice (some ⟨w.heap.size + 1 + 1 + 1, 0, none⟩) 2 2, Value.slice (some ⟨w.heap.size + 1 + 1 + 1 + 1, 0, none⟩) 2 2] 27)).heap.size (w.alloc (.cells #[.int .i64 2, Value.slice (some ⟨w.heap.size + 1 + 1 + 1, 0, none⟩) 2 2, Value.slice (some ⟨w.heap.size + 1 + 1 + 1 + 1, 0, none⟩) 2 2] 27)).heap.size) (by simp only [size_alloc'] <;> omega) [0, 1] (by decide)) (by simp only [size_alloc'] <;> omega) [1, 0] (by decide)) (by simp only [size_alloc'] <;> omega) (by simp)) (by simp only [size_alloc'] <;> omega) (by simp only [size_alloc'] <;> omega) [0, 1] (by decide))
  go_enter Try.func63, Try.ntmps63
  go_wp2_with fail
  have hC := (((((Cells3.new w 27 (.int .i64 2) (Value.slice (some ⟨w.heap.size + 1 + 1 + 1, 0, none⟩) 2 2) (Value.slice (some ⟨w.heap.size + 1 + 1 + 1 + 1, 0, none⟩) 2 2)).alloc (.cells #[Value.int .i64 0, Value.int .i64 1] 3)).alloc (.cells #[Value.int .i64 1, Value.int .i64 0] 3)).alloc (.cells #[Value.slice (some ⟨w.heap.size + 1, 0, none⟩) 2 2, Value.slice (some ⟨w.heap.size + 1 + 1, 0, none⟩) 2 2] 25)).alloc (.cells #[Value.int .i64 0, Value.int .i64 1] 3))
  refine bodyPost_ret (v := .tuple #[.agg #[.int .i64 2, Value.slice (some ⟨w.heap.size + 1 + 1 + 1, 0, none⟩) 2 2, Value.slice (some ⟨w.heap.size + 1 + 1 + 1 + 1, 0, none⟩) 2 2], .bool true]) (by simp [results, Try.results63, go_sem, hC.c0, hC.c1, hC.c2]) rfl ⟨_, 2, [[0, 1], [1, 0]], [0, 1], by unfold SeqOk; decide, rfl, ?_, ?_⟩
  · have h := HO.out
    simp only [size_alloc', List.nil_append, List.cons_append, List.length_cons, List.length_nil, List.map_cons, List.map_nil] at h ⊢
    exact h
  · exact ((((((Below.refl w.heap.size w).alloc (Nat.le_refl _) _).alloc (by simp only [size_alloc'] <;> omega) _).alloc (by simp only [size_alloc'] <;> omega) _).alloc (by simp only [size_alloc'] <;> omega) _).alloc (by simp only [size_alloc'] <;> omega) _)
set_option maxHeartbeats 1000000 in
theorem named_rudin (w : World) : Calls Try.prog 63 #[.string ⟨#[114, 117, 100, 105, 110]⟩] w (SomeNamed w) := by
  have HZ := Lib.hid (Cells3.new w 27 (.int .i64 0) (.slice none 0 0) (.slice none 0 0))
  have HO := Lib.hid (chain_out (base := w.heap.size) (b := 2) (chain_top (chain_row (chain_row (chain_row (chain_row (OwnRows.nil (w.alloc (.cells #[.int .i64 2, Value.slice (some ⟨w.heap.size + 1 + 1 + 1 + 1 + 1, 0, none⟩) 4 4, Value.slice (some ⟨w.heap.size + 1 + 1 + 1 + 1 + 1 + 1, 0, none⟩) 4 4] 27)) (w.alloc (.cells #[.int .i64 2, Value.slice (some ⟨w.heap.size + 1 + 1 + 1 + 1 + 1, 0, none⟩) 4 4, Value.slice (some ⟨w.heap.size + 1 + 1 + 1 + 1 + 1 + 1, 0, none⟩) 4 4] 27)).heap.size (w.alloc (.cells #[.int .i64 2, Value.slice (some ⟨w.heap.size + 1 + 1 + 1 + 1 + 1, 0, none⟩) 4 4, Value.slice (some ⟨w.heap.size + 1 + 1 + 1 + 1 + 1 + 1, 0, none⟩) 4 4] 27)).heap.size) (by simp only [size_alloc'] <;> omega) [0, 1] (by decide)) (by simp only [size_alloc'] <;> omega) [0, 2] (by decide)) (by simp only [size_alloc'] <;> omega) [3, 1] (by decide)) (by simp only [size_alloc'] <;> omega) [3, 2] (by decide)) (by simp only [size_alloc'] <;> omega) (by simp)) (by simp only [size_alloc'] <;> omega) (by simp only [size_alloc'] <;> omega) [0, 0, 1, 1] (by decide))
  go_enter Try.func63, Try.ntmps63
  go_wp2_with fail
  have hC := (((((((Cells3.new w 27 (.int .i64 2) (Value.slice (some ⟨w.heap.size + 1 + 1 + 1 + 1 + 1, 0, none⟩) 4 4) (Value.slice (some ⟨w.heap.size + 1 + 1 + 1 + 1 + 1 + 1, 0, none⟩) 4 4)).alloc (.cells #[Value.int .i64 0, Value.int .i64 1] 3)).alloc (.cells #[Value.int .i64 0, Value.int .i64 2] 3)).alloc (.cells #[Value.int .i64 3, Value.int .i64 1] 3)).alloc (.cells #[Value.int .i64 3, Value.int .i64 2] 3)).alloc (.cells #[Value.slice (some ⟨w.heap.size + 1, 0, none⟩) 2 2, Value.slice (some ⟨w.heap.size + 1 + 1, 0, none⟩) 2 2, Value.slice (some ⟨w.heap.size + 1 + 1 + 1, 0, none⟩) 2 2, Value.slice (some ⟨w.heap.size + 1 + 1 + 1 + 1, 0, none⟩) 2 2] 25)).alloc (.cells #[Value.int .i64 0, Value.int .i64 0, Value.int .i64 1, Value.int .i64 1] 3))
  refine bodyPost_ret (v := .tuple #[.agg #[.int .i64 2, Value.slice (some ⟨w.heap.size + 1 + 1 + 1 + 1 + 1, 0, none⟩) 4 4, Value.slice (some ⟨w.heap.size + 1 + 1 + 1 + 1 + 1 + 1, 0, none⟩) 4 4], .bool true]) (by simp [results, Try.results63, go_sem, hC.c0, hC.c1, hC.c2]) rfl ⟨_, 2, [[0, 1], [0, 2], [3, 1], [3, 2]], [0, 0, 1, 1], by unfold SeqOk; decide, rfl, ?_, ?_⟩
  · have h := HO.out
    simp only [size_alloc', List.nil_append, List.cons_append, List.length_cons, List.length_nil, List.map_cons, List.map_nil] at h ⊢
    exact h
  · exact ((((((((Below.refl w.heap.size w).alloc (Nat.le_refl _) _).alloc (by simp only [size_alloc'] <;> omega) _).alloc (by simp only [size_alloc'] <;> omega) _).alloc (by simp only [size_alloc'] <;> omega) _).alloc (by simp only [size_alloc'] <;> omega) _).alloc (by simp only [size_alloc'] <;> omega) _).alloc (by simp only [size_alloc'] <;> omega) _)
set_option maxHeartbeats 1000000 in
theorem named_period (w : World) : Calls Try.prog 63 #[.string ⟨#[112, 101, 114, 105, 111, 100]⟩] w (SomeNamed w) := by
  have HZ := Lib.hid (Cells3.new w 27 (.int .i64 0) (.slice none 0 0) (.slice none 0 0))
  have HO := Lib.hid (chain_out (base := w.heap.size) (b := 2) (chain_top (chain_row (chain_row (chain_row (chain_row (OwnRows.nil (w.alloc (.cells #[.int .i64 2, Value.slice (some ⟨w.heap.size + 1 + 1 + 1 + 1 + 1, 0, none⟩) 4 4, Value.slice (some ⟨w.heap.size + 1 + 1 + 1 + 1 + 1 + 1, 0, none⟩) 4 4] 27)) (w.alloc (.cells #[.int .i64 2, Value.slice (some ⟨w.heap.size + 1 + 1 + 1 + 1 + 1, 0, none⟩) 4 4, Value.slice (some ⟨w.heap.size + 1 + 1 + 1 + 1 + 1 + 1, 0, none⟩) 4 4] 27)).heap.size (w.alloc (.cells #[.int .i64 2, Value.slice (some ⟨w.heap.size + 1 + 1 + 1 + 1 + 1, 0, none⟩) 4 4, Value.slice (some ⟨w.heap.size + 1 + 1 + 1 + 1 + 1 + 1, 0, none⟩) 4 4] 27)).heap.size) (by simp only [size_alloc'] <;> omega) [0, 1] (by decide)) (by simp only [size_alloc'] <;> omega) [2, 3] (by decide)) (by simp only [size_alloc'] <;> omega) [0, 1] (by decide)) (by simp only [size_alloc'] <;> omega) [2, 3] (by decide)) (by simp only [size_alloc'] <;> omega) (by simp)) (by simp only [size_alloc'] <;> omega) (by simp only [size_alloc'] <;> omega) [0, 0, 1, 1] (by decide))
  go_enter Try.func63, Try.ntmps63
  go_wp2_with fail
  have hC := (((((((Cells3.new w 27 (.int .i64 2) (Value.slice (some ⟨w.heap.size + 1 + 1 + 1 + 1 + 1, 0, none⟩) 4 4) (Value.slice (some ⟨w.heap.size + 1 + 1 + 1 + 1 + 1 + 1, 0, none⟩) 4 4)).alloc (.cells #[Value.int .i64 0, Value.int .i64 1] 3)).alloc (.cells #[Value.int .i64 2, Value.int .i64 3] 3)).alloc (.cells #[Value.int .i64 0, Value.int .i64 1] 3)).alloc (.cells #[Value.int .i64 2, Value.int .i64 3] 3)).alloc (.cells #[Value.slice (some ⟨w.heap.size + 1, 0, none⟩) 2 2, Value.slice (some ⟨w.heap.size + 1 + 1, 0, none⟩) 2 2, Value.slice (some ⟨w.heap.size + 1 + 1 + 1, 0, none⟩) 2 2, Value.slice (some ⟨w.heap.size + 1 + 1 + 1 + 1, 0, none⟩) 2 2] 25)).alloc (.cells #[Value.int .i64 0, Value.int .i64 0, Value.int .i64 1, Value.int .i64 1] 3))
  refine bodyPost_ret (v := .tuple #[.agg #[.int .i64 2, Value.slice (some ⟨w.heap.size + 1 + 1 + 1 + 1 + 1, 0, none⟩) 4 4, Value.slice (some ⟨w.heap.size + 1 + 1 + 1 + 1 + 1 + 1, 0, none⟩) 4 4], .bool true]) (by simp [results, Try.results63, go_sem, hC.c0, hC.c1, hC.c2]) rfl ⟨_, 2, [[0, 1], [2, 3], [0, 1], [2, 3]], [0, 0, 1, 1], by unfold SeqOk; decide, rfl, ?_, ?_⟩
  · have h := HO.out
    simp only [size_alloc', List.nil_append, List.cons_append, List.length_cons, List.length_nil, List.map_cons, List.map_nil] at h ⊢
    exact h
  · exact ((((((((Below.refl w.heap.size w).alloc (Nat.le_refl _) _).alloc (by simp only [size_alloc'] <;> omega) _).alloc (by simp only [size_alloc'] <;> omega) _).alloc (by simp only [size_alloc'] <;> omega) _).alloc (by simp only [size_alloc'] <;> omega) _).alloc (by simp only [size_alloc'] <;> omega) _).alloc (by simp only [size_alloc'] <;> omega) _)
set_option maxHeartbeats 1000000 in
theorem named_powers (w : World) : Calls Try.prog 63 #[.string ⟨#[112, 111, 119, 101, 114, 115]⟩] w (SomeNamed w) := by
  have HZ := Lib.hid (Cells3.new w 27 (.int .i64 0) (.slice none 0 0) (.slice none 0 0))
  have HO := Lib.hid (chain_out (base := w.heap.size) (b := 2) (chain_top (chain_row (chain_row (chain_row (OwnRows.nil (w.alloc (.cells #[.int .i64 2, Value.slice (some ⟨w.heap.size + 1 + 1 + 1 + 1, 0, none⟩) 3 3, Value.slice (some ⟨w.heap.size + 1 + 1 + 1 + 1 + 1, 0, none⟩) 3 3] 27)) (w.alloc (.cells #[.int .i64 2, Value.slice (some ⟨w.heap.size + 1 + 1 + 1 + 1, 0, none⟩) 3 3, Value.slice (some ⟨w.heap.size + 1 + 1 + 1 + 1 + 1, 0, none⟩) 3 3] 27)).heap.size (w.alloc (.cells #[.int .i64 2, Value.slice (some ⟨w.heap.size + 1 + 1 + 1 + 1, 0, none⟩) 3 3, Value.slice (some ⟨w.heap.size + 1 + 1 + 1 + 1 + 1, 0, none⟩) 3 3] 27)).heap.size) (by simp only [size_alloc'] <;> omega) [0, 1] (by decide)) (by simp only [size_alloc'] <;> omega) [1, 2] (by decide)) (by simp only [size_alloc'] <;> omega) [2, 2] (by decide)) (by simp only [size_alloc'] <;> omega) (by simp)) (by simp only [size_alloc'] <;> omega) (by simp only [size_alloc'] <;> omega) [0, 1, 0] (by decide))
  go_enter Try.func63, Try.ntmps63
  go_wp2_with fail
  have hC := ((((((Cells3.new w 27 (.int .i64 2) (Value.slice (some ⟨w.heap.size + 1 + 1 + 1 + 1, 0, none⟩) 3 3) (Value.slice (some ⟨w.heap.size + 1 + 1 + 1 + 1 + 1, 0, none⟩) 3 3)).alloc (.cells #[Value.int .i64 0, Value.int .i64 1] 3)).alloc (.cells #[Value.int .i64 1, Value.int .i64 2] 3)).alloc (.cells #[Value.int .i64 2, Value.int .i64 2] 3)).alloc (.cells #[Value.slice (some ⟨w.heap.size + 1, 0, none⟩) 2 2, Value.slice (some ⟨w.heap.size + 1 + 1, 0, none⟩) 2 2, Value.slice (some ⟨w.heap.size + 1 + 1 + 1, 0, none⟩) 2 2] 25)).alloc (.cells #[Value.int .i64 0, Value.int .i64 1, Value.int .i64 0] 3))
  refine bodyPost_ret (v := .tuple #[.agg #[.int .i64 2, Value.slice (some ⟨w.heap.size + 1 + 1 + 1 + 1, 0, none⟩) 3 3, Value.slice (some ⟨w.heap.size + 1 + 1 + 1 + 1 + 1, 0, none⟩) 3 3], .bool true]) (by simp [results, Try.results63, go_sem, hC.c0, hC.c1, hC.c2]) rfl ⟨_, 2, [[0, 1], [1, 2], [2, 2]], [0, 1, 0], by unfold SeqOk; decide, rfl, ?_, ?_⟩
  · have h := HO.out
    simp only [size_alloc', List.nil_append, List.cons_append, List.length_cons, List.length_nil, List.map_cons, List.map_nil] at h ⊢
    exact h
  · exact (((((((Below.refl w.heap.size w).alloc (Nat.le_refl _) _).alloc (by simp only [size_alloc'] <;> omega) _).alloc (by simp only [size_alloc'] <;> omega) _).alloc (by simp only [size_alloc'] <;> omega) _).alloc (by simp only [size_alloc'] <;> omega) _).alloc (by simp only [size_alloc'] <;> omega) _)
set_option maxHeartbeats 1000000 in
theorem named_cantor (w : World) : Calls Try.prog 63 #[.string ⟨#[99, 97, 110, 116, 111, 114]⟩] w (SomeNamed w) := by
  have HZ := Lib.hid (Cells3.new w 27 (.int .i64 0) (.slice none 0 0) (.slice none 0 0))
  have HO := Lib.hid (chain_out (base := w.heap.size) (b := 3) (chain_top (chain_row (chain_row (OwnRows.nil (w.alloc (.cells #[.int .i64 3, Value.slice (some ⟨w.heap.size + 1 + 1 + 1, 0, none⟩) 2 2, Value.slice (some ⟨w.heap.size + 1 + 1 + 1 + 1, 0, none⟩) 2 2] 27)) (w.alloc (.cells #[.int .i64 3, Value.slice (some ⟨w.heap.size + 1 + 1 + 1, 0, none⟩) 2 2, Value.slice (some ⟨w.heap.size + 1 + 1 + 1 + 1, 0, none⟩) 2 2] 27)).heap.size (w.alloc (.cells #[.int .i64 3, Value.slice (some ⟨w.heap.size + 1 + 1 + 1, 0, none⟩) 2 2, Value.slice (some ⟨w.heap.size + 1 + 1 + 1 + 1, 0, none⟩) 2 2] 27)).heap.size) (by simp only [size_alloc'] <;> omega) [0, 1, 0] (by decide)) (by simp only [size_alloc'] <;> omega) [1, 1, 1] (by decide)) (by simp only [size_alloc'] <;> omega) (by simp)) (by simp only [size_alloc'] <;> omega) (by simp only [size_alloc'] <;> omega) [1, 0] (by decide))
  go_enter Try.func63, Try.ntmps63
  go_wp2_with fail
  have hC := (((((Cells3.new w 27 (.int .i64 3) (Value.slice (some ⟨w.heap.size + 1 + 1 + 1, 0, none⟩) 2 2) (Value.slice (some ⟨w.heap.size + 1 + 1 + 1 + 1, 0, none⟩) 2 2)).alloc (.cells #[Value.int .i64 0, Value.int .i64 1, Value.int .i64 0] 3)).alloc (.cells #[Value.int .i64 1, Value.int .i64 1, Value.int .i64 1] 3)).alloc (.cells #[Value.slice (some ⟨w.heap.size + 1, 0, none⟩) 3 3, Value.slice (some ⟨w.heap.size + 1 + 1, 0, none⟩) 3 3] 25)).alloc (.cells #[Value.int .i64 1, Value.int .i64 0] 3))
  refine bodyPost_ret (v := .tuple #[.agg #[.int .i64 3, Value.slice (some ⟨w.heap.size + 1 + 1 + 1, 0, none⟩) 2 2, Value.slice (some ⟨w.heap.size + 1 + 1 + 1 + 1, 0, none⟩) 2 2], .bool true]) (by simp [results, Try.results63, go_sem, hC.c0, hC.c1, hC.c2]) rfl ⟨_, 3, [[0, 1, 0], [1, 1, 1]], [1, 0], by unfold SeqOk; decide, rfl, ?_, ?_⟩
  · have h := HO.out
    simp only [size_alloc', List.nil_append, List.cons_append, List.length_cons, List.length_nil, List.map_cons, List.map_nil] at h ⊢
    exact h
  · exact ((((((Below.refl w.heap.size w).alloc (Nat.le_refl _) _).alloc (by simp only [size_alloc'] <;> omega) _).alloc (by simp only [size_alloc'] <;> omega) _).alloc (by simp only [size_alloc'] <;> omega) _).alloc (by simp only [size_alloc'] <;> omega) _)
set_option maxHeartbeats 1000000 in
theorem named_mod (w : World) : Calls Try.prog 63 #[.string ⟨#[109, 111, 100]⟩] w (SomeNamed w) := by
  have HZ := Lib.hid (Cells3.new w 27 (.int .i64 0) (.slice none 0 0) (.slice none 0 0))
  have HO := Lib.hid (chain_out (base := w.heap.size) (b := 2) (chain_top (chain_row (chain_row (chain_row (OwnRows.nil (w.alloc (.cells #[.int .i64 2, Value.slice (some ⟨w.heap.size + 1 + 1 + 1 + 1, 0, none⟩) 3 3, Value.slice (some ⟨w.heap.size + 1 + 1 + 1 + 1 + 1, 0, none⟩) 3 3] 27)) (w.alloc (.cells #[.int .i64 2, Value.slice (some ⟨w.heap.size + 1 + 1 + 1 + 1, 0, none⟩) 3 3, Value.slice (some ⟨w.heap.size + 1 + 1 + 1 + 1 + 1, 0, none⟩) 3 3] 27)).heap.size (w.alloc (.cells #[.int .i64 2, Value.slice (some ⟨w.heap.size + 1 + 1 + 1 + 1, 0, none⟩) 3 3, Value.slice (some ⟨w.heap.size + 1 + 1 + 1 + 1 + 1, 0, none⟩) 3 3] 27)).heap.size) (by simp only [size_alloc'] <;> omega) [0, 1] (by decide)) (by simp only [size_alloc'] <;> omega) [2, 0] (by decide)) (by simp only [size_alloc'] <;> omega) [1, 2] (by decide)) (by simp only [size_alloc'] <;> omega) (by simp)) (by simp only [size_alloc'] <;> omega) (by simp only [size_alloc'] <;> omega) [0, 1, 2] (by decide))
  go_enter Try.func63, Try.ntmps63
  go_wp2_with fail
  have hC := ((((((Cells3.new w 27 (.int .i64 2) (Value.slice (some ⟨w.heap.size + 1 + 1 + 1 + 1, 0, none⟩) 3 3) (Value.slice (some ⟨w.heap.size + 1 + 1 + 1 + 1 + 1, 0, none⟩) 3 3)).alloc (.cells #[Value.int .i64 0, Value.int .i64 1] 3)).alloc (.cells #[Value.int .i64 2, Value.int .i64 0] 3)).alloc (.cells #[Value.int .i64 1, Value.int .i64 2] 3)).alloc (.cells #[Value.slice (some ⟨w.heap.size + 1, 0, none⟩) 2 2, Value.slice (some ⟨w.heap.size + 1 + 1, 0, none⟩) 2 2, Value.slice (some ⟨w.heap.size + 1 + 1 + 1, 0, none⟩) 2 2] 25)).alloc (.cells #[Value.int .i64 0, Value.int .i64 1, Value.int .i64 2] 3))
  refine bodyPost_ret (v := .tuple #[.agg #[.int .i64 2, Value.slice (some ⟨w.heap.size + 1 + 1 + 1 + 1, 0, none⟩) 3 3, Value.slice (some ⟨w.heap.size + 1 + 1 + 1 + 1 + 1, 0, none⟩) 3 3], .bool true]) (by simp [results, Try.results63, go_sem, hC.c0, hC.c1, hC.c2]) rfl ⟨_, 2, [[0, 1], [2, 0], [1, 2]], [0, 1, 2], by unfold SeqOk; decide, rfl, ?_, ?_⟩
  · have h := HO.out
    simp only [size_alloc', List.nil_append, List.cons_append, List.length_cons, List.length_nil, List.map_cons, List.map_nil] at h ⊢
    exact h
  · exact (((((((Below.refl w.heap.size w).alloc (Nat.le_refl _) _).alloc (by simp only [size_alloc'] <;> omega) _).alloc (by simp only [size_alloc'] <;> omega) _).alloc (by simp only [size_alloc'] <;> omega) _).alloc (by simp only [size_alloc'] <;> omega) _).alloc (by simp only [size_alloc'] <;> omega) _)
/-- A list of strings that lies in block q, each with P. -/
def StrsIn (w : World) (q n : Nat) (P : ByteArray → Prop) : Prop := ∀ j, j < n → ∃ s, P s ∧ w.cell? ⟨q, j, none⟩ = some (.string s)
def SomeStr (P : ByteArray → Prop) (Q : World → Prop) (e : Ending) (w' : World) : Prop := ∃ s, P s ∧ e = .returned (.string s) ∧ Q w'
theorem pick (W w : World) (p : Nat) (a : Option Addr) (len cap q n c : Nat) (P : ByteArray → Prop) (hn : 1 ≤ n) (hn2 : n ≤ 256) (hq : q ≠ p) (hlist : StrsIn w q n P) (hlen : len ≤ 1048576) (hcode : CodeIs W W.heap.size a len) (hs : Stands W w p a len cap) :
    Calls Try.prog 64 #[.pointer (some ⟨p, 0, none⟩), .slice (some ⟨q, 0, none⟩) n c] w (SomeStr P (fun w' => w.grownBy w' (some p) ∧ CurIs w' p a len cap)) := by
  have H := Lib.hid (below W w p a len cap n (by omega) (by omega) hlen hcode hs)
  have HL := Lib.hid hlist
  clear hcode hs hlist
  go_enter Try.func64, Try.ntmps64
  go_wp2_with fail
  refine H.out.mono ?_
  rintro e w1 ⟨x, ⟨hx0, hx1⟩, rfl, hg, hc⟩
  obtain ⟨k, rfl⟩ := Int.eq_ofNat_of_zero_le hx0
  have hkn : k < n := by omega
  obtain ⟨v, hv0, hcv⟩ := HL.out k hkn
  have hcell : w1.cell? ⟨q, k, none⟩ = some (.string v) := hg.cell hcv (by simp [hq])
  have HV : Hid (P v) := hv0
  clear hcv hv0
  go_wp2
  go_ret
  exact ⟨v, HV.out, rfl, hg, hc⟩
def Named6 (s : ByteArray) : Prop := s = ⟨#[116, 104, 117, 101]⟩ ∨ s = ⟨#[114, 117, 100, 105, 110]⟩ ∨ s = ⟨#[112, 101, 114, 105, 111, 100]⟩ ∨ s = ⟨#[112, 111, 119, 101, 114, 115]⟩ ∨ s = ⟨#[99, 97, 110, 116, 111, 114]⟩ ∨ s = ⟨#[109, 111, 100]⟩
theorem named (w : World) (s : ByteArray) (h : Named6 s) : Calls Try.prog 63 #[.string s] w (SomeNamed w) := by
  rcases h with rfl | rfl | rfl | rfl | rfl | rfl
  · exact named_thue w
  · exact named_rudin w
  · exact named_period w
  · exact named_powers w
  · exact named_cantor w
  · exact named_mod w
theorem strs6 (w : World) (T : TypeId) : StrsIn (w.alloc (.cells #[.string ⟨#[116, 104, 117, 101]⟩, .string ⟨#[114, 117, 100, 105, 110]⟩, .string ⟨#[112, 101, 114, 105, 111, 100]⟩, .string ⟨#[112, 111, 119, 101, 114, 115]⟩, .string ⟨#[99, 97, 110, 116, 111, 114]⟩, .string ⟨#[109, 111, 100]⟩] T)) w.heap.size 6 Named6 := by
  intro j hj
  have hc := fun j => cell_of_row _ w.heap.size j _ T (0, 0) (heap_alloc_new w (.cells #[.string ⟨#[116, 104, 117, 101]⟩, .string ⟨#[114, 117, 100, 105, 110]⟩, .string ⟨#[112, 101, 114, 105, 111, 100]⟩, .string ⟨#[112, 111, 119, 101, 114, 115]⟩, .string ⟨#[99, 97, 110, 116, 111, 114]⟩, .string ⟨#[109, 111, 100]⟩] T))
  match j, hj with
  | 0, _ => exact ⟨_, .inl rfl, hc 0⟩
  | 1, _ => exact ⟨_, .inr (.inl rfl), hc 1⟩
  | 2, _ => exact ⟨_, .inr (.inr (.inl rfl)), hc 2⟩
  | 3, _ => exact ⟨_, .inr (.inr (.inr (.inl rfl))), hc 3⟩
  | 4, _ => exact ⟨_, .inr (.inr (.inr (.inr (.inl rfl)))), hc 4⟩
  | 5, _ => exact ⟨_, .inr (.inr (.inr (.inr (.inr rfl)))), hc 5⟩
theorem randomI (W w : World) (c : Nat) (a : Option Addr) (len cap : Nat) (b n : Int) (hb1 : 1 ≤ b) (hb4 : b ≤ 4) (hn1 : 1 ≤ n) (hn16 : n ≤ 16) (hlen : len ≤ 1048576) (hcode : CodeIs W W.heap.size a len) (hs : Stands W w c a len cap) :
    Calls Try.prog 65 #[.pointer (some ⟨c, 0, none⟩), .int .i64 b, .int .i64 n] w (SomeSeq w (fun w' => w.grownBy w' (some c) ∧ CurIs w' c a len cap)) := by
  obtain ⟨bn, rfl⟩ := Int.eq_ofNat_of_zero_le (show 0 ≤ b by omega)
  obtain ⟨nn, rfl⟩ := Int.eq_ofNat_of_zero_le (show 0 ≤ n by omega)
  exact random W w c a len cap bn nn (by omega) (by omega) (by omega) (by omega) hlen hcode hs
theorem own_within {w : World} {lo hi hi' : Nat} {v : Value} {b : Int} {rows : List (List Int)} {out : List Int} (h : OwnS w lo hi v b rows out) (h1 : hi ≤ hi') (h2 : hi' ≤ w.heap.size) : OwnS w lo hi' v b rows out := by
  obtain ⟨vn, vo, us, rfl, hr, ho⟩ := h
  exact ⟨vn, vo, us, rfl, ⟨hr.top, fun k hk => Nat.lt_of_lt_of_le (hr.lt k hk) h1, h2, hr.rows.mono h1 h2⟩, ho.mono h1 h2⟩
set_option maxHeartbeats 1000000 in
theorem draw3 (W w : World) (c : Nat) (a : Option Addr) (len cap : Nat) (hlen : len ≤ 1048576) (hcode : CodeIs W W.heap.size a len) (hs : Stands W w c a len cap) :
    Calls Try.prog 45 #[.pointer (some ⟨c, 0, none⟩)] w (SomeSeq w (fun w' => w.grownBy w' (some c) ∧ CurIs w' c a len cap)) := by
  have HO := Lib.hid (fun (w : World) (hs : Stands W w c a len cap) => once W w c a len cap 3 (by decide) (by decide) hlen hcode hs)
  have HB := Lib.hid (fun (w : World) (n : Int) (hn0 : 1 ≤ n) (hn1 : n ≤ 9223372036854775807) (hs : Stands W w c a len cap) => below W w c a len cap n hn0 hn1 hlen hcode hs)
  have HR := Lib.hid (fun (w : World) (b n : Int) (h1 : 1 ≤ b) (h2 : b ≤ 4) (h3 : 1 ≤ n) (h4 : n ≤ 16) (hs : Stands W w c a len cap) => randomI W w c a len cap b n h1 h2 h3 h4 hlen hcode hs)
  have HP := Lib.hid (fun (w : World) (q : Nat) (hq : q ≠ c) (hl : StrsIn w q 6 Named6) (hs : Stands W w c a len cap) => pick W w c a len cap q 6 6 Named6 (by decide) (by decide) hq hl hlen hcode hs)
  have hcw := hs.lt
  have hown := hs.own
  have HG1 : Hid (w.grownBy (w.alloc (Obj.cells #[Value.int .i64 0, Value.slice none 0 0, Value.slice none 0 0] 27)) (some c)) := grown_new (grown_self w c) _
  have HS1 := Lib.hid (hs.alloc (Obj.cells #[Value.int .i64 0, Value.slice none 0 0, Value.slice none 0 0] 27))
  have HZ1 := Lib.hid (Cells3.new w 27 (.int .i64 0) (.slice none 0 0) (.slice none 0 0))
  clear hcode hs
  go_enter Try.func45, Try.ntmps45
  go_wp2_with fail
  refine (HO.out _ HS1.out).mono ?_
  rintro e w1 ⟨t, rfl, g1, c1⟩
  have HG2 := Lib.hid (grown_more HG1.out g1 (fun k hk => .inl (Option.some.inj hk).symm))
  have HS2 := Lib.hid (HS1.out.next g1 c1)
  have HZ2 := Lib.hid (HZ1.out.grown g1 (by simp; omega))
  clear HG1 HS1 HZ1 g1 c1
  cases t with
  | true =>
    have HS3 := Lib.hid (HS2.out.alloc (.cells #[.string ⟨#[116, 104, 117, 101]⟩, .string ⟨#[114, 117, 100, 105, 110]⟩, .string ⟨#[112, 101, 114, 105, 111, 100]⟩, .string ⟨#[112, 111, 119, 101, 114, 115]⟩, .string ⟨#[99, 97, 110, 116, 111, 114]⟩, .string ⟨#[109, 111, 100]⟩] 9))
    have HG3 := Lib.hid (grown_new HG2.out (.cells #[.string ⟨#[116, 104, 117, 101]⟩, .string ⟨#[114, 117, 100, 105, 110]⟩, .string ⟨#[112, 101, 114, 105, 111, 100]⟩, .string ⟨#[112, 111, 119, 101, 114, 115]⟩, .string ⟨#[99, 97, 110, 116, 111, 114]⟩, .string ⟨#[109, 111, 100]⟩] 9))
    have HZ3 := Lib.hid (HZ2.out.alloc (.cells #[.string ⟨#[116, 104, 117, 101]⟩, .string ⟨#[114, 117, 100, 105, 110]⟩, .string ⟨#[112, 101, 114, 105, 111, 100]⟩, .string ⟨#[112, 111, 119, 101, 114, 115]⟩, .string ⟨#[99, 97, 110, 116, 111, 114]⟩, .string ⟨#[109, 111, 100]⟩] 9))
    have hlt := HS2.out.lt
    have hP := Lib.hid (HP.out _ w1.heap.size (by omega) (strs6 w1 _) HS3.out)
    go_wp2_with fail
    refine hP.out.mono ?_
    rintro e w2 ⟨s, hs6, rfl, g2, c2⟩
    have HN := Lib.hid (named w2 s hs6)
    have HG4 := Lib.hid (grown_more HG3.out g2 (fun k hk => .inl (Option.some.inj hk).symm))
    have HS4 := Lib.hid (HS3.out.next g2 c2)
    have HZ4 := Lib.hid (HZ3.out.grown g2 (by simp; omega))
    clear HG2 HS2 HZ2 HG3 HS3 HZ3 hP g2 c2 hs6
    go_wp2_with fail
    refine HN.out.mono ?_
    rintro e w3 ⟨v, b, rows, out, hok, rfl, hv, b3⟩
    obtain ⟨an, cn, ao, co, rfl⟩ := hv.form
    have HOK := Lib.hid hok
    have HV := Lib.hid (own_within (hv.below ((Below.refl w3.heap.size w3).alloc (Nat.le_refl _) (Obj.cells #[Value.int .i64 b, .slice an rows.length cn, .slice ao out.length co] 27))) (by simp) (Nat.le_refl _))
    have g3 := grown_of_below b3
    have HLO : Hid (w.heap.size + 1 ≤ w2.heap.size) := HZ4.out.lt
    have HG5 := Lib.hid (grown_new (grown_more HG4.out g3 (fun k hk => by cases hk)) (Obj.cells #[Value.int .i64 b, .slice an rows.length cn, .slice ao out.length co] 27))
    have HS5 := Lib.hid ((HS4.out.other g3 (fun k hk => by cases hk)).alloc (Obj.cells #[Value.int .i64 b, .slice an rows.length cn, .slice ao out.length co] 27))
    have HZ5 := Lib.hid ((HZ4.out.below b3).alloc (Obj.cells #[Value.int .i64 b, .slice an rows.length cn, .slice ao out.length co] 27))
    have HX := Lib.hid (Cells3.new w3 27 (.int .i64 b) (.slice an rows.length cn) (.slice ao out.length co))
    have x0 := HX.out.c0
    have x1 := HX.out.c1
    have x2 := HX.out.c2
    clear HG4 HS4 HZ4 hok hv g3 b3
    have z0 := HZ5.out.c0
    have z1 := HZ5.out.c1
    have z2 := HZ5.out.c2
    have z3 := HZ5.out.f
    go_wp2
    have hZ3 := (((HZ5.out.set0 (.int .i64 b)).set1 (.slice an rows.length cn)).set2 (.slice ao out.length co))
    have n0 := hZ3.c0
    have n1 := hZ3.c1
    have n2 := hZ3.c2
    have hcc : w.heap.size ≠ c := by omega
    have hcW : W.heap.size ≤ w.heap.size := by omega
    refine bodyPost_ret (v := .agg #[.int .i64 b, .slice an rows.length cn, .slice ao out.length co]) (by simp [results, Try.results45, go_sem, n0, n1, n2]) rfl ⟨_, b, _, _, HOK.out, rfl, ?_, ?_, ?_⟩
    · have T0 : Plain.Touch w.heap.size (w.heap.size + 1) (w3.alloc (Obj.cells #[Value.int .i64 b, .slice an rows.length cn, .slice ao out.length co] 27)) ((((w3.alloc (Obj.cells #[Value.int .i64 b, .slice an rows.length cn, .slice ao out.length co] 27)).setCell ⟨w.heap.size, 0, none⟩ (.int .i64 b)).setCell ⟨w.heap.size, 1, none⟩ (.slice an rows.length cn)).setCell ⟨w.heap.size, 2, none⟩ (.slice ao out.length co)) :=
        ((Plain.Touch.of_set _ (by show w.heap.size ≤ w.heap.size; exact Nat.le_refl _) (by show w.heap.size < w.heap.size + 1; omega)).trans (Plain.Touch.of_set _ (by show w.heap.size ≤ w.heap.size; exact Nat.le_refl _) (by show w.heap.size < w.heap.size + 1; omega))).trans (Plain.Touch.of_set _ (by show w.heap.size ≤ w.heap.size; exact Nat.le_refl _) (by show w.heap.size < w.heap.size + 1; omega))
      have := (HV.out.touch T0 (.inr HLO.out)).lower (Nat.le_trans (Nat.le_succ _) HLO.out)
      simpa only [size_setCell'] using this
    · exact grown_set (grown_set (grown_set HG5.out (Nat.le_refl _) _) (Nat.le_refl _) _) (Nat.le_refl _) _
    · exact (((HS5.out.other (Cursor.grown_setCell _ w.heap.size 0 _) (fun k hk => by cases hk; exact ⟨hcc, hcW⟩)).other (Cursor.grown_setCell _ w.heap.size 1 _) (fun k hk => by cases hk; exact ⟨hcc, hcW⟩)).other (Cursor.grown_setCell _ w.heap.size 2 _) (fun k hk => by cases hk; exact ⟨hcc, hcW⟩)).cur
  | false =>
    go_wp2_with fail
    refine (HB.out _ 2 (by decide) (by decide) HS2.out).mono ?_
    rintro e w2 ⟨x, ⟨hx0, hx1⟩, rfl, g2, c2⟩
    have HG3 := Lib.hid (grown_more HG2.out g2 (fun k hk => .inl (Option.some.inj hk).symm))
    have HS3 := Lib.hid (HS2.out.next g2 c2)
    have HZ3 := Lib.hid (HZ2.out.grown g2 (by simp; omega))
    clear HG2 HS2 HZ2 g2 c2
    go_wp2_with fail
    refine (HB.out _ 5 (by decide) (by decide) HS3.out).mono ?_
    rintro e w3 ⟨y, ⟨hy0, hy1⟩, rfl, g3, c3⟩
    have HG4 := Lib.hid (grown_more HG3.out g3 (fun k hk => .inl (Option.some.inj hk).symm))
    have HS4 := Lib.hid (HS3.out.next g3 c3)
    have HZ4 := Lib.hid (HZ3.out.grown g3 (by simp; omega))
    clear HG3 HS3 HZ3 g3 c3
    go_wp2_with fail
    refine (HR.out _ (2 + x) (1 + y) (by omega) (by omega) (by omega) (by omega) HS4.out).mono ?_
    rintro e w4 ⟨v, b, rows, out, hok, rfl, hv, g4, c4⟩
    obtain ⟨an, cn, ao, co, rfl⟩ := hv.form
    have HOK := Lib.hid hok
    have HV := Lib.hid hv
    have HLO : Hid (w.heap.size + 1 ≤ w3.heap.size) := HZ4.out.lt
    have HG5 := Lib.hid (grown_more HG4.out g4 (fun k hk => .inl (Option.some.inj hk).symm))
    have HS5 := Lib.hid (HS4.out.next g4 c4)
    have HZ5 := Lib.hid (HZ4.out.grown g4 (by simp; omega))
    clear HG4 HS4 HZ4 g4 c4 hok hv
    have z0 := HZ5.out.c0
    have z1 := HZ5.out.c1
    have z2 := HZ5.out.c2
    have z3 := HZ5.out.f
    go_wp2
    have hZ3 := (((HZ5.out.set0 (.int .i64 b)).set1 (.slice an rows.length cn)).set2 (.slice ao out.length co))
    have n0 := hZ3.c0
    have n1 := hZ3.c1
    have n2 := hZ3.c2
    have hcc : w.heap.size ≠ c := by omega
    have hcW : W.heap.size ≤ w.heap.size := by omega
    refine bodyPost_ret (v := .agg #[.int .i64 b, .slice an rows.length cn, .slice ao out.length co]) (by simp [results, Try.results45, go_sem, n0, n1, n2]) rfl ⟨_, b, _, _, HOK.out, rfl, ?_, ?_, ?_⟩
    · have T0 : Plain.Touch w.heap.size (w.heap.size + 1) w4 (((w4.setCell ⟨w.heap.size, 0, none⟩ (.int .i64 b)).setCell ⟨w.heap.size, 1, none⟩ (.slice an rows.length cn)).setCell ⟨w.heap.size, 2, none⟩ (.slice ao out.length co)) :=
        ((Plain.Touch.of_set _ (by show w.heap.size ≤ w.heap.size; exact Nat.le_refl _) (by show w.heap.size < w.heap.size + 1; omega)).trans (Plain.Touch.of_set _ (by show w.heap.size ≤ w.heap.size; exact Nat.le_refl _) (by show w.heap.size < w.heap.size + 1; omega))).trans (Plain.Touch.of_set _ (by show w.heap.size ≤ w.heap.size; exact Nat.le_refl _) (by show w.heap.size < w.heap.size + 1; omega))
      have := (HV.out.touch T0 (.inr HLO.out)).lower (Nat.le_trans (Nat.le_succ _) HLO.out)
      simpa only [size_setCell'] using this
    · exact grown_set (grown_set (grown_set HG5.out (Nat.le_refl _) _) (Nat.le_refl _) _) (Nat.le_refl _) _
    · exact (((HS5.out.other (Cursor.grown_setCell _ w.heap.size 0 _) (fun k hk => by cases hk; exact ⟨hcc, hcW⟩)).other (Cursor.grown_setCell _ w.heap.size 1 _) (fun k hk => by cases hk; exact ⟨hcc, hcW⟩)).other (Cursor.grown_setCell _ w.heap.size 2 _) (fun k hk => by cases hk; exact ⟨hcc, hcW⟩)).cur
end Cursor
end Go.Proofs.Ytdgfecjakmdheaa
/- The drawing of sequences of any kind: some sequence, sometimes with a number that does not fit. No conditions beyond those that each states. -/
namespace Go.Proofs.Ytdgfecjakmdheaa
open Go.ChangeShapes Go.WideShapes Go.ChangeAt Go.RowKit
open Go.PlainAid Plain
set_option linter.unusedVariables false
namespace Cursor
open Ints Digits
theorem own_moved {w w' : World} {lo hi c : Nat} {v : Value} {b : Int} {rows : List (List Int)} {out : List Int} (h : OwnS w lo hi v b rows out) (hg : w.grownBy w' (some c)) (hc : c < lo) : OwnS w' lo hi v b rows out := by
  obtain ⟨vn, vo, us, rfl, hr, ho⟩ := h
  exact ⟨vn, vo, us, rfl, ⟨hr.top.moved hg hc, hr.lt, Nat.le_trans hr.le hg.size, hr.rows.moved hg hc⟩, ho.moved hg hc⟩
theorem own_based {w : World} {lo hi : Nat} {vn vo : Value} {b b' : Int} {rows : List (List Int)} {out : List Int} (h : OwnS w lo hi (.agg #[.int .i64 b, vn, vo]) b rows out) : OwnS w lo hi (.agg #[.int .i64 b', vn, vo]) b' rows out := by
  obtain ⟨vn', vo', us, hv, hr, ho⟩ := h
  simp at hv
  obtain ⟨rfl, rfl⟩ := hv
  exact ⟨_, _, us, rfl, hr, ho⟩
/-- The first cell of the terms, and what a write into it makes of the sequence. -/
theorem own_out0 {w : World} {lo hi : Nat} {vn : Value} {ao : Option Addr} {co : Nat} {b : Int} {rows : List (List Int)} {out : List Int} (h : OwnS w lo hi (.agg #[.int .i64 b, vn, .slice ao out.length co]) b rows out) (h0 : 0 < out.length) :
    ∃ g, ao = some ⟨g, 0, none⟩ ∧ lo ≤ g ∧ g < hi ∧ w.frozen? ⟨g, 0, none⟩ = false ∧ (∃ y, w.cell? ⟨g, 0, none⟩ = some y) ∧ ∀ x : Int, OwnS (w.setCell ⟨g, 0, none⟩ (.int .i64 x)) lo hi (.agg #[.int .i64 b, vn, .slice ao out.length co]) b rows (out.set 0 x) := by
  obtain ⟨vn', vo', us, hv, hr, ho⟩ := h
  simp at hv
  obtain ⟨rfl, rfl⟩ := hv
  have hI := ho.last
  obtain ⟨g, c, hg, hl, _⟩ := own_at hI.has h0
  injection hg with h1 _ h3
  subst h1; subst h3
  have hO : w.ownsRow lo 3 1 (.slice (some ⟨g, 0, none⟩) out.length co) out.length (out.map (Value.int .i64)) := hI.has
  refine ⟨g, rfl, hl, hI.lt g rfl, hO.frozenAt 0, ?_, fun x => ?_⟩
  · have y3 := hO.cellAt 0 (by omega)
    rw [List.getElem?_map, List.getElem?_eq_getElem h0, Option.map_some] at y3
    exact ⟨_, y3⟩
  · have hu : (us ++ [Value.slice (some ⟨g, 0, none⟩) out.length co])[us.length]? = some (.slice (some ⟨g, 0, none⟩) out.length co) := by simp
    have hq : (rows ++ [out])[us.length]? = some out := by rw [hr.rows.len]; simp
    have h2 := ho.write hu hq 0 x
    rw [hr.rows.len, List.set_append_right _ _ (Nat.le_refl _), Nat.sub_self, List.set_cons_zero] at h2
    have ht : vn.ownBlock ≠ some g := by
      rcases hr.top.ne_top hI.has with e | e
      · rw [e]; simp
      · exact e
    have hne : ∀ u ∈ us, u.ownBlock ≠ some g := fun u hu e => by
      obtain ⟨i, hi'⟩ := List.getElem?_of_mem hu
      have hlt := (List.getElem?_eq_some_iff.1 hi').1
      rcases ho.apart i us.length u (.slice (some ⟨g, 0, none⟩) out.length co) (by rw [List.getElem?_append_left hlt]; exact hi') (by simp) (by omega) with e' | e'
      · rw [e] at e'; cases e'
      · exact e' e
    exact ⟨vn, _, us, rfl, ⟨hr.top.set (a := ⟨g, 0, none⟩) ht _, hr.lt, by rw [size_setCell']; exact hr.le, hr.rows.set (a := ⟨g, 0, none⟩) hne _⟩, h2⟩
/-- The first cell of the first row, and what a write into it makes of the sequence. -/
theorem own_row0 {w : World} {lo hi : Nat} {an : Option Addr} {cn : Nat} {vo : Value} {b : Int} {rows : List (List Int)} {out : List Int} (h : OwnS w lo hi (.agg #[.int .i64 b, .slice an rows.length cn, vo]) b rows out) (h0 : 0 < rows.length) (h1 : ∀ r ∈ rows, 1 ≤ r.length) :
    ∃ tq ts g m c, an = some ⟨tq, ts, none⟩ ∧ w.cell? ⟨tq, ts, none⟩ = some (.slice (some ⟨g, 0, none⟩) m c) ∧ 0 < m ∧ lo ≤ g ∧ g < hi ∧ w.frozen? ⟨g, 0, none⟩ = false ∧ (∃ y, w.cell? ⟨g, 0, none⟩ = some y) ∧ lo ≤ tq ∧ tq < hi ∧
      ∀ x : Int, ∃ rows', rows'.length = rows.length ∧ (∀ r ∈ rows', ∃ r0 ∈ rows, r.length = r0.length) ∧ OwnS (w.setCell ⟨g, 0, none⟩ (.int .i64 x)) lo hi (.agg #[.int .i64 b, .slice an rows.length cn, vo]) b rows' out := by
  obtain ⟨vn', vo', us, hv, hr, ho⟩ := h
  simp at hv
  obtain ⟨rfl, rfl⟩ := hv
  obtain ⟨u0, hu0⟩ : ∃ u, us[0]? = some u := ⟨_, List.getElem?_eq_getElem (by rw [hr.rows.len]; exact h0)⟩
  obtain ⟨r0, hr0⟩ : ∃ r, rows[0]? = some r := ⟨_, List.getElem?_eq_getElem h0⟩
  have hI := hr.rows.row 0 u0 r0 hu0 hr0
  have hl0 := h1 r0 (List.mem_of_getElem? hr0)
  obtain ⟨g, c, hg, hl, _⟩ := own_at hI.has (by omega)
  subst hg
  have hO : w.ownsRow lo 3 1 (.slice (some ⟨g, 0, none⟩) r0.length c) r0.length (r0.map (Value.int .i64)) := hI.has
  obtain ⟨_, ta, tc, htv, _, hct⟩ := hr.top.lies
  obtain ⟨tq, ts, hta, y2⟩ := hct 0 _ hu0
  have hna : an = some ⟨tq, ts, none⟩ := by
    injection htv with h1
    rw [h1, hta]
  subst hna
  refine ⟨tq, ts, g, r0.length, c, rfl, y2, hl0, hl, hI.lt g rfl, hO.frozenAt 0, ?_, (hr.top.lt tq rfl).1, hr.lt tq rfl, fun x => ⟨rows.set 0 (r0.set 0 x), by rw [List.length_set], fun r hm => ?_, ?_⟩⟩
  · have y3 := hO.cellAt 0 (by omega)
    rw [List.getElem?_map, List.getElem?_eq_getElem (by omega), Option.map_some] at y3
    exact ⟨_, y3⟩
  · rcases List.mem_or_eq_of_mem_set hm with e | e
    · exact ⟨r, e, rfl⟩
    · exact ⟨r0, List.mem_of_getElem? hr0, by rw [e, List.length_set]⟩
  · have hlu : 0 < us.length := by rw [hr.rows.len]; exact h0
    have h2 := ho.write (i := 0) (by rw [List.getElem?_append_left hlu]; exact hu0) (by rw [List.getElem?_append_left h0]; exact hr0) 0 x
    rw [List.set_append_left _ _ h0] at h2
    have ht : (Value.slice (some ⟨tq, ts, none⟩) rows.length cn).ownBlock ≠ some g := by
      rcases hr.top.ne_top hI.has with e | e
      · rw [e]; simp
      · exact e
    exact ⟨_, vo, us, rfl, ⟨hr.top.set (a := ⟨g, 0, none⟩) ht _, hr.lt, by rw [size_setCell']; exact hr.le, hr.rows.write hu0 hr0 0 x⟩, h2⟩
theorem same_row {w : World} {tq ts g m cc tq2 ts2 g2 m2 cc2 : Nat} (h : (some ⟨tq, ts, none⟩ : Option Addr) = some ⟨tq2, ts2, none⟩) (h1 : w.cell? ⟨tq, ts, none⟩ = some (.slice (some ⟨g, 0, none⟩) m cc)) (h2 : w.cell? ⟨tq2, ts2, none⟩ = some (.slice (some ⟨g2, 0, none⟩) m2 cc2)) : tq = tq2 ∧ ts = ts2 ∧ g = g2 ∧ m = m2 ∧ cc = cc2 := by
  injection h with h
  injection h with ha hb
  subst ha; subst hb
  rw [h1] at h2
  injection h2 with h2
  injection h2 with h3 h4 h5
  injection h3 with h3
  injection h3 with h3
  exact ⟨rfl, rfl, h3, h4, h5⟩
def nums16a : List Int := [0, 1, 5, 3]
theorem nums16a_ok : ∀ v ∈ nums16a, I64 v := by unfold nums16a I64; simp
def nums16b : List Int := [-1, 4]
theorem nums16b_ok : ∀ v ∈ nums16b, I64 v := by unfold nums16b I64; simp
def nums16c : List Int := [-1, 9, 16]
theorem nums16c_ok : ∀ v ∈ nums16c, I64 v := by unfold nums16c I64; simp
set_option maxHeartbeats 2000000 in
theorem any3 (W w : World) (c : Nat) (a : Option Addr) (len cap : Nat) (hlen : len ≤ 1048576) (hcode : CodeIs W W.heap.size a len) (hs : Stands W w c a len cap) :
    Calls Try.prog 23 #[.pointer (some ⟨c, 0, none⟩)] w (SomeSeq w (fun w' => w.grownBy w' (some c) ∧ CurIs w' c a len cap)) := by
  have HD := Lib.hid (fun (w : World) (hs : Stands W w c a len cap) => draw3 W w c a len cap hlen hcode hs)
  have HB := Lib.hid (fun (w : World) (n : Int) (hn0 : 1 ≤ n) (hn1 : n ≤ 9223372036854775807) (hs : Stands W w c a len cap) => below W w c a len cap n hn0 hn1 hlen hcode hs)
  have HP := Lib.hid (fun (w : World) (q n : Nat) (hn : 1 ≤ n) (hn2 : n ≤ 256) (hq : q ≠ c) (hqs : q < w.heap.size) (hl : ListIs w q n) (hs : Stands W w c a len cap) => pickInt W w c a len cap q n n hn hn2 hq hqs hl hlen hcode hs)
  have hcw := hs.lt
  have hown := hs.own
  have HG1 : Hid (w.grownBy (w.alloc (Obj.cells #[Value.int .i64 0, Value.slice none 0 0, Value.slice none 0 0] 27)) (some c)) := grown_new (grown_self w c) _
  have HS1 := Lib.hid (hs.alloc (Obj.cells #[Value.int .i64 0, Value.slice none 0 0, Value.slice none 0 0] 27))
  have HZ1 := Lib.hid (Cells3.new w 27 (.int .i64 0) (.slice none 0 0) (.slice none 0 0))
  clear hcode hs
  go_enter Try.func23, Try.ntmps23
  go_wp2_with fail
  refine (HD.out _ HS1.out).mono ?_
  rintro e w1 ⟨v, b, rows, out, hok, rfl, hv, g1, c1⟩
  obtain ⟨an, cn, ao, co, rfl⟩ := hv.form
  have HOK := Lib.hid hok
  rw [size_alloc'] at hv
  have hv2 := hv.below ((Below.refl w1.heap.size w1).alloc (Nat.le_refl _) (Obj.cells #[Value.int .i64 b, .slice an rows.length cn, .slice ao out.length co] 27))
  have hg2 := grown_new (grown_more HG1.out g1 (fun k hk => .inl (Option.some.inj hk).symm)) (Obj.cells #[Value.int .i64 b, .slice an rows.length cn, .slice ao out.length co] 27)
  have hs2 := (HS1.out.next g1 c1).alloc (Obj.cells #[Value.int .i64 b, .slice an rows.length cn, .slice ao out.length co] 27)
  have hz2 := (HZ1.out.grown g1 (by simp; omega)).alloc (Obj.cells #[Value.int .i64 b, .slice an rows.length cn, .slice ao out.length co] 27)
  have hx2 := Cells3.new w1 27 (.int .i64 b) (.slice an rows.length cn) (.slice ao out.length co)
  have hw1 : w.heap.size + 1 ≤ w1.heap.size := by have := g1.size; simpa using this
  obtain ⟨q, hq⟩ : ∃ q, q = w1.heap.size := ⟨_, rfl⟩
  obtain ⟨W2, hW2⟩ : ∃ W, W = w1.alloc (Obj.cells #[Value.int .i64 b, .slice an rows.length cn, .slice ao out.length co] 27) := ⟨_, rfl⟩
  have HQ := Lib.hid (show w.heap.size + 1 ≤ q ∧ q < W2.heap.size ∧ W2.heap.size = q + 1 from by rw [hW2, size_alloc', hq]; omega)
  have HN := Lib.hid (show c < w.heap.size ∧ W.heap.size ≤ c from ⟨hcw, hown⟩)
  rw [← hW2] at hv2 hg2 hs2 hz2 hx2
  rw [← hq] at hx2 hv2
  clear hok hv g1 c1 HG1 HS1 HZ1 hcw hown hw1
  have HS2 := Lib.hid hs2
  clear hs2
  go_wp2_with fail
  rw [← hW2, ← hq]
  clear hW2 hq
  refine (HB.out _ 16 (by decide) (by decide) HS2.out).mono ?_
  rintro e W3 ⟨x, ⟨hx0, hx1⟩, rfl, g3, c3⟩
  have HV3 := Lib.hid (own_moved hv2 g3 (by have := HN.out; omega))
  have HG3 := Lib.hid (grown_more hg2 g3 (fun k hk => .inl (Option.some.inj hk).symm))
  have HS3 := Lib.hid (HS2.out.next g3 c3)
  have HZ3 := Lib.hid (hz2.grown g3 (by have := HN.out; simp; omega))
  have HX3 := Lib.hid (hx2.grown g3 (by have := HN.out; have := HQ.out; simp; omega))
  have HLE := Lib.hid g3.size
  clear hv2 hg2 HS2 hz2 hx2 g3 c3
  have HLO : Hid (w.heap.size + 1 ≤ w.heap.size + 1) := Nat.le_refl _
  have hcw : c < w.heap.size := HN.out.1
  have hown : W.heap.size ≤ c := HN.out.2
  have hlt3 := HS3.out.lt
  by_cases h0 : x = 0
  · subst h0
    clear hx0 hx1
    have HL := Lib.hid (list_lit W3 nums16a 3 nums16a_ok)
    have HPI := Lib.hid (HP.out _ W3.heap.size 4 (by decide) (by decide) (by omega) (by simp) HL.out (HS3.out.alloc _))
    go_wp2_with fail
    refine HPI.out.mono ?_
    rintro e W4 ⟨y, hy, rfl, g4, c4⟩
    have G4 := Lib.hid (grown_alloc g4)
    have HS4 := Lib.hid ((HS3.out.alloc _).next g4 c4)
    have HV4 := Lib.hid (own_moved HV3.out G4.out (by have := HN.out; omega))
    have HG4 := Lib.hid (grown_more HG3.out G4.out (fun k hk => .inl (Option.some.inj hk).symm))
    have HZ4 := Lib.hid (HZ3.out.grown G4.out (by have := HN.out; simp; omega))
    have HX4 := Lib.hid (HX3.out.grown G4.out (by have := HN.out; have := HQ.out; simp; omega))
    have HLE4 := Lib.hid (Nat.le_trans HLE.out G4.out.size)
    clear HV3 HG3 HZ3 HX3 g4 c4
    have hx4 := HX4.out.set0 (.int .i64 y)
    have HX5 := Lib.hid hx4
    have HZ5 := Lib.hid (HZ4.out.other (a := ⟨q, 0, none⟩) (by have := HQ.out; show q ≠ _; omega) (.int .i64 y))
    have HG5 : Hid (w.grownBy (W4.setCell ⟨q, 0, none⟩ (.int .i64 y)) (some c)) := grown_set HG4.out (by have := HQ.out; omega) _
    have HS5 : Hid (Stands W (W4.setCell ⟨q, 0, none⟩ (.int .i64 y)) c a len cap) := HS4.out.other (Cursor.grown_setCell W4 q 0 _) (fun k hk => by cases hk; have := HQ.out; omega)
    have hT : Plain.Touch q (q + 1) W4 (W4.setCell ⟨q, 0, none⟩ (.int .i64 y)) := Plain.Touch.of_set _ (by show q ≤ q; exact Nat.le_refl _) (by show q < q + 1; omega)
    have HV5 := Lib.hid (own_based (b' := y) (own_within (hi' := (W4.setCell ⟨q, 0, none⟩ (.int .i64 y)).heap.size) (HV4.out.touch hT (.inl (Nat.le_refl _))) (by rw [size_setCell']; have := HLE4.out; have := HQ.out; omega) (Nat.le_refl _)))
    have x3 := HX4.out.f
    have x4 := HX4.out.c0
    have x0 := HX5.out.c0
    have x1 := HX5.out.c1
    have x2 := HX5.out.c2
    clear hT hx4 hy HV4 HX4 HZ4 HG4 HS4 HPI HL HS3
    have z0 := HZ5.out.c0
    have z1 := HZ5.out.c1
    have z2 := HZ5.out.c2
    have z3 := HZ5.out.f
    go_wp2
    have hZ3 := (((HZ5.out.set0 (.int .i64 y)).set1 (.slice an rows.length cn)).set2 (.slice ao out.length co))
    have n0 := hZ3.c0
    have n1 := hZ3.c1
    have n2 := hZ3.c2
    have hcc : w.heap.size ≠ c := by omega
    have hcW : W.heap.size ≤ w.heap.size := by omega
    refine bodyPost_ret (v := .agg #[.int .i64 y, .slice an rows.length cn, .slice ao out.length co]) (by simp [results, Try.results23, go_sem, n0, n1, n2]) rfl ⟨_, y, _, _, HOK.out, rfl, ?_, ?_, ?_⟩
    · have T0 : Plain.Touch w.heap.size (w.heap.size + 1) (W4.setCell ⟨q, 0, none⟩ (.int .i64 y)) ((((W4.setCell ⟨q, 0, none⟩ (.int .i64 y)).setCell ⟨w.heap.size, 0, none⟩ (.int .i64 y)).setCell ⟨w.heap.size, 1, none⟩ (.slice an rows.length cn)).setCell ⟨w.heap.size, 2, none⟩ (.slice ao out.length co)) :=
        ((Plain.Touch.of_set _ (by show w.heap.size ≤ w.heap.size; exact Nat.le_refl _) (by show w.heap.size < w.heap.size + 1; omega)).trans (Plain.Touch.of_set _ (by show w.heap.size ≤ w.heap.size; exact Nat.le_refl _) (by show w.heap.size < w.heap.size + 1; omega))).trans (Plain.Touch.of_set _ (by show w.heap.size ≤ w.heap.size; exact Nat.le_refl _) (by show w.heap.size < w.heap.size + 1; omega))
      have := (HV5.out.touch T0 (.inr HLO.out)).lower (Nat.le_trans (Nat.le_succ _) HLO.out)
      simpa only [size_setCell'] using this
    · exact grown_set (grown_set (grown_set HG5.out (Nat.le_refl _) _) (Nat.le_refl _) _) (Nat.le_refl _) _
    · exact (((HS5.out.other (Cursor.grown_setCell _ w.heap.size 0 _) (fun k hk => by cases hk; exact ⟨hcc, hcW⟩)).other (Cursor.grown_setCell _ w.heap.size 1 _) (fun k hk => by cases hk; exact ⟨hcc, hcW⟩)).other (Cursor.grown_setCell _ w.heap.size 2 _) (fun k hk => by cases hk; exact ⟨hcc, hcW⟩)).cur
  have e0 : (x == 0) = false := by simpa using h0
  by_cases h1 : x = 1
  · subst h1
    clear hx0 hx1 h0 e0
    have HL := Lib.hid (list_lit W3.drew nums16b 3 nums16b_ok)
    have HPI := Lib.hid (HP.out _ W3.heap.size 2 (by decide) (by decide) (by omega) (by show _ < (W3.drew.alloc _).heap.size; rw [size_alloc']; exact Nat.lt_succ_self _) HL.out (HS3.out.drew.alloc _))
    have h0o : 0 < out.length := by have := HOK.out; unfold SeqOk at this; omega
    obtain ⟨g, hgo, hgl, hgh, _, _, _⟩ := own_out0 HV3.out h0o
    subst hgo
    have d1 := HX3.out.c2
    have d2 := (HX3.out.alloc (.cells (nums16b.map (Value.int .i64)).toArray 3)).c2
    have hq3 := HX3.out.lt
    go_wp2_with fail
    go_region_law (first
      | (go_simp; go_at_call 46; (refine HPI.out.mono ?_); rintro e W4 ⟨y, hy, rfl, g4, c4⟩; have G4 := Lib.hid (Plain.grown_drew (grown_alloc g4)); have HX4 := Lib.hid (HX3.out.grown G4.out (by have := HN.out; have := HQ.out; simp; omega)); have d3 := HX4.out.c2; have HV4 := Lib.hid (own_moved HV3.out G4.out (Nat.lt_succ_of_lt hcw)); obtain ⟨g2, hg2, _, _, hf2, ⟨yy, hy2⟩, hw2⟩ := own_out0 HV4.out h0o; obtain rfl : g = g2 := (Option.some.inj hg2 |> fun e => congrArg Addr.block e)))
    all_goals
      have HV5' := Lib.hid (hw2 y)
      have HS4 := Lib.hid ((HS3.out.drew.alloc (.cells (nums16b.map (Value.int .i64)).toArray 3)).next g4 c4)
      have HG4 := Lib.hid (grown_more HG3.out G4.out (fun k hk => .inl (Option.some.inj hk).symm))
      have HZ4 := Lib.hid (HZ3.out.grown G4.out (by simp; omega))
      have HLE4 := Lib.hid (Nat.le_trans HLE.out G4.out.size)
      have HX5 := Lib.hid (HX4.out.other (a := ⟨g, 0, none⟩) (by show g ≠ q; omega) (.int .i64 y))
      have HZ5 := Lib.hid (HZ4.out.other (a := ⟨g, 0, none⟩) (by show g ≠ _; omega) (.int .i64 y))
      have HG5 : Hid (w.grownBy (W4.setCell ⟨g, 0, none⟩ (.int .i64 y)) (some c)) := grown_set HG4.out (by omega) _
      have HS5 : Hid (Stands W (W4.setCell ⟨g, 0, none⟩ (.int .i64 y)) c a len cap) := HS4.out.other (Cursor.grown_setCell W4 g 0 _) (fun k hk => by cases hk; omega)
      have HV5 := Lib.hid (own_within (hi' := (W4.setCell ⟨g, 0, none⟩ (.int .i64 y)).heap.size) HV5'.out (by rw [size_setCell']; have := HLE4.out; have := HQ.out; omega) (Nat.le_refl _))
      have HOK2 : Hid (SeqOk rows (out.set 0 y)) := ⟨HOK.out.1, HOK.out.2.1, by rw [List.length_set]; exact HOK.out.2.2.1, HOK.out.2.2.2⟩
      have x0 := HX5.out.c0
      have x1 := HX5.out.c1
      have x2 := HX5.out.c2
      clear hw2 hg2 hf2 hy2 hy d1 d2 d3 g4 c4 G4 HV4 HX4 HZ4 HG4 HS4 HPI HL HS3 HX3 HZ3 HG3 HV3 HV5' hq3
      have z0 := HZ5.out.c0
      have z1 := HZ5.out.c1
      have z2 := HZ5.out.c2
      have z3 := HZ5.out.f
      go_wp2
      have hZ3 := (((HZ5.out.set0 (.int .i64 b)).set1 (.slice an rows.length cn)).set2 (.slice (some ⟨g, 0, none⟩) out.length co))
      have n0 := hZ3.c0
      have n1 := hZ3.c1
      have n2 := hZ3.c2
      have hcc : w.heap.size ≠ c := by omega
      have hcW : W.heap.size ≤ w.heap.size := by omega
      refine bodyPost_ret (v := .agg #[.int .i64 b, .slice an rows.length cn, .slice (some ⟨g, 0, none⟩) out.length co]) (by simp [results, Try.results23, go_sem, n0, n1, n2]) rfl ⟨_, b, _, _, HOK2.out, rfl, ?_, ?_, ?_⟩
      · have T0 : Plain.Touch w.heap.size (w.heap.size + 1) (W4.setCell ⟨g, 0, none⟩ (.int .i64 y)) ((((W4.setCell ⟨g, 0, none⟩ (.int .i64 y)).setCell ⟨w.heap.size, 0, none⟩ (.int .i64 b)).setCell ⟨w.heap.size, 1, none⟩ (.slice an rows.length cn)).setCell ⟨w.heap.size, 2, none⟩ (.slice (some ⟨g, 0, none⟩) out.length co)) :=
          ((Plain.Touch.of_set _ (by show w.heap.size ≤ w.heap.size; exact Nat.le_refl _) (by show w.heap.size < w.heap.size + 1; omega)).trans (Plain.Touch.of_set _ (by show w.heap.size ≤ w.heap.size; exact Nat.le_refl _) (by show w.heap.size < w.heap.size + 1; omega))).trans (Plain.Touch.of_set _ (by show w.heap.size ≤ w.heap.size; exact Nat.le_refl _) (by show w.heap.size < w.heap.size + 1; omega))
        have := (HV5.out.touch T0 (.inr HLO.out)).lower (Nat.le_trans (Nat.le_succ _) HLO.out)
        simpa only [size_setCell'] using this
      · exact grown_set (grown_set (grown_set HG5.out (Nat.le_refl _) _) (Nat.le_refl _) _) (Nat.le_refl _) _
      · exact (((HS5.out.other (Cursor.grown_setCell _ w.heap.size 0 _) (fun k hk => by cases hk; exact ⟨hcc, hcW⟩)).other (Cursor.grown_setCell _ w.heap.size 1 _) (fun k hk => by cases hk; exact ⟨hcc, hcW⟩)).other (Cursor.grown_setCell _ w.heap.size 2 _) (fun k hk => by cases hk; exact ⟨hcc, hcW⟩)).cur
  have e1 : (x == 1) = false := by simpa using h1
  by_cases h2 : x = 2
  · subst h2
    clear hx0 hx1 h0 e0 h1 e1
    have HL := Lib.hid (list_lit W3.drew nums16c 3 nums16c_ok)
    have HPI := Lib.hid (HP.out _ W3.heap.size 3 (by decide) (by decide) (by omega) (by show _ < (W3.drew.alloc _).heap.size; rw [size_alloc']; exact Nat.lt_succ_self _) HL.out (HS3.out.drew.alloc _))
    have h0o : 0 < rows.length := by have := HOK.out; unfold SeqOk at this; omega
    have HR0 := Lib.hid (fun r (hr : r ∈ rows) => (HOK.out.2.2.2 r hr).1)
    obtain ⟨tq, ts, g, m, cc, hna, y1, hm0, hgl, hgh, _, _, htl, hth, _⟩ := own_row0 HV3.out h0o HR0.out
    subst hna
    have d1 := HX3.out.c1
    have d2 := (HX3.out.alloc (.cells #[Value.int .i64 (-1), Value.int .i64 9, Value.int .i64 16] 3)).c1
    have hq3 := HX3.out.lt
    have y1a := (((Below.refl W3.heap.size W3).alloc (Nat.le_refl _) (.cells #[Value.int .i64 (-1), Value.int .i64 9, Value.int .i64 16] 3)).cell (p := ⟨tq, ts, none⟩) (by show tq < W3.heap.size; omega)).trans y1
    go_wp2_with fail
    go_region_law (first
      | (go_simp; go_at_call 46; (refine HPI.out.mono ?_); rintro e W4 ⟨y, hy, rfl, g4, c4⟩; have G4 := Lib.hid (Plain.grown_drew (grown_alloc g4)); have HX4 := Lib.hid (HX3.out.grown G4.out (by have := HN.out; have := HQ.out; simp; omega)); have d3 := HX4.out.c1; have HV4 := Lib.hid (own_moved HV3.out G4.out (Nat.lt_succ_of_lt hcw)); obtain ⟨tq2, ts2, g2, m2, cc2, hg2, y2, _, _, _, hf2, ⟨yy, hy2⟩, _, _, hw2⟩ := own_row0 HV4.out h0o HR0.out; obtain ⟨rfl, rfl, rfl, rfl, rfl⟩ := same_row hg2 (G4.out.cell y1 (by show some tq ≠ some c; simp; omega)) y2))
    all_goals
      obtain ⟨rows', hrl, hrr, hv5⟩ := hw2 y
      have HV5' := Lib.hid hv5
      have HOK2 : Hid (SeqOk rows' out) := by
        refine ⟨by rw [hrl]; exact HOK.out.1, by rw [hrl]; exact HOK.out.2.1, by rw [hrl]; exact HOK.out.2.2.1, fun r hr => ?_⟩
        obtain ⟨r0, h1, h2⟩ := hrr r hr
        rw [h2]
        exact HOK.out.2.2.2 r0 h1
      have HS4 := Lib.hid ((HS3.out.drew.alloc (.cells (nums16c.map (Value.int .i64)).toArray 3)).next g4 c4)
      have HG4 := Lib.hid (grown_more HG3.out G4.out (fun k hk => .inl (Option.some.inj hk).symm))
      have HZ4 := Lib.hid (HZ3.out.grown G4.out (by simp; omega))
      have HLE4 := Lib.hid (Nat.le_trans HLE.out G4.out.size)
      have HX5 := Lib.hid (HX4.out.other (a := ⟨g, 0, none⟩) (by show g ≠ q; omega) (.int .i64 y))
      have HZ5 := Lib.hid (HZ4.out.other (a := ⟨g, 0, none⟩) (by show g ≠ _; omega) (.int .i64 y))
      have HG5 : Hid (w.grownBy (W4.setCell ⟨g, 0, none⟩ (.int .i64 y)) (some c)) := grown_set HG4.out (by omega) _
      have HS5 : Hid (Stands W (W4.setCell ⟨g, 0, none⟩ (.int .i64 y)) c a len cap) := HS4.out.other (Cursor.grown_setCell W4 g 0 _) (fun k hk => by cases hk; omega)
      have HV5 := Lib.hid (own_within (hi' := (W4.setCell ⟨g, 0, none⟩ (.int .i64 y)).heap.size) HV5'.out (by rw [size_setCell']; have := HLE4.out; have := HQ.out; omega) (Nat.le_refl _))
      have x0 := HX5.out.c0
      have x1 := HX5.out.c1
      have x2 := HX5.out.c2
      clear hw2 hg2 hf2 hy2 hy d1 d2 d3 g4 c4 G4 HV4 HX4 HZ4 HG4 HS4 HPI HL HS3 HX3 HZ3 HG3 HV3 HV5' hq3 y1 y1a y2 hv5 hrr hrl
      have z0 := HZ5.out.c0
      have z1 := HZ5.out.c1
      have z2 := HZ5.out.c2
      have z3 := HZ5.out.f
      go_wp2
      have hZ3 := (((HZ5.out.set0 (.int .i64 b)).set1 (.slice (some ⟨tq, ts, none⟩) rows.length cn)).set2 (.slice ao out.length co))
      have n0 := hZ3.c0
      have n1 := hZ3.c1
      have n2 := hZ3.c2
      have hcc : w.heap.size ≠ c := by omega
      have hcW : W.heap.size ≤ w.heap.size := by omega
      refine bodyPost_ret (v := .agg #[.int .i64 b, .slice (some ⟨tq, ts, none⟩) rows.length cn, .slice ao out.length co]) (by simp [results, Try.results23, go_sem, n0, n1, n2]) rfl ⟨_, b, _, _, HOK2.out, rfl, ?_, ?_, ?_⟩
      · have T0 : Plain.Touch w.heap.size (w.heap.size + 1) (W4.setCell ⟨g, 0, none⟩ (.int .i64 y)) ((((W4.setCell ⟨g, 0, none⟩ (.int .i64 y)).setCell ⟨w.heap.size, 0, none⟩ (.int .i64 b)).setCell ⟨w.heap.size, 1, none⟩ (.slice (some ⟨tq, ts, none⟩) rows.length cn)).setCell ⟨w.heap.size, 2, none⟩ (.slice ao out.length co)) :=
          ((Plain.Touch.of_set _ (by show w.heap.size ≤ w.heap.size; exact Nat.le_refl _) (by show w.heap.size < w.heap.size + 1; omega)).trans (Plain.Touch.of_set _ (by show w.heap.size ≤ w.heap.size; exact Nat.le_refl _) (by show w.heap.size < w.heap.size + 1; omega))).trans (Plain.Touch.of_set _ (by show w.heap.size ≤ w.heap.size; exact Nat.le_refl _) (by show w.heap.size < w.heap.size + 1; omega))
        have := (HV5.out.touch T0 (.inr HLO.out)).lower (Nat.le_trans (Nat.le_succ _) HLO.out)
        simpa only [size_setCell'] using this
      · exact grown_set (grown_set (grown_set HG5.out (Nat.le_refl _) _) (Nat.le_refl _) _) (Nat.le_refl _) _
      · exact (((HS5.out.other (Cursor.grown_setCell _ w.heap.size 0 _) (fun k hk => by cases hk; exact ⟨hcc, hcW⟩)).other (Cursor.grown_setCell _ w.heap.size 1 _) (fun k hk => by cases hk; exact ⟨hcc, hcW⟩)).other (Cursor.grown_setCell _ w.heap.size 2 _) (fun k hk => by cases hk; exact ⟨hcc, hcW⟩)).cur
  · have e2 : (x == 2) = false := by simpa using h2
    have x0 := HX3.out.c0
    have x1 := HX3.out.c1
    have x2 := HX3.out.c2
    have HV5 := Lib.hid (own_within (hi' := W3.heap.size) HV3.out (by have := HLE.out; have := HQ.out; omega) (Nat.le_refl _))
    clear HV3 HX3 h0 h1 h2
    have z0 := HZ3.out.c0
    have z1 := HZ3.out.c1
    have z2 := HZ3.out.c2
    have z3 := HZ3.out.f
    go_wp2
    have hZ3 := (((HZ3.out.set0 (.int .i64 b)).set1 (.slice an rows.length cn)).set2 (.slice ao out.length co))
    have n0 := hZ3.c0
    have n1 := hZ3.c1
    have n2 := hZ3.c2
    have hcc : w.heap.size ≠ c := by omega
    have hcW : W.heap.size ≤ w.heap.size := by omega
    refine bodyPost_ret (v := .agg #[.int .i64 b, .slice an rows.length cn, .slice ao out.length co]) (by simp [results, Try.results23, go_sem, n0, n1, n2]) rfl ⟨_, b, _, _, HOK.out, rfl, ?_, ?_, ?_⟩
    · have T0 : Plain.Touch w.heap.size (w.heap.size + 1) W3 (((W3.setCell ⟨w.heap.size, 0, none⟩ (.int .i64 b)).setCell ⟨w.heap.size, 1, none⟩ (.slice an rows.length cn)).setCell ⟨w.heap.size, 2, none⟩ (.slice ao out.length co)) :=
        ((Plain.Touch.of_set _ (by show w.heap.size ≤ w.heap.size; exact Nat.le_refl _) (by show w.heap.size < w.heap.size + 1; omega)).trans (Plain.Touch.of_set _ (by show w.heap.size ≤ w.heap.size; exact Nat.le_refl _) (by show w.heap.size < w.heap.size + 1; omega))).trans (Plain.Touch.of_set _ (by show w.heap.size ≤ w.heap.size; exact Nat.le_refl _) (by show w.heap.size < w.heap.size + 1; omega))
      have := (HV5.out.touch T0 (.inr HLO.out)).lower (Nat.le_trans (Nat.le_succ _) HLO.out)
      simpa only [size_setCell'] using this
    · exact grown_set (grown_set (grown_set HG3.out (Nat.le_refl _) _) (Nat.le_refl _) _) (Nat.le_refl _) _
    · exact (((HS3.out.other (Cursor.grown_setCell _ w.heap.size 0 _) (fun k hk => by cases hk; exact ⟨hcc, hcW⟩)).other (Cursor.grown_setCell _ w.heap.size 1 _) (fun k hk => by cases hk; exact ⟨hcc, hcW⟩)).other (Cursor.grown_setCell _ w.heap.size 2 _) (fun k hk => by cases hk; exact ⟨hcc, hcW⟩)).cur
end Cursor
end Go.Proofs.Ytdgfecjakmdheaa
/- The draws of chapters 3 and 4 that hand back one sequence. No conditions beyond those that each states. -/
namespace Go.Proofs.Ytdgfecjakmdheaa
open Go.ChangeShapes Go.WideShapes Go.ChangeAt Go.RowKit
open Go.PlainAid Plain
set_option linter.unusedVariables false
namespace Cursor
open Ints Digits
def DrawnSeq (w : World) : Ending → World → Prop := SomeSeq w (fun w' => Below w.heap.size w w')
end Cursor
end Go.Proofs.Ytdgfecjakmdheaa
/- The draws of the law on kernels. No conditions beyond those that each states. -/
namespace Go.Proofs.Ytdgfecjakmdheaa
open Go.ChangeShapes Go.WideShapes Go.ChangeAt Go.RowKit
open Go.PlainAid Plain
set_option linter.unusedVariables false
namespace Cursor
open Ints Digits
set_option maxHeartbeats 1000000 in
theorem drawKernel (w : World) (a : Option Addr) (len cap : Nat) (hlen : len ≤ 1048576) (hcode : CodeIs w w.heap.size a len) :
    Calls Try.prog 5 #[.slice a len cap] w (DrawnSeq w) := by
  have hb1 : Below w.heap.size w (w.alloc (Obj.cells #[Value.int .i64 0, Value.slice none 0 0, Value.slice none 0 0] 27)) := (Below.refl _ _).alloc (Nat.le_refl _) _
  have HN := Lib.hid (new w (w.alloc (Obj.cells #[Value.int .i64 0, Value.slice none 0 0, Value.slice none 0 0] 27)) a len cap hlen hcode hb1)
  have HA := Lib.hid (fun (W : World) (c : Nat) (hs : Stands w W c a len cap) => any3 w W c a len cap hlen hcode hs)
  have HB1 := Lib.hid hb1
  have HZ1 := Lib.hid (Cells3.new w 27 (.int .i64 0) (.slice none 0 0) (.slice none 0 0))
  clear hcode hb1
  go_enter Try.func5, Try.ntmps5
  go_wp2_with fail
  refine HN.out.mono ?_
  rintro e w1 ⟨c, rfl, hc, g1, c1⟩
  rw [size_alloc'] at hc
  have HS1 : Hid (Stands w w1 c a len cap) := ⟨HB1.out.trans ((Below.refl _ _).grown g1 (Nat.le_refl _) (fun k hk => by cases hk) |>.mono HB1.out.size), by omega, c1⟩
  have HZ2 := Lib.hid (HZ1.out.grown g1 (by simp))
  have hcw : w.heap.size + 1 ≤ c := hc
  clear HN HB1 HZ1 g1 c1 hc
  go_wp2_with fail
  refine (HA.out _ _ HS1.out).mono ?_
  rintro e w4 ⟨v, b, rows, out, hok, rfl, hv, g4, c4⟩
  obtain ⟨an, cn, ao, co, rfl⟩ := hv.form
  have HOK := Lib.hid hok
  have HV := Lib.hid hv
  have HLO : Hid (w.heap.size + 1 ≤ w1.heap.size) := HZ2.out.lt
  have HS5 := Lib.hid (HS1.out.next g4 c4)
  have HBW := Lib.hid HS5.out.below
  have HZ5 := Lib.hid (HZ2.out.grown g4 (by simp; omega))
  clear HS1 HZ2 g4 c4 hok hv
  have z0 := HZ5.out.c0
  have z1 := HZ5.out.c1
  have z2 := HZ5.out.c2
  have z3 := HZ5.out.f
  go_wp2
  have hZ3 := (((HZ5.out.set0 (.int .i64 b)).set1 (.slice an rows.length cn)).set2 (.slice ao out.length co))
  have n0 := hZ3.c0
  have n1 := hZ3.c1
  have n2 := hZ3.c2
  refine bodyPost_ret (v := .agg #[.int .i64 b, .slice an rows.length cn, .slice ao out.length co]) (by simp [results, Try.results5, go_sem, n0, n1, n2]) rfl ⟨_, b, _, _, HOK.out, rfl, ?_, ?_⟩
  · have T0 : Plain.Touch w.heap.size (w.heap.size + 1) w4 (((w4.setCell ⟨w.heap.size, 0, none⟩ (.int .i64 b)).setCell ⟨w.heap.size, 1, none⟩ (.slice an rows.length cn)).setCell ⟨w.heap.size, 2, none⟩ (.slice ao out.length co)) :=
      ((Plain.Touch.of_set _ (by show w.heap.size ≤ w.heap.size; exact Nat.le_refl _) (by show w.heap.size < w.heap.size + 1; omega)).trans (Plain.Touch.of_set _ (by show w.heap.size ≤ w.heap.size; exact Nat.le_refl _) (by show w.heap.size < w.heap.size + 1; omega))).trans (Plain.Touch.of_set _ (by show w.heap.size ≤ w.heap.size; exact Nat.le_refl _) (by show w.heap.size < w.heap.size + 1; omega))
    have := (HV.out.touch T0 (.inr HLO.out)).lower (Nat.le_trans (Nat.le_succ _) HLO.out)
    simpa only [size_setCell'] using this
  · exact ((HBW.out.setCell (Nat.le_refl _) _).setCell (Nat.le_refl _) _).setCell (Nat.le_refl _) _
theorem number3 (W w : World) (p : Nat) (a : Option Addr) (len cap : Nat) (hlen : len ≤ 1048576) (hcode : CodeIs W W.heap.size a len) (hs : Stands W w p a len cap) :
    Calls Try.prog 43 #[.pointer (some ⟨p, 0, none⟩)] w (SomeInt I64 (fun w' => w.grownBy w' (some p) ∧ CurIs w' p a len cap)) := by
  have HO := Lib.hid (once W w p a len cap 10 (by decide) (by decide) hlen hcode hs)
  have HB := Lib.hid (fun (w : World) (n : Int) (hn0 : 1 ≤ n) (hn1 : n ≤ 9223372036854775807) (hs : Stands W w p a len cap) => below W w p a len cap n hn0 hn1 hlen hcode hs)
  have HP := Lib.hid (fun (w : World) (q : Nat) (hq : q ≠ p) (hqs : q < w.heap.size) (hl : ListIs w q 6) (hs : Stands W w p a len cap) => pickInt W w p a len cap q 6 6 (by decide) (by decide) hq hqs hl hlen hcode hs)
  clear hcode
  go_enter Try.func43, Try.ntmps43
  go_wp2_with fail
  refine HO.out.mono ?_
  rintro e w1 ⟨t, rfl, hg1, hc1⟩
  have hs1 := hs.next hg1 hc1
  have HG1 := Lib.hid hg1
  clear hg1 hc1
  cases t with
  | true =>
    go_wp2_with fail
    have hlt := hs1.lt
    refine (HP.out _ w1.heap.size (by omega) (by simp) (list_lit w1 nums2 _ nums2_ok) (hs1.alloc _)).mono ?_
    rintro e w2 ⟨y, hy, rfl, hg2, hc2⟩
    have HG2 := Lib.hid (grown_more HG1.out (grown_alloc hg2) (fun k hk => .inl (Option.some.inj hk).symm))
    have HC2 := Lib.hid hc2
    have HY := Lib.hid hy
    clear hy hg2 hc2
    go_wp2
    go_ret
    exact ⟨_, HY.out, rfl, HG2.out, HC2.out⟩
  | false =>
    go_wp2_with fail
    refine (HB.out w1 300 (by decide) (by decide) hs1).mono ?_
    rintro e w2 ⟨y, ⟨hy0, hy1⟩, rfl, hg2, hc2⟩
    have HG2 := Lib.hid (grown_more HG1.out hg2 (fun k hk => .inl (Option.some.inj hk).symm))
    have HC2 := Lib.hid hc2
    clear hg2 hc2
    go_wp2
    go_ret
    exact ⟨_, ⟨by omega, by omega⟩, rfl, HG2.out, HC2.out⟩
/-- A sequence and a number. -/
def SeqNum (w : World) (P : Int → Prop) (e : Ending) (w' : World) : Prop := ∃ v b rows out n, SeqOk rows out ∧ P n ∧ e = .returned (.tuple #[v, .int .i64 n]) ∧ OwnS w' w.heap.size w'.heap.size v b rows out ∧ Below w.heap.size w w'
set_option maxHeartbeats 2000000 in
theorem drawSub (w : World) (a : Option Addr) (len cap : Nat) (hlen : len ≤ 1048576) (hcode : CodeIs w w.heap.size a len) :
    Calls Try.prog 17 #[.slice a len cap] w (SeqNum w (fun n => -1 ≤ n ∧ n ≤ 3)) := by
  have hb1 : Below w.heap.size w (w.alloc (Obj.cells #[Value.int .i64 0, Value.slice none 0 0, Value.slice none 0 0] 27)) := (Below.refl _ _).alloc (Nat.le_refl _) _
  have HN := Lib.hid (new w (w.alloc (Obj.cells #[Value.int .i64 0, Value.slice none 0 0, Value.slice none 0 0] 27)) a len cap hlen hcode hb1)
  have HA := Lib.hid (fun (W : World) (c : Nat) (hs : Stands w W c a len cap) => any3 w W c a len cap hlen hcode hs)
  have HC := Lib.hid (fun (W : World) (c : Nat) (hs : Stands w W c a len cap) => below w W c a len cap 5 (by decide) (by decide) hlen hcode hs)
  have HB1 := Lib.hid hb1
  have HZ1 := Lib.hid (Cells3.new w 27 (.int .i64 0) (.slice none 0 0) (.slice none 0 0))
  clear hcode hb1
  go_enter Try.func17, Try.ntmps17
  go_wp2_with fail
  refine HN.out.mono ?_
  rintro e w1 ⟨c, rfl, hc, g1, c1⟩
  rw [size_alloc'] at hc
  have HS1 : Hid (Stands w w1 c a len cap) := ⟨HB1.out.trans ((Below.refl _ _).grown g1 (Nat.le_refl _) (fun k hk => by cases hk) |>.mono HB1.out.size), by omega, c1⟩
  have HZ2 := Lib.hid (HZ1.out.grown g1 (by simp))
  have hcw : w.heap.size + 1 ≤ c := hc
  clear HN HB1 HZ1 g1 c1 hc
  go_wp2_with fail
  refine (HA.out _ _ HS1.out).mono ?_
  rintro e w4 ⟨v, b, rows, out, hok, rfl, hv, g4, c4⟩
  obtain ⟨an, cn, ao, co, rfl⟩ := hv.form
  have HOK := Lib.hid hok
  have hlo : w.heap.size + 1 ≤ w1.heap.size := HZ2.out.lt
  have hc1 : c < w1.heap.size := HS1.out.lt
  have hs5 := (HS1.out.next g4 c4).alloc (Obj.cells #[Value.int .i64 b, .slice an rows.length cn, .slice ao out.length co] 27)
  have hz5 := (HZ2.out.grown g4 (by simp; omega)).alloc (Obj.cells #[Value.int .i64 b, .slice an rows.length cn, .slice ao out.length co] 27)
  have hv5 := (hv.below ((Below.refl w4.heap.size w4).alloc (Nat.le_refl _) (Obj.cells #[Value.int .i64 b, .slice an rows.length cn, .slice ao out.length co] 27)))
  have hx5 := Cells3.new w4 27 (.int .i64 b) (.slice an rows.length cn) (.slice ao out.length co)
  have hle : w1.heap.size ≤ w4.heap.size := g4.size
  obtain ⟨q, hq⟩ : ∃ q, q = w4.heap.size := ⟨_, rfl⟩
  obtain ⟨W5, hW5⟩ : ∃ W, W = w4.alloc (Obj.cells #[Value.int .i64 b, .slice an rows.length cn, .slice ao out.length co] 27) := ⟨_, rfl⟩
  have hsz : W5.heap.size = q + 1 := by rw [hW5, size_alloc', hq]
  rw [← hW5] at hs5 hz5 hv5 hx5
  rw [← hq] at hx5 hle hv5
  have HS5 := Lib.hid hs5
  have HZ5 := Lib.hid hz5
  have HV5 := Lib.hid hv5
  have HX5 := Lib.hid hx5
  clear hok hv g4 c4 HS1 HZ2 hs5 hz5 hv5 hx5 HA
  have HCI := Lib.hid (HC.out _ _ HS5.out.drew)
  have d0 := HX5.out.c0
  have d1 := HX5.out.c1
  have d2 := HX5.out.c2
  have y0 := HZ5.out.c0
  have y1 := HZ5.out.c1
  have y2 := HZ5.out.c2
  go_wp2_with fail
  rw [← hW5, ← hq]
  clear hW5 hq
  go_region_law (first
    | (go_simp; go_at_call 37; (refine HCI.out.mono ?_); rintro e W6 ⟨y, hy, rfl, g6, c6⟩; have G6 := Lib.hid (Plain.grown_drew g6); have HX6 := Lib.hid (HX5.out.grown G6.out (by simp; omega)); have HZ6 := Lib.hid (HZ5.out.grown G6.out (by simp; omega)); have e0 := HX6.out.c0; have e1 := HX6.out.c1; have e2 := HX6.out.c2; have z0 := HZ6.out.c0; have z1 := HZ6.out.c1; have z2 := HZ6.out.c2; have z3 := HZ6.out.f))
  all_goals
    obtain ⟨hy0, hy1⟩ := hy
    have hwr : IntKind.i64.wrap (y - 1) = y - 1 := by rw [IntKind.wrap_i64]; omega
    clear d0 d1 d2 y0 y1 y2 e0 e1 e2
    have hbw := (HS5.out.drew.next g6 c6).below
    have hv6 := own_moved HV5.out G6.out hc1
    go_wp2
    have hZ7 := (((HZ6.out.set0 (.int .i64 b)).set1 (.slice an rows.length cn)).set2 (.slice ao out.length co))
    have n0 := hZ7.c0
    have n1 := hZ7.c1
    have n2 := hZ7.c2
    refine bodyPost_ret (v := .tuple #[.agg #[.int .i64 b, .slice an rows.length cn, .slice ao out.length co], .int .i64 (y - 1)]) (by simp [results, Try.results17, go_sem, n0, n1, n2, hwr]) rfl ⟨_, b, _, _, _, HOK.out, ⟨by omega, by omega⟩, rfl, ?_, ?_⟩
    · have T0 : Plain.Touch w.heap.size (w.heap.size + 1) W6 (((W6.setCell ⟨w.heap.size, 0, none⟩ (.int .i64 b)).setCell ⟨w.heap.size, 1, none⟩ (.slice an rows.length cn)).setCell ⟨w.heap.size, 2, none⟩ (.slice ao out.length co)) :=
        ((Plain.Touch.of_set _ (by show w.heap.size ≤ w.heap.size; exact Nat.le_refl _) (by show w.heap.size < w.heap.size + 1; omega)).trans (Plain.Touch.of_set _ (by show w.heap.size ≤ w.heap.size; exact Nat.le_refl _) (by show w.heap.size < w.heap.size + 1; omega))).trans (Plain.Touch.of_set _ (by show w.heap.size ≤ w.heap.size; exact Nat.le_refl _) (by show w.heap.size < w.heap.size + 1; omega))
      have h9 := G6.out.size
      exact (own_within (hv6.touch T0 (.inr hlo)) (by simp only [size_setCell']; omega) (Nat.le_refl _)).lower (by omega)
    · exact ((hbw.setCell (Nat.le_refl _) _).setCell (Nat.le_refl _) _).setCell (Nat.le_refl _) _
set_option maxHeartbeats 2000000 in
theorem drawLeast (w : World) (a : Option Addr) (len cap : Nat) (hlen : len ≤ 1048576) (hcode : CodeIs w w.heap.size a len) :
    Calls Try.prog 21 #[.slice a len cap] w (SeqNum w I64) := by
  have hb1 : Below w.heap.size w (w.alloc (Obj.cells #[Value.int .i64 0, Value.slice none 0 0, Value.slice none 0 0] 27)) := (Below.refl _ _).alloc (Nat.le_refl _) _
  have HN := Lib.hid (new w (w.alloc (Obj.cells #[Value.int .i64 0, Value.slice none 0 0, Value.slice none 0 0] 27)) a len cap hlen hcode hb1)
  have HA := Lib.hid (fun (W : World) (c : Nat) (hs : Stands w W c a len cap) => any3 w W c a len cap hlen hcode hs)
  have HC := Lib.hid (fun (W : World) (c : Nat) (hs : Stands w W c a len cap) => number3 w W c a len cap hlen hcode hs)
  have HB1 := Lib.hid hb1
  have HZ1 := Lib.hid (Cells3.new w 27 (.int .i64 0) (.slice none 0 0) (.slice none 0 0))
  clear hcode hb1
  go_enter Try.func21, Try.ntmps21
  go_wp2_with fail
  refine HN.out.mono ?_
  rintro e w1 ⟨c, rfl, hc, g1, c1⟩
  rw [size_alloc'] at hc
  have HS1 : Hid (Stands w w1 c a len cap) := ⟨HB1.out.trans ((Below.refl _ _).grown g1 (Nat.le_refl _) (fun k hk => by cases hk) |>.mono HB1.out.size), by omega, c1⟩
  have HZ2 := Lib.hid (HZ1.out.grown g1 (by simp))
  have hcw : w.heap.size + 1 ≤ c := hc
  clear HN HB1 HZ1 g1 c1 hc
  go_wp2_with fail
  refine (HA.out _ _ HS1.out).mono ?_
  rintro e w4 ⟨v, b, rows, out, hok, rfl, hv, g4, c4⟩
  obtain ⟨an, cn, ao, co, rfl⟩ := hv.form
  have HOK := Lib.hid hok
  have hlo : w.heap.size + 1 ≤ w1.heap.size := HZ2.out.lt
  have hc1 : c < w1.heap.size := HS1.out.lt
  have hs5 := (HS1.out.next g4 c4).alloc (Obj.cells #[Value.int .i64 b, .slice an rows.length cn, .slice ao out.length co] 27)
  have hz5 := (HZ2.out.grown g4 (by simp; omega)).alloc (Obj.cells #[Value.int .i64 b, .slice an rows.length cn, .slice ao out.length co] 27)
  have hv5 := (hv.below ((Below.refl w4.heap.size w4).alloc (Nat.le_refl _) (Obj.cells #[Value.int .i64 b, .slice an rows.length cn, .slice ao out.length co] 27)))
  have hx5 := Cells3.new w4 27 (.int .i64 b) (.slice an rows.length cn) (.slice ao out.length co)
  have hle : w1.heap.size ≤ w4.heap.size := g4.size
  obtain ⟨q, hq⟩ : ∃ q, q = w4.heap.size := ⟨_, rfl⟩
  obtain ⟨W5, hW5⟩ : ∃ W, W = w4.alloc (Obj.cells #[Value.int .i64 b, .slice an rows.length cn, .slice ao out.length co] 27) := ⟨_, rfl⟩
  have hsz : W5.heap.size = q + 1 := by rw [hW5, size_alloc', hq]
  rw [← hW5] at hs5 hz5 hv5 hx5
  rw [← hq] at hx5 hle hv5
  have HS5 := Lib.hid hs5
  have HZ5 := Lib.hid hz5
  have HV5 := Lib.hid hv5
  have HX5 := Lib.hid hx5
  clear hok hv g4 c4 HS1 HZ2 hs5 hz5 hv5 hx5 HA
  have HCI := Lib.hid (HC.out _ _ HS5.out.drew)
  have d0 := HX5.out.c0
  have d1 := HX5.out.c1
  have d2 := HX5.out.c2
  have y0 := HZ5.out.c0
  have y1 := HZ5.out.c1
  have y2 := HZ5.out.c2
  go_wp2_with fail
  rw [← hW5, ← hq]
  clear hW5 hq
  go_region_law (first
    | (go_simp; go_at_call 43; (refine HCI.out.mono ?_); rintro e W6 ⟨y, hy, rfl, g6, c6⟩; have G6 := Lib.hid (Plain.grown_drew g6); have HX6 := Lib.hid (HX5.out.grown G6.out (by simp; omega)); have HZ6 := Lib.hid (HZ5.out.grown G6.out (by simp; omega)); have e0 := HX6.out.c0; have e1 := HX6.out.c1; have e2 := HX6.out.c2; have z0 := HZ6.out.c0; have z1 := HZ6.out.c1; have z2 := HZ6.out.c2; have z3 := HZ6.out.f))
  all_goals
    have HY := Lib.hid hy
    clear d0 d1 d2 y0 y1 y2 e0 e1 e2
    have hbw := (HS5.out.drew.next g6 c6).below
    have hv6 := own_moved HV5.out G6.out hc1
    go_wp2
    have hZ7 := (((HZ6.out.set0 (.int .i64 b)).set1 (.slice an rows.length cn)).set2 (.slice ao out.length co))
    have n0 := hZ7.c0
    have n1 := hZ7.c1
    have n2 := hZ7.c2
    refine bodyPost_ret (v := .tuple #[.agg #[.int .i64 b, .slice an rows.length cn, .slice ao out.length co], .int .i64 (y)]) (by simp [results, Try.results21, go_sem, n0, n1, n2]) rfl ⟨_, b, _, _, _, HOK.out, HY.out, rfl, ?_, ?_⟩
    · have T0 : Plain.Touch w.heap.size (w.heap.size + 1) W6 (((W6.setCell ⟨w.heap.size, 0, none⟩ (.int .i64 b)).setCell ⟨w.heap.size, 1, none⟩ (.slice an rows.length cn)).setCell ⟨w.heap.size, 2, none⟩ (.slice ao out.length co)) :=
        ((Plain.Touch.of_set _ (by show w.heap.size ≤ w.heap.size; exact Nat.le_refl _) (by show w.heap.size < w.heap.size + 1; omega)).trans (Plain.Touch.of_set _ (by show w.heap.size ≤ w.heap.size; exact Nat.le_refl _) (by show w.heap.size < w.heap.size + 1; omega))).trans (Plain.Touch.of_set _ (by show w.heap.size ≤ w.heap.size; exact Nat.le_refl _) (by show w.heap.size < w.heap.size + 1; omega))
      have h9 := G6.out.size
      exact (own_within (hv6.touch T0 (.inr hlo)) (by simp only [size_setCell']; omega) (Nat.le_refl _)).lower (by omega)
    · exact ((hbw.setCell (Nat.le_refl _) _).setCell (Nat.le_refl _) _).setCell (Nat.le_refl _) _
/-- The laws' at: some byte. -/
theorem at_byte (w : World) (a : Option Addr) (len cap : Nat) (i : Nat) (hi : i < 100) (hlen : len ≤ 1048576) (hcode : CodeIs w w.heap.size a len) :
    Calls Try.prog 13 #[.slice a len cap, .int .i64 i] w fun e w' => (∃ x : Int, (0 ≤ x ∧ x ≤ 255) ∧ e = .returned (.int .i64 x)) ∧ w = w' := by
  by_cases h : i < len
  · obtain ⟨x, b, off, hx0, hx1, rfl, hcell⟩ : ∃ x : Int, ∃ b off, 0 ≤ x ∧ x ≤ 255 ∧ a = some ⟨b, off, none⟩ ∧ w.cell? ⟨b, off + i, none⟩ = some (.int .u8 x) := by
      rcases hcode with h0 | ⟨b, off, h1, _, h2⟩
      · omega
      · obtain ⟨x, hx0, hx1, hc⟩ := h2 i h
        exact ⟨x, b, off, hx0, hx1, h1, hc⟩
    have hlt : (i : Int) < (len : Int) := by omega
    have h0 : (0 : Int) ≤ (i : Int) := by omega
    have hd := decide_eq_true hlt
    go_enter Try.func13, Try.ntmps13
    go_wp2
    go_ret
    exact ⟨⟨x, ⟨hx0, hx1⟩, by go_num⟩, rfl⟩
  · have hd := decide_eq_false (show ¬ (i : Int) < (len : Int) by omega)
    go_enter Try.func13, Try.ntmps13
    go_wp2
    go_ret
    exact ⟨⟨((i : Int) * 37 + (len : Int) * 11) % 256, ⟨by omega, by omega⟩, by simp⟩, rfl⟩
end Cursor
end Go.Proofs.Ytdgfecjakmdheaa
/- Plain facts on the search for a kernel: no sequence stands twice, and where a sequence was found to stand it stands in the end, and there only. No conditions beyond those that each fact states. -/
namespace Go.Proofs.Ytdgfecjakmdheaa
open Plain
set_option linter.unusedVariables false
namespace Kern
open Seqs Mins
theorem addQ_nodup {F : List Sq} {y : Sq} (h : F.Nodup) : (addQ F y).Nodup := by
  unfold addQ
  split
  · exact h
  · rename_i hn
    refine List.nodup_append.2 ⟨h, by simp, fun x hx z hz e => hn ?_⟩
    rw [List.mem_singleton.1 hz] at e
    subst e
    exact List.any_eq_true.2 ⟨x, hx, Sq.same_iff.2 rfl⟩
theorem kF_nodup (m : Sq) (b : Nat) : ∀ n, (kF m b n).Nodup
  | 0 => by show [m].Nodup; simp
  | n + 1 => by
    have ih := kF_nodup m b n
    cases hg : (kF m b n)[n / b]? with
    | none => rw [kF_stay (List.getElem?_eq_none_iff.1 hg)]; exact ih
    | some g => rw [kF_step hg]; exact addQ_nodup ih
theorem addQ_at (F : List Sq) (y : Sq) : (addQ F y)[atQ F y]? = some y := by
  by_cases h : atQ F y < F.length
  · obtain ⟨h1, f, h2, rfl⟩ := addQ_old h
    rw [h1]; exact h2
  · obtain ⟨h1, h2⟩ := addQ_new h
    rw [h1, h2, List.getElem?_append_right (Nat.le_refl _), Nat.sub_self]
    rfl
/-- In what is found in the end a sequence stands where it was found to stand. -/
theorem at_end {m : Sq} {bn i r k : Nat} {f : Sq} (hr : r < bn) (hf : (kF m bn (bn * i + r))[i]? = some f) (hk : bn * i + (r + 1) ≤ k) : (kF m bn k)[atQ (kF m bn (bn * i + r)) (sub f (r : Int))]? = some (sub f (r : Int)) := by
  refine kF_get hk ?_
  rw [kF_next hr hf]
  exact addQ_at _ _
theorem at_only {L : List Sq} (h : L.Nodup) {p k : Nat} {x y : Sq} (hp : L[p]? = some y) (hk : L[k]? = some x) : x.same y = true ↔ k = p := by
  rw [Sq.same_iff]
  constructor
  · rintro rfl
    obtain ⟨h1, h2⟩ := List.getElem?_eq_some_iff.1 hp
    obtain ⟨h3, h4⟩ := List.getElem?_eq_some_iff.1 hk
    exact (List.getElem_inj h).1 (h4.trans h2.symm)
  · rintro rfl
    exact Option.some.inj (hk.symm.trans hp)
end Kern
end Go.Proofs.Ytdgfecjakmdheaa
/- Plain facts on the rows of a kernel: each digit leads from each sequence that is found to one place alone. No conditions beyond those that each fact states. -/
namespace Go.Proofs.Ytdgfecjakmdheaa
open Plain
set_option linter.unusedVariables false
namespace Kern
open Seqs Mins
theorem kF_stuck {m : Sq} {b n : Nat} (hb : 0 < b) (h : (kF m b n).length ≤ n / b) : ∀ j, kF m b (n + j) = kF m b n
  | 0 => rfl
  | j + 1 => by
    have ih := kF_stuck hb h j
    rw [← Nat.add_assoc, kF_stay, ih]
    rw [ih]
    exact Nat.le_trans h (Nat.div_le_div_right (by omega))
theorem kF_early {m : Sq} {b n i : Nat} (hb : 0 < b) (hi : i < (kF m b n).length) (hn : b * i ≤ n) : i < (kF m b (b * i)).length := by
  rcases Nat.lt_or_ge i (kF m b (b * i)).length with h | h
  · exact h
  · have h1 := kF_stuck (m := m) (n := b * i) hb (by rw [Nat.mul_div_cancel_left i hb]; exact h) (n - b * i)
    rw [show b * i + (n - b * i) = n from by omega] at h1
    rw [h1] at hi
    omega
/-- From each sequence each digit leads to one place. -/
theorem ker_at {m : Sq} {bn i r : Nat} {f : Sq} (hb : 0 < bn) (h16 : (kerL m bn).length ≤ 40) (hf : (kerL m bn)[i]? = some f) (hr : r < bn) :
    ∃ pa : Nat, (kerL m bn)[pa]? = some (sub f (r : Int)) ∧ kRow m bn i (r + 1) = kRow m bn i r ++ [(pa : Int)] := by
  have hil := (List.getElem?_eq_some_iff.1 hf).1
  have h1 : bn * i ≤ bn * 40 := Nat.mul_le_mul_left _ (by omega)
  have h2 : bn * (i + 1) ≤ bn * 41 := Nat.mul_le_mul_left _ (by omega)
  have he := kF_early (m := m) (n := 41 * bn) hb hil (by omega)
  obtain ⟨f0, hf0⟩ : ∃ f0, (kF m bn (bn * i))[i]? = some f0 := ⟨_, List.getElem?_eq_getElem he⟩
  have hfe : f0 = f := by
    have h3 := kF_get (k := 41 * bn) (by omega) hf0
    exact Option.some.inj (h3.symm.trans hf)
  subst hfe
  have hat : fAt m bn i = f0 := by rw [fAt, List.getD_eq_getElem?_getD, hf0]; rfl
  have h4 := at_end (m := m) (k := 41 * bn) hr (kF_get (k := bn * i + r) (by omega) hf0) (by rw [Nat.mul_add] at h2; omega)
  refine ⟨atQ (kF m bn (bn * i + r)) (sub f0 (r : Int)), h4, ?_⟩
  rw [kRow_succ, hat]
theorem ker_nodup (m : Sq) (b : Nat) : (kerL m b).Nodup := kF_nodup m b _
end Kern
end Go.Proofs.Ytdgfecjakmdheaa
/- Contract of the program's searchedKernel. No conditions beyond those that it states. -/
namespace Go.Proofs.Ytdgfecjakmdheaa
open Go.ChangeShapes Go.WideShapes Go.ChangeAt Go.RowKit
open Go.PlainAid Plain Go.Conc
set_option linter.unusedVariables false
namespace Kern
open Seqs Mins
theorem infoRk : (Try.prog.info? 25).map (fun i => (i.zero, i.size, i.bytes)) = some (some (.slice none 0 0), 1, 24) := by kernel_rfl
theorem infoSq : ∃ i, Try.prog.info? 27 = some i ∧ i.bytes = 56 := by
  have h : (Try.prog.info? 27).map (·.bytes) = some 56 := by kernel_rfl
  obtain ⟨i, hi, hb⟩ := Option.map_eq_some_iff.1 h
  exact ⟨i, hi, hb⟩
theorem mk40 (w : World) : (Instr.makeChan 63 (.int .i64 40)).run Try.prog w = .ok (.chan (some w.heap.size)) (w.alloc (.chan 40 #[] false 0 0 false)) := by
  obtain ⟨i, hi, hb⟩ := infoSq
  simpa using run_makeChan (P := Try.prog) (w := w) Try.underlying63 hi .i64 40 (by omega) (by rw [hb]; omega)
/-- A kernel of the call's own, and whether there is one. -/
def GivesKS (L : List Sq) (R : List (List Int)) (k : Bool) (w : World) (en : Ending) (w' : World) : Prop := ∃ vf vn E, en = .returned (.tuple #[.agg #[vf, vn], .bool k]) ∧ OwnQ w' w.heap.size vf (E.map El.q) ∧ Elems w' w.heap.size E ∧ E.map El.s = L ∧ (∃ lo hi, w.heap.size ≤ lo ∧ HasRows w' lo hi vn R) ∧ Below w.heap.size w w'
def kerR (b : Int) (rows : List (List Int)) (out : List Int) : List (List Int) := if kerK b rows out = true then kRows (mini b rows out) b.toNat (kerV b rows out).length else []
set_option maxRecDepth 100000 in
set_option maxHeartbeats 2000000 in
theorem impl_ker_no (v : Value) (b : Int) (rows : List (List Int)) (out : List Int) (w : World) (h : LiesS w v b rows out) (hs : rows.length + tot rows + out.length ≤ 1048576) (hk : formK b rows out = false) :
    Calls Try.prog 25 #[v] w (GivesKS [] [] false w) := by
  have HS := Lib.hid h
  obtain ⟨an, cn, ao, co, rfl⟩ := h.form
  clear h
  have HB : Hid (Below w.heap.size w (w.alloc (Obj.cells #[Value.int .i64 b, Value.slice an rows.length cn, Value.slice ao out.length co] 27))) := (Below.refl _ _).alloc (Nat.le_refl _) _
  have HC := Lib.hid (Cells3.new w 27 (.int .i64 b) (.slice an rows.length cn) (.slice ao out.length co))
  have HB0 : Hid (Below w.heap.size w ((w.alloc (Obj.cells #[Value.int .i64 b, Value.slice an rows.length cn, Value.slice ao out.length co] 27)).alloc (Obj.cells #[Value.slice none 0 0, Value.slice none 0 0] 46))) := HB.out.alloc (by simp only [size_alloc'] <;> omega) _
  have HC0 := Lib.hid (HC.out.alloc (Obj.cells #[Value.slice none 0 0, Value.slice none 0 0] 46))
  have hr := CellsN.new (w.alloc (Obj.cells #[Value.int .i64 b, Value.slice an rows.length cn, Value.slice ao out.length co] 27)) 46 [.slice none 0 0, .slice none 0 0]
  rw [size_alloc'] at hr
  have HR0 := Lib.hid hr
  have HCF : Hid (Calls Try.prog 39 #[.agg #[.int .i64 b, .slice an rows.length cn, .slice ao out.length co]] ((w.alloc (Obj.cells #[Value.int .i64 b, Value.slice an rows.length cn, Value.slice ao out.length co] 27)).alloc (Obj.cells #[Value.slice none 0 0, Value.slice none 0 0] 46)) (GivesK (formB b rows out) (minRV b rows out) (minOV b rows out) false ((w.alloc (Obj.cells #[Value.int .i64 b, Value.slice an rows.length cn, Value.slice ao out.length co] 27)).alloc (Obj.cells #[Value.slice none 0 0, Value.slice none 0 0] 46)))) := by
    have h1 := impl_min _ b rows out _ (HS.out.below HB0.out) hs
    rw [hk] at h1
    exact h1
  have k0 := HC0.out.c0
  have k1 := HC0.out.c1
  have k2 := HC0.out.c2
  clear hr hs hk HB HC
  go_enter Try.func25, Try.ntmps25
  go_wp2_with fail
  refine HCF.out.mono ?_
  rintro e W1 ⟨v1, rfl, hv1, b1⟩
  obtain ⟨a1, c1, a2, c2, rfl⟩ := hv1.form
  have HB1 := Lib.hid (HB0.out.trans (b1.mono HB0.out.size))
  have HR1 := Lib.hid (HR0.out.below b1)
  clear hv1 b1 k0 k1 k2
  have hbx : ∀ o, Below W1.heap.size W1 (W1.alloc o) := fun o => (Below.refl _ _).alloc (Nat.le_refl _) _
  have HX := Lib.hid (HR1.out.below (hbx (.cells #[.int .i64 (formB b rows out), .slice a1 (minRV b rows out).length c1, .slice a2 (minOV b rows out).length c2] 27)))
  have HBX := Lib.hid (HB1.out.trans ((hbx (.cells #[.int .i64 (formB b rows out), .slice a1 (minRV b rows out).length c1, .slice a2 (minOV b rows out).length c2] 27)).mono HB1.out.size))
  have z0 := HX.out.at_ (i := 0) rfl
  have z1 := HX.out.at_ (i := 1) rfl
  have z2 := HX.out.f
  go_wp2
  have hZ := (HX.out.set 0 (.slice none 0 0)).set 1 (.slice none 0 0)
  have n0 := hZ.at_ (i := 0) rfl
  have n1 := hZ.at_ (i := 1) rfl
  refine bodyPost_ret (v := .tuple #[.agg #[(.slice none 0 0), (.slice none 0 0)], .bool false]) (by simp [results, Try.results25, go_sem, n0, n1]) rfl ?_
  exact ⟨_, _, [], rfl, OwnQ.nil _ _, Elems.nil _ _, rfl, ⟨_, _, Nat.le_refl _, HasRows.nil (World.ownsRow_nil _ _ _ _) (((HBX.out.setCell (Nat.le_succ _) _).setCell (Nat.le_succ _) _).size)⟩, (HBX.out.setCell (Nat.le_succ _) _).setCell (Nat.le_succ _) _⟩
theorem ker_sub_i (e : El) (bn : Nat) (W : World) (hl : LiesS W (encQ e.q) e.s.b e.s.r e.s.o) (hg : Good (bn : Int) e.s) (r : Nat) (hr : r < bn) :
    Calls Try.prog 18 #[encQ e.q, .int .i64 r] W (fun en W' => ∃ v, en = .returned (.tuple #[v, .bool true]) ∧ OwnS W' W.heap.size W'.heap.size v (sub e.s r).b (sub e.s r).r (sub e.s r).o ∧ Below W.heap.size W W') := by
  have h1 := impl_sub (encQ e.q) e.s.b e.s.r e.s.o W hl (r : Int) hg.size
  rw [(hg.sub (by omega) (by omega)).2] at h1
  exact h1
theorem fAt_eq {m : Sq} {b i r : Nat} {f : Sq} {F : List Sq} (hF : F = kF m b (b * i + r)) (hf : F[i]? = some f) (hl : i < (kF m b (b * i)).length) : fAt m b i = f := by
  obtain ⟨g, hg⟩ : ∃ g, (kF m b (b * i))[i]? = some g := ⟨_, List.getElem?_eq_getElem hl⟩
  have h1 := kF_get (k := b * i + r) (Nat.le_add_right _ _) hg
  rw [← hF, hf] at h1
  rw [fAt, List.getD_eq_getElem?_getD, hg, Option.getD_some]
  exact (Option.some.inj h1).symm
section
variable {P : Program} {ops : Array Oper} {Q : Exit → Act → World → Prop} {a : Act} {w wr : World} {x0 x1 x2 : Value} {k c hi : Nat} {vf vn : Value} {E : List El} {rows : List (List Int)} {cl : Bool} {i : Nat} {rest : List Nat} {o : Oper}
theorem ks_recv {x : Value} (z : Value) {T : List Value} (HK : KS w wr x0 x1 x2 k c vf vn E rows hi (x :: T) cl) (ho : ops[i]? = some o) (hw : Region.wanted o (yielded ops a.tmps) = true)
    (hr : (execOp a.eval o).run P wr = .ok (.comm #[rcase c z] true (.recv true)) wr) (h : ∀ W', KS w W' x0 x1 x2 k c vf vn E rows hi T cl → wr.grownBy W' (some c) → OpsTo P ops Q rest (a.put o.dst (.tuple #[x, .bool true])) W') : OpsTo P ops Q (i :: rest) a wr := by
  obtain ⟨s, r, hc⟩ := HK.chan
  refine opsTo_recv ho hw hr hc (by simp) ?_
  have e : (x :: T).toArray.getD 0 undef = x := by simp
  rw [e]
  exact h _ (HK.set T _ (by simp) cl s (r + 1)) (grown_setChan ..)
theorem ks_shut (z : Value) (HK : KS w wr x0 x1 x2 k c vf vn E rows hi [] true) (ho : ops[i]? = some o) (hw : Region.wanted o (yielded ops a.tmps) = true)
    (hr : (execOp a.eval o).run P wr = .ok (.comm #[rcase c z] true (.recv true)) wr) (h : OpsTo P ops Q rest (a.put o.dst (.tuple #[z, .bool false])) wr) : OpsTo P ops Q (i :: rest) a wr := by
  obtain ⟨s, r, hc⟩ := HK.chan
  exact opsTo_shut ho hw hr hc h
theorem ks_send (v z' : Value) {T : List Value} (HK : KS w wr x0 x1 x2 k c vf vn E rows hi T false) (hT : T.length < 40) (ho : ops[i]? = some o) (hw : Region.wanted o (yielded ops a.tmps) = true)
    (hr : (execOp a.eval o).run P wr = .ok (.comm #[scase c v z'] true .send) wr) (h : ∀ W', KS w W' x0 x1 x2 k c vf vn E rows hi (T ++ [v]) false → wr.grownBy W' (some c) → OpsTo P ops Q rest (a.put o.dst undef) W') : OpsTo P ops Q (i :: rest) a wr := by
  obtain ⟨s, r, hc⟩ := HK.chan
  refine opsTo_send ho hw hr hc (by simpa using hT) ?_
  exact h _ (HK.set (T ++ [v]) _ (by simp) false (s + 1) r) (grown_setChan ..)
end
theorem row_block {W : World} {zb n : Nat} {L : List Value} (h : W.ownsRow zb 3 1 (.slice (some ⟨zb, 0, none⟩) n n) n L) : ∃ cur, W.heap[zb]? = some (.cells cur 3 (0, 0)) := by
  rcases h.2 with ⟨h1, _⟩ | ⟨g, cap, cur, h1, _, hg, _⟩
  · cases h1
  · injection h1 with h1
    injection h1 with h1
    injection h1 with h1
    subst h1
    exact ⟨cur, hg⟩
theorem row_write {W : World} {zb n i r : Nat} {m : Sq} {F : List Sq} {f y : Sq} {z : Nat} (h : W.ownsRow zb 3 1 (.slice (some ⟨zb, 0, none⟩) n n) n ((kRow m n i r ++ List.replicate (n - r) (0 : Int)).map (Value.int .i64))) (hr : r < n) (hF : F = kF m n (n * i + r)) (hf : fAt m n i = f) (hy : y = sub f (r : Int)) (hz : z = atQ F y) :
    (∃ u, W.cell? ⟨zb, r, none⟩ = some u) ∧ W.frozen? ⟨zb, r, none⟩ = false ∧ (W.setCell ⟨zb, r, none⟩ (.int .i64 (z : Int))).ownsRow zb 3 1 (.slice (some ⟨zb, 0, none⟩) n n) n ((kRow m n i (r + 1) ++ List.replicate (n - (r + 1)) (0 : Int)).map (Value.int .i64)) := by
  refine ⟨?_, h.frozenAt r, ?_⟩
  · have h1 := h.cellAt r (by omega)
    have hlen : r < ((kRow m n i r ++ List.replicate (n - r) (0 : Int)).map (Value.int .i64)).length := by
      rw [List.length_map, List.length_append, kRow_len, List.length_replicate]; omega
    rw [List.getElem?_eq_getElem hlen] at h1
    exact ⟨_, h1⟩
  · have h1 := (h.stored r (.int .i64 (z : Int))).1
    rw [kRow_set m n i r n hr (z : Int) (by rw [hf, hz, hF, hy])] at h1
    exact h1
theorem KS.done {w wr : World} {x0 x1 x2 : Value} {k c hi : Nat} {vf vn : Value} {E : List El} {rows : List (List Int)} {buf : List Value} {cl : Bool} (h : KS w wr x0 x1 x2 k c vf vn E rows hi buf cl) (a b : Value) :
    let W' := (wr.setCell ⟨w.heap.size + 1, 0, none⟩ a).setCell ⟨w.heap.size + 1, 1, none⟩ b
    OwnQ W' w.heap.size vf (E.map El.q) ∧ Elems W' w.heap.size E ∧ HasRows W' (w.heap.size + 2) hi vn rows ∧ Below w.heap.size w W' := by
  intro W'
  have g1 := grown_cell' wr (w.heap.size + 1) 0 a
  have g2 := grown_cell' (wr.setCell ⟨w.heap.size + 1, 0, none⟩ a) (w.heap.size + 1) 1 b
  have hg : wr.grownBy W' (some (w.heap.size + 1)) := grown_trans' g1 g2
  have hkp : KeepsIR wr W' := KeepsIR.of_grown hg (fun cur e fr h1 => by rw [h.res.row] at h1; simp at h1; rcases h1 with ⟨_, h1, _⟩; rw [← h1]; decide)
  exact ⟨(h.own.kept hg (.inr (fun e => by have := (h.own.lt _ e).1; omega))).mono (by omega), h.els.keep hkp, HasRows.keep h.next hkp, (h.below.setCell (p := ⟨w.heap.size + 1, 0, none⟩) (Nat.le_succ _) _).setCell (p := ⟨w.heap.size + 1, 1, none⟩) (Nat.le_succ _) _⟩
theorem ks_start {w W0 W1 : World} {x0 x1 x2 : Value} {m : Sq} {a1 a2 : Option Addr} {c1 c2 : Nat} (hb0 : Below w.heap.size w W0) (hc : Cells3 W0 w.heap.size 27 x0 x1 x2) (hr : CellsN W0 (w.heap.size + 1) 46 [.slice none 0 0, .slice none 0 0]) (b1 : Below W0.heap.size W0 W1) (hv : OwnS W1 W0.heap.size W1.heap.size (.agg #[.int .i64 m.b, .slice a1 m.r.length c1, .slice a2 m.o.length c2]) m.b m.r m.o) :
    KS w ((((W1.alloc (.cells #[.int .i64 m.b, .slice a1 m.r.length c1, .slice a2 m.o.length c2] 27)).alloc (.cells #[.int .i64 m.b, .slice a1 m.r.length c1, .slice a2 m.o.length c2] 27)).alloc (.cells #[.slice (some ⟨W1.heap.size + 1, 0, none⟩) 1 1, .slice none 0 0] 46)).alloc (.chan 40 #[] false 0 0 false)) x0 x1 x2 (W1.heap.size + 1 + 1) (W1.heap.size + 1 + 1 + 1) (.slice (some ⟨W1.heap.size + 1, 0, none⟩) 1 1) (.slice none 0 0) [El.mk (m.b, .slice a1 m.r.length c1, .slice a2 m.o.length c2) m W0.heap.size W1.heap.size] [] (w.heap.size + 2) [] false := by
  have hal : ∀ (W : World) o, Below W.heap.size W (W.alloc o) := fun W o => (Below.refl _ _).alloc (Nat.le_refl _) _
  have hlt := hr.lt
  have h01 := b1.size
  have e1 := size_alloc' W1 (.cells #[.int .i64 m.b, .slice a1 m.r.length c1, .slice a2 m.o.length c2] 27)
  have e2 := size_alloc' (W1.alloc (.cells #[.int .i64 m.b, .slice a1 m.r.length c1, .slice a2 m.o.length c2] 27)) (.cells #[.int .i64 m.b, .slice a1 m.r.length c1, .slice a2 m.o.length c2] 27)
  have e3 := size_alloc' ((W1.alloc (.cells #[.int .i64 m.b, .slice a1 m.r.length c1, .slice a2 m.o.length c2] 27)).alloc (.cells #[.int .i64 m.b, .slice a1 m.r.length c1, .slice a2 m.o.length c2] 27)) (.cells #[.slice (some ⟨W1.heap.size + 1, 0, none⟩) 1 1, .slice none 0 0] 46)
  have hB : Below W1.heap.size W1 ((((W1.alloc (.cells #[.int .i64 m.b, .slice a1 m.r.length c1, .slice a2 m.o.length c2] 27)).alloc (.cells #[.int .i64 m.b, .slice a1 m.r.length c1, .slice a2 m.o.length c2] 27)).alloc (.cells #[.slice (some ⟨W1.heap.size + 1, 0, none⟩) 1 1, .slice none 0 0] 46)).alloc (.chan 40 #[] false 0 0 false)) := (hal _ _).trans (((hal _ _).trans (((hal _ _).trans ((hal _ _).mono (by omega))).mono (by omega))).mono (by omega))
  have hq : OwnQ ((W1.alloc (.cells #[.int .i64 m.b, .slice a1 m.r.length c1, .slice a2 m.o.length c2] 27)).alloc (.cells #[.int .i64 m.b, .slice a1 m.r.length c1, .slice a2 m.o.length c2] 27)) (w.heap.size + 2) (.slice (some ⟨W1.heap.size + 1, 0, none⟩) 1 1) [(m.b, .slice a1 m.r.length c1, .slice a2 m.o.length c2)] := by
    have h1 := OwnQ.lit (base := w.heap.size + 2) (W1.alloc (.cells #[.int .i64 m.b, .slice a1 m.r.length c1, .slice a2 m.o.length c2] 27)) (m.b, .slice a1 m.r.length c1, .slice a2 m.o.length c2) (by omega)
    rw [e1] at h1
    exact h1
  have hE := (Elems.nil W0 w.heap.size).push (v := (m.b, .slice a1 m.r.length c1, .slice a2 m.o.length c2)) (s := m) hb0.size b1 hv
  refine ⟨(hb0.trans (b1.mono hb0.size)).trans (hB.mono (by omega)), (hc.below b1).below hB, (hr.below b1).below hB, ?_, ⟨0, 0, ?_⟩, (hq.below (hal _ _)).below (hal _ _), hE.below hB, HasRows.nil (World.ownsRow_nil _ _ _ _) (by simp; omega), fun g e => by simp [Value.ownBlock] at e, by omega, by omega, by omega⟩
  · have h1 := (CellsN.new ((W1.alloc (.cells #[.int .i64 m.b, .slice a1 m.r.length c1, .slice a2 m.o.length c2] 27)).alloc (.cells #[.int .i64 m.b, .slice a1 m.r.length c1, .slice a2 m.o.length c2] 27)) 46 [.slice (some ⟨W1.heap.size + 1, 0, none⟩) 1 1, .slice none 0 0]).alloc (.chan 40 #[] false 0 0 false)
    rw [e2, e1] at h1
    exact h1
  · have h1 := heap_alloc_new (((W1.alloc (.cells #[.int .i64 m.b, .slice a1 m.r.length c1, .slice a2 m.o.length c2] 27)).alloc (.cells #[.int .i64 m.b, .slice a1 m.r.length c1, .slice a2 m.o.length c2] 27)).alloc (.cells #[.slice (some ⟨W1.heap.size + 1, 0, none⟩) 1 1, .slice none 0 0] 46)) (.chan 40 #[] false 0 0 false)
    rw [e3, e2, e1] at h1
    exact h1
set_option maxRecDepth 100000 in
set_option maxHeartbeats 4000000 in
theorem impl_ker_yes (v : Value) (b : Int) (rows : List (List Int)) (out : List Int) (w : World) (h : LiesS w v b rows out) (hs : rows.length + tot rows + out.length ≤ 1048576) (hk : formK b rows out = true) :
    Calls Try.prog 25 #[v] w (GivesKS (kerV b rows out) (kerR b rows out) (kerK b rows out) w) := by
  obtain ⟨i0, hi, hz0, hz1, hz2⟩ := info_parts infoS
  obtain ⟨i1, hi1, hz10, hz11, hz12⟩ := info_parts Ints.infoI
  obtain ⟨i2, hi2, hz20, hz21, hz22⟩ := info_parts infoRk
  have HS := Lib.hid h
  obtain ⟨an, cn, ao, co, rfl⟩ := h.form
  clear h
  have HB : Hid (Below w.heap.size w (w.alloc (Obj.cells #[Value.int .i64 b, Value.slice an rows.length cn, Value.slice ao out.length co] 27))) := (Below.refl _ _).alloc (Nat.le_refl _) _
  have HC := Lib.hid (Cells3.new w 27 (.int .i64 b) (.slice an rows.length cn) (.slice ao out.length co))
  have HB0 : Hid (Below w.heap.size w ((w.alloc (Obj.cells #[Value.int .i64 b, Value.slice an rows.length cn, Value.slice ao out.length co] 27)).alloc (Obj.cells #[Value.slice none 0 0, Value.slice none 0 0] 46))) := HB.out.alloc (by simp only [size_alloc'] <;> omega) _
  have HC0 := Lib.hid (HC.out.alloc (Obj.cells #[Value.slice none 0 0, Value.slice none 0 0] 46))
  have hr := CellsN.new (w.alloc (Obj.cells #[Value.int .i64 b, Value.slice an rows.length cn, Value.slice ao out.length co] 27)) 46 [.slice none 0 0, .slice none 0 0]
  rw [size_alloc'] at hr
  have HR0 := Lib.hid hr
  have hgd := mini_good hk
  have hsq := hgd.seq
  obtain ⟨bn, hbn⟩ : ∃ bn : Nat, b = (bn : Int) := ⟨b.toNat, by have := hsq.1; rw [hgd.base] at this; omega⟩
  have hb2 : 2 ≤ bn := by have := hsq.1; rw [hgd.base] at this; omega
  have hb4 : bn ≤ 4 := by have := hsq.2.1; rw [hgd.base] at this; omega
  have HYES : Hid (∀ n, n = bn * (kF (mini b rows out) bn n).length → (kF (mini b rows out) bn n).length ≤ 40 → kerV b rows out = kF (mini b rows out) bn n ∧ kerR b rows out = kRows (mini b rows out) bn (kF (mini b rows out) bn n).length ∧ kerK b rows out = true) := fun n h1 h2 => by
    obtain ⟨h3, h4⟩ := ker_yes (n := n) hbn (by omega) hk h1 h2
    exact ⟨h3, by rw [kerR, if_pos h4, h3, hbn, Int.toNat_natCast], h4⟩
  have HNO : Hid (∀ n, 40 < (kF (mini b rows out) bn n).length → n ≤ 41 * bn → kerV b rows out = [] ∧ kerR b rows out = [] ∧ kerK b rows out = false) := fun n h1 h2 => by
    obtain ⟨h3, h4⟩ := ker_no (rows := rows) (out := out) (n := n) hbn h1 h2
    exact ⟨h3, by rw [kerR, h4]; simp, h4⟩
  have HCF : Hid (Calls Try.prog 39 #[.agg #[.int .i64 b, .slice an rows.length cn, .slice ao out.length co]] ((w.alloc (Obj.cells #[Value.int .i64 b, Value.slice an rows.length cn, Value.slice ao out.length co] 27)).alloc (Obj.cells #[Value.slice none 0 0, Value.slice none 0 0] 46)) (GivesK (mini b rows out).b (mini b rows out).r (mini b rows out).o true ((w.alloc (Obj.cells #[Value.int .i64 b, Value.slice an rows.length cn, Value.slice ao out.length co] 27)).alloc (Obj.cells #[Value.slice none 0 0, Value.slice none 0 0] 46)))) := by
    have h1 := impl_min _ b rows out _ (HS.out.below HB0.out) hs
    rw [hk] at h1
    exact h1
  have HG := Lib.hid hgd
  obtain ⟨m, hm⟩ : ∃ m, m = mini b rows out := ⟨_, rfl⟩
  obtain ⟨KV, hKV⟩ : ∃ x, x = kerK b rows out := ⟨_, rfl⟩
  obtain ⟨LV, hLV⟩ : ∃ x, x = kerV b rows out := ⟨_, rfl⟩
  obtain ⟨RV, hRV⟩ : ∃ x, x = kerR b rows out := ⟨_, rfl⟩
  rw [← hm] at HG HCF HYES HNO
  rw [← hKV, ← hLV, ← hRV] at HYES HNO ⊢
  have k0 := HC0.out.c0
  have k1 := HC0.out.c1
  have k2 := HC0.out.c2
  clear hr hs hk HB HC hgd hsq hm hKV hLV hRV
  subst hbn
  go_enter Try.func25, Try.ntmps25
  go_wp2_with fail
  refine HCF.out.mono ?_
  rintro e W1 ⟨v1, rfl, hv1, b1⟩
  obtain ⟨a1, c1, a2, c2, rfl⟩ := hv1.form
  have hmc := mk40
  have HX1 := Cells3.new W1 27 (.int .i64 m.b) (.slice a1 m.r.length c1) (.slice a2 m.o.length c2)
  have HB1 := Lib.hid b1
  have HV1 := Lib.hid hv1
  have j0 := HX1.c0
  have j1 := HX1.c1
  have j2 := HX1.c2
  have HK1 := Lib.hid (ks_start HB0.out HC0.out HR0.out b1 hv1)
  have HX2 := Lib.hid (((HX1.alloc (.cells #[.int .i64 m.b, .slice a1 m.r.length c1, .slice a2 m.o.length c2] 27)).alloc (.cells #[.slice (some ⟨W1.heap.size + 1, 0, none⟩) 1 1, .slice none 0 0] 46)).alloc (.chan 40 #[] false 0 0 false))
  clear b1 hv1 k0 k1 k2 HB1 HV1 HC0 HR0 HCF HB0 HX1
  go_upto_region 6 with fail
  obtain ⟨p, hp⟩ : ∃ p, p = W1.heap.size := ⟨_, rfl⟩
  obtain ⟨W2, hW2⟩ : ∃ W, W = ((((W1.alloc (.cells #[.int .i64 m.b, .slice a1 m.r.length c1, .slice a2 m.o.length c2] 27)).alloc (.cells #[.int .i64 m.b, .slice a1 m.r.length c1, .slice a2 m.o.length c2] 27)).alloc (.cells #[.slice (some ⟨W1.heap.size + 1, 0, none⟩) 1 1, .slice none 0 0] 46)).alloc (.chan 40 #[] false 0 0 false)) := ⟨_, rfl⟩
  rw [← hW2] at HK1 HX2 ⊢
  rw [← hp] at HK1 HX2 ⊢
  clear j0 j1 j2 hW2 hp
  have j0 := HX2.out.c0
  have j1 := HX2.out.c1
  have j2 := HX2.out.c2
  obtain ⟨kb, hkb⟩ : ∃ x, x = p + 1 + 1 := ⟨_, rfl⟩
  obtain ⟨cb, hcb⟩ : ∃ x, x = p + 1 + 1 + 1 := ⟨_, rfl⟩
  rw [← hcb] at HK1 ⊢
  rw [← hkb] at HK1 ⊢
  refine opsTo_region ?_
  refine opsTo_value (v := .chan (some cb)) (w' := W2) rfl (by simp [Region.wanted]) (by go_simp) ?_
  refine opsTo_value (v := (.agg #[.int .i64 m.b, .slice a1 m.r.length c1, .slice a2 m.o.length c2])) (w' := W2) rfl (by simp [Region.wanted]) (by go_simp) ?_
  refine ks_send (.agg #[.int .i64 m.b, .slice a1 m.r.length c1, .slice a2 m.o.length c2]) (.tuple #[]) HK1.out (by simp) rfl (by simp [Region.wanted]) (by simp [execOp, scase, Act.eval, Act.put]) ?_
  intro W3 hk3 _
  refine opsTo_end ?_
  have HK2 := Lib.hid hk3
  clear j0 j1 j2 HX2 HK1 hkb hcb hmc hk3
  go_simp
  go_wp2
  go_loopw [8] (fun _ wr => ∃ (i hi : Nat) (vf vn : Value) (E : List El), i ≤ E.length ∧ E.length ≤ 40 ∧ Hid (KS w wr (.int .i64 (bn : Int)) (.slice an rows.length cn) (.slice ao out.length co) kb cb vf vn E (kRows m bn i) hi ((E.drop i).map fun e => encQ e.q) (decide (i = E.length))) ∧ Hid (E.map El.s = kF m bn (bn * i))) (fun _ wr => match wr.cell? ⟨kb, 1, none⟩ with | some (.slice _ n _) => 41 - n | _ => 0)
  case atStart => exact ⟨0, _, _, _, _, Nat.zero_le _, by simp, HK2, rfl⟩
  case round =>
    clear HK2
    obtain ⟨i, hi', vf, vn, E, hiE, hE40, HK, HF⟩ := hrel
    have HKO := HK
    by_cases hlt : i < E.length
    · obtain ⟨el, hel⟩ : ∃ e, E[i]? = some e := ⟨_, List.getElem?_eq_getElem hlt⟩
      have hdr : E.drop i = el :: E.drop (i + 1) := by
        obtain ⟨h1, rfl⟩ := List.getElem?_eq_some_iff.1 hel
        exact List.drop_eq_getElem_cons h1
      rw [decide_eq_false (show ¬ i = E.length by omega), hdr, List.map_cons] at HK
      have hls := HK.out.els.lies hel
      obtain ⟨an1, cn1, ao1, co1, hv⟩ := hls.form
      rw [hv] at HK
      have HEL := Lib.hid hel
      have HV := Lib.hid hv
      obtain ⟨f, hf⟩ : ∃ f, f = el.s := ⟨_, rfl⟩
      have HFS := Lib.hid hf
      rw [← hf] at HV HK
      obtain ⟨T, hT⟩ : ∃ T, T = (E.drop (i + 1)).map fun e => encQ e.q := ⟨_, rfl⟩
      rw [← hT] at HK
      have HT := Lib.hid hT
      clear hel hdr hls hv hf hT
      go_upto_region 8 with fail
      refine opsTo_region ?_
      refine ks_recv (.agg #[.int .i64 0, .slice none 0 0, .slice none 0 0]) HK.out rfl (by simp [Region.wanted]) (by simp [go_sem, rcase]) ?_
      intro W4 hk4 _
      have HK4 := Lib.hid hk4
      clear hk4 HK
      refine opsTo_value (v := .bool true) (w' := W4) rfl (by simp [Region.wanted]) (by go_simp) ?_
      refine opsTo_end ?_
      go_simp
      have HM : Hid (∃ a c, wr.cell? ⟨kb, 1, none⟩ = some (.slice a i c)) := by
        obtain ⟨a, c, h1⟩ := HasRows.form HKO.out.next
        rw [kRows_len] at h1
        have h2 := HKO.out.ker.at_ (i := 1) rfl
        rw [h1] at h2
        exact ⟨a, c, h2⟩
      have HL := Lib.hid (show i < (kF m bn (bn * i)).length by rw [← HF.out, List.length_map]; exact hlt)
      have hal : Below W4.heap.size W4 (W4.alloc (.cells #[.int .i64 f.b, .slice an1 f.r.length cn1, .slice ao1 f.o.length co1] 27)) := (Below.refl _ _).alloc (Nat.le_refl _) _
      have HK5 := Lib.hid (HK4.out.call hal)
      have k0 := HK5.out.box.c0
      have HX8 := Lib.hid (Cells3.new W4 27 (.int .i64 f.b) (.slice an1 f.r.length cn1) (.slice ao1 f.o.length co1))
      clear hal HKO
      go_wp2_with (at_make; refine wpList_make_full (W4.alloc (.cells #[.int .i64 f.b, .slice an1 f.r.length cn1, .slice ao1 f.o.length co1] 27)) rfl _ _ 25 rfl (W4.alloc (.cells #[.int .i64 f.b, .slice an1 f.r.length cn1, .slice ao1 f.o.length co1] 27)).heap.size 3 i1 (.int .i64 0) 1 Try.underlying25 hi1 hz10 hz11 .i64 .i64 _ _ bn rfl rfl rfl rfl (by rw [hz12]; omega) (by unfold maxLen; omega) (Nat.le_refl _) ?_; intro W6 hown hgrow)
      obtain ⟨qb, hqb⟩ : ∃ x, x = W4.heap.size := ⟨_, rfl⟩
      obtain ⟨zb, hzb⟩ : ∃ x, x = W4.heap.size + 1 := ⟨_, rfl⟩
      have hza : (W4.alloc (.cells #[.int .i64 f.b, .slice an1 f.r.length cn1, .slice ao1 f.o.length co1] 27)).heap.size = zb := by rw [hzb, size_alloc']
      have hb6 := below_of_grown hgrow
      have HK6 := Lib.hid (HK5.out.call hb6)
      have HQ6 := Lib.hid (HX8.out.below hb6)
      have HO6 : Hid (W6.ownsRow zb 3 1 (.slice (some ⟨zb, 0, none⟩) bn bn) bn ((kRow m bn i 0 ++ List.replicate (bn - 0) (0 : Int)).map (Value.int .i64))) := by
        show W6.ownsRow _ _ _ _ _ _
        rw [Ints.zero_made, hza] at hown
        simpa [kRow] using hown
      have HA6 : Hid (Avoid E zb) := Avoid.new HK4.out.els (by omega)
      have hhi : hi' ≤ zb := by have := (HasRows.hi_le HK4.out.next).2; omega
      have hlo : w.heap.size + 2 ≤ zb := by have := HK4.out.clt; have := HK4.out.hc; omega
      have HV6 : Hid (vf.ownBlock ≠ some qb) := fun e => by have := (HK4.out.own.lt _ e).2; omega
      rw [HT.out] at HK6
      rw [← hqb] at HQ6
      rw [← hzb, ← hqb]
      clear hown hgrow hb6 hza hqb hzb HX8 HK5 HK4 HT k0
      go_loopw [37] (fun r' wr => ∃ (r : Nat) (vf : Value) (E : List El), r ≤ bn ∧ i < E.length ∧ E.length ≤ 40 ∧ r' = .int .i64 r ∧ Hid (E[i]? = some el) ∧ Hid (KS w wr (.int .i64 (bn : Int)) (.slice an rows.length cn) (.slice ao out.length co) kb cb vf vn E (kRows m bn i) hi' ((E.drop (i + 1)).map fun e => encQ e.q) false) ∧ Hid (E.map El.s = kF m bn (bn * i + r)) ∧ Hid (Avoid E zb) ∧ Hid (wr.ownsRow zb 3 1 (.slice (some ⟨zb, 0, none⟩) bn bn) bn ((kRow m bn i r ++ List.replicate (bn - r) (0 : Int)).map (Value.int .i64))) ∧ Hid (Cells3 wr qb 27 (.int .i64 f.b) (.slice an1 f.r.length cn1) (.slice ao1 f.o.length co1)) ∧ Hid (vf.ownBlock ≠ some qb)) (fun r' _ => bn - (intOf r').toNat)
      case atStart => exact ⟨0, vf, E, Nat.zero_le _, hlt, hE40, rfl, HEL, HK6, HF, HA6, HO6, HQ6, HV6⟩
      case round =>
        clear HEL HK6 HF HA6 HO6 HQ6 HV6 hlt hE40 hiE
        obtain ⟨r, vf, E, hrb, hiE, hE40, rfl, HEL, HK, HF, HA, HO, HQ, HVQ⟩ := hrel
        obtain ⟨va, vc, hvf, _⟩ := HK.out.own.form
        rw [List.length_map] at hvf
        subst hvf
        by_cases hr : r < bn
        case pos =>
          have hS : (E.map El.s)[i]? = some f := by rw [List.getElem?_map, HEL.out, HFS.out]; rfl
          have HFA := Lib.hid (fAt_eq HF.out hS HL.out)
          have hS2 := hS
          rw [HF.out] at hS
          have HKN := Lib.hid (kF_next hr hS)
          have hgd := kF_good (by omega) HG.out _ _ (List.mem_of_getElem? hS)
          have hls := HK.out.els.lies HEL.out
          have hcs := ker_sub_i el bn wr hls (by rw [← HFS.out]; exact hgd) r hr
          rw [← HFS.out, HV.out] at hcs
          have HCS := Lib.hid hcs
          obtain ⟨y, hy⟩ : ∃ y, y = sub f r := ⟨_, rfl⟩
          rw [← hy] at HKN HCS
          have HYE := Lib.hid hy
          have q0 := HQ.out.c0
          have q1 := HQ.out.c1
          have q2 := HQ.out.c2
          have hr0 : (0 : Int) ≤ (r : Int) := Int.natCast_nonneg _
          have hrb1 : (r : Int) < (bn : Int) := by omega
          clear hS hS2 hgd hls hcs hy
          go_wp2_with fail
          refine HCS.out.mono ?_
          rintro e W7 ⟨v2, rfl, hv2, b2⟩
          obtain ⟨a3, c3, a4, c4, rfl⟩ := hv2.form
          have hbx : Below W7.heap.size W7 (W7.alloc (.cells #[.int .i64 y.b, .slice a3 y.r.length c3, .slice a4 y.o.length c4] 27)) := (Below.refl _ _).alloc (Nat.le_refl _) _
          have hbw : Below wr.heap.size wr (W7.alloc (.cells #[.int .i64 y.b, .slice a3 y.r.length c3, .slice a4 y.o.length c4] 27)) := b2.trans (hbx.mono b2.size)
          have hzw := (World.ownsRow.lt HO.out zb rfl).2
          have hqw := HQ.out.lt
          have HK8 := Lib.hid (HK.out.call hbw)
          have HN8 := Lib.hid ((HK.out.els.push (v := (y.b, .slice a3 y.r.length c3, .slice a4 y.o.length c4)) (s := y) HK.out.below.size b2 hv2).below hbx)
          have HA8 := Lib.hid (HA.out.push hzw (y.b, .slice a3 y.r.length c3, .slice a4 y.o.length c4) y W7.heap.size)
          have HO8 := Lib.hid (HO.out.kept (grown_of_below hbw) (.inr (by simp [Value.ownBlock])))
          have HQ8 := Lib.hid (HQ.out.below hbw)
          have hY8 := hv2.lies.below hbx
          have HX8 := Lib.hid (Cells3.new W7 27 (.int .i64 y.b) (.slice a3 y.r.length c3) (.slice a4 y.o.length c4))
          have HVX : Hid ((Value.slice va E.length vc).ownBlock ≠ some W7.heap.size) := fun e => by have := (HK.out.own.lt _ e).2; have := b2.size; omega
          have HPL := Lib.hid (place _ vn E y a3 a4 c3 c4 w.heap.size (w.heap.size + 2) (W7.alloc (.cells #[.int .i64 y.b, .slice a3 y.r.length c3, .slice a4 y.o.length c4] 27)) HK8.out.own HK8.out.els hY8)
          have HAV : Hid (∀ g, vn.ownBlock = some g → Avoid (E ++ [El.mk (y.b, .slice a3 y.r.length c3, .slice a4 y.o.length c4) y wr.heap.size W7.heap.size]) g) := fun g e => (HK.out.av g e).push (HasRows.block HK.out.next g e).1.2 _ _ _
          obtain ⟨z, hz⟩ : ∃ z, z = atQ (E.map El.s) y := ⟨_, rfl⟩
          rw [← hz] at HPL
          have HZ := Lib.hid hz
          have g0 := HK8.out.ker.at_ (i := 0) rfl
          have g1 := HK8.out.ker.at_ (i := 1) rfl
          have j0 := HX8.out.c0
          have j1 := HX8.out.c1
          have j2 := HX8.out.c2
          have hqw7 : qb < W7.heap.size := Nat.lt_of_lt_of_le hqw b2.size
          have hqe : Hid (∀ k, wr.heap.size ≤ k → k ≠ qb) := fun k h e => by omega
          clear hv2 b2 hbx hbw hY8 hz HK HA HO HQ HCS q0 q1 q2
          go_wp2_with fail
          refine HPL.out.mono ?_
          rintro e W9 ⟨rfl, b9⟩
          have HK9 := Lib.hid (HK8.out.call b9)
          have HN9 := Lib.hid (HN8.out.below b9)
          have HO9 := Lib.hid (HO8.out.kept (grown_of_below b9) (.inr (by simp [Value.ownBlock])))
          have HQ9 := Lib.hid (HQ8.out.below b9)
          have HX9 := Lib.hid (HX8.out.below b9)
          have hs9 : W7.heap.size < W9.heap.size := HX9.out.lt
          clear b9 g0 g1 j0 j1 j2 HK8 HN8 HO8 HQ8 HX8 HPL
          by_cases h40 : z = 40
          · have hd : ((z : Int) == 40) = true := by simp; omega
            obtain ⟨h1, h2, h3⟩ := HNO.out (bn * i + (r + 1)) (by
              have hle := atQ_le (E.map El.s) y
              rw [← HZ.out, List.length_map] at hle
              rw [HKN.out, ← HF.out, (addQ_new (by rw [← HZ.out, List.length_map]; omega)).1, List.length_append, List.length_map]
              simp
              omega) (by have : bn * i ≤ bn * 39 := Nat.mul_le_mul_left _ (by omega); omega)
            subst h1; subst h2; subst h3
            have z0 := HK9.out.res.at_ (i := 0) rfl
            have z1 := HK9.out.res.at_ (i := 1) rfl
            have z2 := HK9.out.res.f
            go_wp2
            have hZ := (HK9.out.res.set 0 (.slice none 0 0)).set 1 (.slice none 0 0)
            have n0 := hZ.at_ (i := 0) rfl
            have n1 := hZ.at_ (i := 1) rfl
            refine bodyPost_ret (v := .tuple #[.agg #[(.slice none 0 0), (.slice none 0 0)], .bool false]) (by simp [results, Try.results25, go_sem, n0, n1]) rfl ?_
            have hdn := HK9.out.done (.slice none 0 0) (.slice none 0 0)
            exact ⟨_, _, [], rfl, OwnQ.nil _ _, Elems.nil _ _, rfl, ⟨_, _, Nat.le_refl _, HasRows.nil (World.ownsRow_nil _ _ _ _) hdn.2.2.2.size⟩, hdn.2.2.2⟩
          · have hd : ((z : Int) == 40) = false := by simp; omega
            have g0 := HK9.out.ker.at_ (i := 0) rfl
            have g1 := HK9.out.ker.at_ (i := 1) rfl
            have g2 := HK9.out.ker.f
            by_cases hn : z = E.length
            · subst hn
              have hle41 : E.length + 1 ≤ 40 := by omega
              have hd2 : ((E.length : Int) == (E.length : Int)) = true := by simp
              have hadd := (addQ_new (F := E.map El.s) (y := y) (by rw [← HZ.out, List.length_map]; omega)).1
              rw [HF.out] at hadd
              rw [hadd] at HKN
              have j0 := HX9.out.c0
              have j1 := HX9.out.c1
              have j2 := HX9.out.c2
              clear hadd
              go_upto_region 20 with (at_builtin; refine wpList_append_q3 rfl _ _ 29 rfl i0 Try.underlying29 hi hz0 hz1 hz2 (.slice va E.length vc) rfl HK9.out.own _ rfl (by first | rfl | simp) rfl rfl (by rw [List.length_map]; omega) (by have := HK9.out.clt; have := HK9.out.hc; omega) ?_; intro v5 w5 ho5 hg5 hb5; obtain ⟨xa, xc, hv5, _⟩ := ho5.form; rw [List.length_append, List.length_map, List.length_singleton] at hv5; subst hv5; have hk5 := HK9.out.ker.grown hg5 HK9.out.vf_ne_ker; have s0 := hk5.at_ (i := 0) rfl; have s1 := hk5.f)
              have HO5 : Hid (OwnQ w5 (w.heap.size + 2) (Value.slice xa (E.length + 1) xc) ((E ++ [El.mk (y.b, .slice a3 y.r.length c3, .slice a4 y.o.length c4) y wr.heap.size W7.heap.size]).map El.q)) := by rw [List.map_append]; exact ho5
              have HK10 := Lib.hid (HK9.out.add _ HO5.out hg5 HN9.out HAV.out)
              obtain ⟨cu, hcu⟩ := row_block HO9.out
              have hcu5 := (hg5.block zb (Array.getElem?_eq_some_iff.1 hcu).1 (fun e => by obtain ⟨_, h1⟩ := HK9.out.own.block zb e.symm; rw [hcu] at h1; simp at h1)).trans hcu
              have hg6 := grown_cell' w5 kb 0 (Value.slice xa (E.length + 1) xc)
              have hkz : kb ≠ zb := fun e => by rw [← e, hk5.row] at hcu5; simp at hcu5
              have HO10 := Lib.hid ((HO9.out.kept hg5 (.inr (fun e => by obtain ⟨_, h1⟩ := HK9.out.own.block zb e.symm; rw [hcu] at h1; simp at h1))).kept hg6 (.inr (fun e => hkz (Option.some.inj e).symm)))
              have hq5 := HQ9.out.grown hg5 HVQ.out
              have hx5 := HX9.out.grown hg5 HVX.out
              have HQ10 := Lib.hid (hq5.grown hg6 (fun e => hk5.ne3 hq5 (by decide) (Option.some.inj e)))
              have HX10 := Lib.hid (hx5.grown hg6 (fun e => hk5.ne3 hx5 (by decide) (Option.some.inj e)))
              have HV10 : Hid ((Value.slice xa (E.length + 1) xc).ownBlock ≠ some qb) := fun e => (hb5 qb e).elim (fun h => HVQ.out h) (fun h => by omega)
              obtain ⟨W10, hW10⟩ : ∃ W, W = w5.setCell ⟨kb, 0, none⟩ (Value.slice xa (E.length + 1) xc) := ⟨_, rfl⟩
              rw [← hW10] at HK10 HO10 HQ10 HX10 ⊢
              clear ho5 hg5 hb5 hk5 s0 s1 g0 g1 g2 j0 j1 j2 HO5 hcu hcu5 hg6 hq5 hx5 hW10 HK9 HO9 HQ9 HX9 HN9
              have j0 := HX10.out.c0
              have j1 := HX10.out.c1
              have j2 := HX10.out.c2
              refine opsTo_region ?_
              refine opsTo_value (v := .chan (some cb)) (w' := W10) rfl (by simp [Region.wanted]) (by go_simp) ?_
              refine opsTo_value (v := (.agg #[.int .i64 y.b, .slice a3 y.r.length c3, .slice a4 y.o.length c4])) (w' := W10) rfl (by simp [Region.wanted]) (by go_simp) ?_
              refine ks_send (.agg #[.int .i64 y.b, .slice a3 y.r.length c3, .slice a4 y.o.length c4]) (.tuple #[]) HK10.out (by rw [List.length_map, List.length_drop]; omega) rfl (by simp [Region.wanted]) (by simp [execOp, scase, Act.eval, Act.put]) ?_
              intro W11 hk11 hg11
              refine opsTo_end ?_
              obtain ⟨s, r0, hch⟩ := HK10.out.chan
              obtain ⟨cu, hcu⟩ := row_block HO10.out
              have HO11 := Lib.hid (HO10.out.kept hg11 (.inr (fun e => by have e2 : zb = cb := Option.some.inj e; rw [e2, hch] at hcu; cases hcu)))
              have HQ11 := Lib.hid (HQ10.out.grown hg11 (fun e => by have h1 := HQ10.out.row; rw [← Option.some.inj e, hch] at h1; cases h1))
              have HK11 : Hid (KS w W11 (.int .i64 (bn : Int)) (.slice an rows.length cn) (.slice ao out.length co) kb cb (Value.slice xa (E.length + 1) xc) vn (E ++ [El.mk (y.b, .slice a3 y.r.length c3, .slice a4 y.o.length c4) y wr.heap.size W7.heap.size]) (kRows m bn i) hi' (((E ++ [El.mk (y.b, .slice a3 y.r.length c3, .slice a4 y.o.length c4) y wr.heap.size W7.heap.size]).drop (i + 1)).map fun e => encQ e.q) false) := by
                rw [List.drop_append_of_le_length (by omega), List.map_append]
                exact hk11
              clear hk11 hg11 hch hcu j0 j1 j2 HK10 HO10 HQ10 HX10
              go_simp
              obtain ⟨⟨u, hu⟩, hfz, hst⟩ := row_write HO11.out hr HF.out HFA.out HYE.out HZ.out
              obtain ⟨cu, hcu⟩ := row_block HO11.out
              have HST := Lib.hid hst
              have HK12 := Lib.hid (HK11.out.write r (.int .i64 (E.length : Int)) hcu hlo hhi HA8.out)
              have HQ12 := Lib.hid (HQ11.out.other (a := ⟨zb, r, none⟩) (fun e => by have e2 : zb = qb := e; rw [e2, HQ11.out.row] at hcu; simp at hcu) (.int .i64 (E.length : Int)))
              clear hst HK11 HO11 HQ11 hcu
              go_wp2
              go_roundw
              case rel => exact ⟨r + 1, (Value.slice xa (E.length + 1) xc), E ++ [El.mk (y.b, .slice a3 y.r.length c3, .slice a4 y.o.length c4) y wr.heap.size W7.heap.size], by omega, by rw [List.length_append]; exact Nat.lt_of_lt_of_le hiE (Nat.le_add_right _ _), by rw [List.length_append, List.length_singleton]; exact hle41, by go_num, by show _ = _; rw [List.getElem?_append_left hiE]; exact HEL.out, HK12, by show _ = _; rw [HKN.out, List.map_append, HF.out]; rfl, HA8, HST, HQ12, HV10⟩
              case measure => simp [intOf]; omega
            · have hd2 : ((z : Int) == (E.length : Int)) = false := by simp; omega
              have hle := atQ_le (E.map El.s) y
              rw [← HZ.out, List.length_map] at hle
              have hadd := (addQ_old (F := E.map El.s) (y := y) (by rw [← HZ.out, List.length_map]; omega)).1
              rw [HF.out] at hadd
              rw [hadd] at HKN
              obtain ⟨⟨u, hu⟩, hfz, hst⟩ := row_write HO9.out hr HF.out HFA.out HYE.out HZ.out
              obtain ⟨cu, hcu⟩ := row_block HO9.out
              have HST := Lib.hid hst
              have HA9 : Hid (Avoid E zb) := fun e he => HA8.out e (List.mem_append_left _ he)
              have HK12 := Lib.hid (HK9.out.write r (.int .i64 (z : Int)) hcu hlo hhi HA9.out)
              have HQ12 := Lib.hid (HQ9.out.other (a := ⟨zb, r, none⟩) (fun e => by have e2 : zb = qb := e; rw [e2, HQ9.out.row] at hcu; simp at hcu) (.int .i64 (z : Int)))
              clear hst hle hadd hcu HK9 HO9 HQ9 HX9 HN9
              go_wp2
              go_roundw
              case rel => exact ⟨r + 1, _, E, by omega, hiE, hE40, by go_num, HEL, HK12, by show _ = _; rw [HKN.out]; exact HF.out, HA9, HST, HQ12, HVQ⟩
              case measure => simp [intOf]; omega
        case neg =>
          obtain rfl : bn = r := by omega
          obtain ⟨vna, vnc, hvn⟩ := HasRows.form HK.out.next
          rw [kRows_len] at hvn
          subst hvn
          have HU : Hid (Has (Value.int .i64) 3 wr hi' (.slice (some ⟨zb, 0, none⟩) bn bn) (kRow m bn i bn)) := by
            have h1 := HO.out
            rw [Nat.sub_self, List.replicate_zero, List.append_nil] at h1
            have h2 : Has (Value.int .i64) 3 wr zb (.slice (some ⟨zb, 0, none⟩) bn bn) (kRow m bn i bn) := by
              show wr.ownsRow _ _ _ _ _ _
              rw [kRow_len]
              exact h1
            exact h2.mono hhi
          have g0 := HK.out.ker.at_ (i := 0) rfl
          have g1 := HK.out.ker.at_ (i := 1) rfl
          have g2 := HK.out.ker.f
          go_upto_region 24 with (at_builtin; refine wpList_append_row3 rfl _ _ 24 rfl i2 Try.underlying24 hi2 hz20 hz21 hz22 (.slice vna i vnc) rfl HK.out.next (.slice (some ⟨zb, 0, none⟩) bn bn) (kRow m bn i bn) HU.out _ rfl (by first | rfl | simp) (by rw [kRows_len]; omega) ?_; intro v5 w5 ho5 hg5 hb5; obtain ⟨wna, wnc, hwn⟩ := HasRows.form ho5; rw [List.length_append, kRows_len, List.length_singleton] at hwn; subst hwn; have hk5 := HK.out.ker.grown hg5 HK.out.vn_ne_ker; have s0 := hk5.at_ (i := 1) rfl; have s1 := hk5.f)
          have hk10 := HK.out.put ho5 hg5 hb5
          rw [← kRows_succ] at hk10
          have HK10 := Lib.hid hk10
          obtain ⟨W10, hW10⟩ : ∃ W, W = w5.setCell ⟨kb, 1, none⟩ (.slice wna (i + 1) wnc) := ⟨_, rfl⟩
          rw [← hW10] at HK10 ⊢
          clear ho5 hg5 hb5 hk5 s0 s1 g0 g1 g2 hk10 hW10 HU
          have t0 := HK10.out.ker.at_ (i := 0) rfl
          have t1 := HK10.out.ker.at_ (i := 1) rfl
          have HFN : Hid (E.map El.s = kF m bn (bn * (i + 1))) := by rw [Nat.mul_succ]; exact HF
          obtain ⟨ma, mc, HM2⟩ := HM.out
          by_cases hc : i + 1 = E.length
          · have hd : (((i + 1 : Nat) : Int) == (E.length : Int)) = true := by simp; omega
            have hdn : E.drop (i + 1) = [] := List.drop_eq_nil_of_le (by omega)
            rw [hdn, List.map_nil] at HK10
            obtain ⟨s, r0, hch⟩ := HK10.out.chan
            have hcl := fun ats ty => run_close_open (P := Try.prog) (w := W10) ats ty hch
            have HK11 := Lib.hid (HK10.out.set [] #[] rfl true s r0)
            go_wp2
            go_roundw
            case rel => exact ⟨i + 1, _, _, _, E, by omega, hE40, by rw [decide_eq_true hc, hdn]; exact HK11, HFN⟩
            case measure =>
              have h5 := HK11.out.ker.at_ (i := 1) rfl
              have h6 : ∀ (x : Option Value) (n : Nat), (∃ a c, x = some (.slice a n c)) → (match x with | some (.slice _ n _) => 41 - n | _ => 0) = 41 - n := by
                rintro _ n ⟨a, c, rfl⟩
                rfl
              have h7 := h6 _ (i + 1) ⟨_, _, h5⟩
              have h8 := h6 _ i HM.out
              exact Nat.lt_of_le_of_lt (Nat.le_of_eq h7) (Nat.lt_of_lt_of_le (by omega) (Nat.le_of_eq h8.symm))
          · have hd : (((i + 1 : Nat) : Int) == (E.length : Int)) = false := by simp; omega
            go_wp2
            go_roundw
            case rel => exact ⟨i + 1, _, _, _, E, by omega, hE40, by rw [decide_eq_false hc]; exact HK10, HFN⟩
            case measure =>
              simp only [HM2, t1]
              omega
    · obtain rfl : i = E.length := by omega
      rw [decide_eq_true rfl, List.drop_eq_nil_of_le (Nat.le_refl _), List.map_nil] at HK
      have hl : (kF m bn (bn * E.length)).length = E.length := by rw [← HF.out, List.length_map]
      obtain ⟨h1, h2, h3⟩ := HYES.out (bn * E.length) (by rw [hl]) (by rw [hl]; exact hE40)
      rw [hl] at h2
      rw [← HF.out] at h1
      subst h1; subst h2; subst h3
      go_upto_region 8 with fail
      refine opsTo_region ?_
      refine ks_shut (.agg #[.int .i64 0, .slice none 0 0, .slice none 0 0]) HK.out rfl (by simp [Region.wanted]) (by simp [go_sem, rcase]) ?_
      refine opsTo_value (v := .bool false) (w' := wr) rfl (by simp [Region.wanted]) (by go_simp) ?_
      refine opsTo_end ?_
      go_simp
      obtain ⟨va, vc, hvf, _⟩ := HK.out.own.form
      obtain ⟨na, nc, hvn⟩ := HasRows.form HK.out.next
      rw [List.length_map] at hvf
      rw [kRows_len] at hvn
      subst hvf; subst hvn
      have g0 := HK.out.ker.at_ (i := 0) rfl
      have g1 := HK.out.ker.at_ (i := 1) rfl
      have z0 := HK.out.res.at_ (i := 0) rfl
      have z1 := HK.out.res.at_ (i := 1) rfl
      have z2 := HK.out.res.f
      go_wp2
      have hZ := (HK.out.res.set 0 (.slice va E.length vc)).set 1 (.slice na E.length nc)
      have n0 := hZ.at_ (i := 0) rfl
      have n1 := hZ.at_ (i := 1) rfl
      refine bodyPost_ret (v := .tuple #[.agg #[(.slice va E.length vc), (.slice na E.length nc)], .bool true]) (by simp [results, Try.results25, go_sem, n0, n1]) rfl ?_
      obtain ⟨d1, d2, d3, d4⟩ := HK.out.done (.slice va E.length vc) (.slice na E.length nc)
      exact ⟨_, _, E, rfl, d1, d2, rfl, ⟨w.heap.size + 2, _, by omega, d3⟩, d4⟩
theorem impl_search (v : Value) (b : Int) (rows : List (List Int)) (out : List Int) (w : World) (h : LiesS w v b rows out) (hs : rows.length + tot rows + out.length ≤ 1048576) :
    Calls Try.prog 25 #[v] w (GivesKS (kerV b rows out) (kerR b rows out) (kerK b rows out) w) := by
  cases hk : formK b rows out with
  | true => exact impl_ker_yes v b rows out w h hs hk
  | false =>
    have h2 : kerK b rows out = false := by rw [kerK, hk]; rfl
    have h1 : kerV b rows out = [] := by rw [kerV, h2]; simp
    have h3 : kerR b rows out = [] := by rw [kerR, h2]; simp
    rw [h1, h2, h3]
    exact impl_ker_no v b rows out w h hs hk
end Kern
end Go.Proofs.Ytdgfecjakmdheaa
/- Contract of the program's FromLeast. No conditions beyond those that it states. -/
namespace Go.Proofs.Ytdgfecjakmdheaa
open Go.ChangeShapes Go.WideShapes Go.ChangeAt Go.RowKit
open Go.PlainAid Plain
set_option linter.unusedVariables false
namespace Kern
open Seqs Mins
/-- What reads the least digits first: whether there is one, its base, its next states, its terms. -/
def flK (b : Int) (rows : List (List Int)) (out : List Int) : Bool := kerK b rows out && decide ((kerV b rows out).length ≤ 16)
def flT (L : List Sq) : List Int := L.map fun s => s.o.getD 0 0
def flB (b : Int) (rows : List (List Int)) (out : List Int) : Int := if flK b rows out = true then b else 0
def flR (b : Int) (rows : List (List Int)) (out : List Int) : List (List Int) := if flK b rows out = true then kerR b rows out else []
def flO (b : Int) (rows : List (List Int)) (out : List Int) : List Int := if flK b rows out = true then flT (kerV b rows out) else []
theorem fl_no {b : Int} {rows : List (List Int)} {out : List Int} (h : flK b rows out = false) : flB b rows out = 0 ∧ flR b rows out = [] ∧ flO b rows out = [] := by simp [flB, flR, flO, h]
theorem fl_yes {b : Int} {rows : List (List Int)} {out : List Int} (h : flK b rows out = true) : flB b rows out = b ∧ flR b rows out = kerR b rows out ∧ flO b rows out = flT (kerV b rows out) := by simp [flB, flR, flO, h]
theorem flT_take {L : List Sq} {k : Nat} {s : Sq} (h : L[k]? = some s) : flT (L.take (k + 1)) = flT (L.take k) ++ [s.o.getD 0 0] := by
  obtain ⟨h1, rfl⟩ := List.getElem?_eq_some_iff.1 h
  rw [List.take_succ_eq_append_getElem h1]
  simp only [flT, List.map_append, List.map_cons, List.map_nil]
theorem flT_len (L : List Sq) : (flT L).length = L.length := by simp [flT]
/-- Each sequence that is found is valid. -/
theorem kerV_good {b : Int} {rows : List (List Int)} {out : List Int} : ∀ q ∈ kerV b rows out, IsSeq q.b q.r q.o := by
  unfold kerV
  split
  · rename_i h
    rw [kerK, Bool.and_eq_true] at h
    have hg := mini_good h.1
    have hs := hg.seq
    have hb : 0 < b.toNat := by have := hs.1; have := hg.base; omega
    have hm : Good (b.toNat : Int) (mini b rows out) := ⟨by rw [hg.base]; have := hs.1; have := hg.base; omega, hg.steady⟩
    exact fun q hq => (kF_good hb hm _ q hq).seq
  · intro q hq; cases hq
set_option maxRecDepth 100000 in
set_option maxHeartbeats 2000000 in
theorem impl_fl (v : Value) (b : Int) (rows : List (List Int)) (out : List Int) (w : World) (h : LiesS w v b rows out) (hs : rows.length + tot rows + out.length ≤ 1048576) :
    Calls Try.prog 11 #[v] w (GivesK (flB b rows out) (flR b rows out) (flO b rows out) (flK b rows out) w) := by
  obtain ⟨i0, hi, hz0, hz1, hz2⟩ := info_parts Ints.infoI
  have HS := Lib.hid h
  obtain ⟨an, cn, ao, co, rfl⟩ := h.form
  clear h
  have HB : Hid (Below w.heap.size w (w.alloc (Obj.cells #[Value.int .i64 b, Value.slice an rows.length cn, Value.slice ao out.length co] 27))) := (Below.refl _ _).alloc (Nat.le_refl _) _
  have HC := Lib.hid (Cells3.new w 27 (.int .i64 b) (.slice an rows.length cn) (.slice ao out.length co))
  have hbz : Below (w.alloc (Obj.cells #[Value.int .i64 b, Value.slice an rows.length cn, Value.slice ao out.length co] 27)).heap.size (w.alloc (Obj.cells #[Value.int .i64 b, Value.slice an rows.length cn, Value.slice ao out.length co] 27)) ((w.alloc (Obj.cells #[Value.int .i64 b, Value.slice an rows.length cn, Value.slice ao out.length co] 27)).alloc (Obj.cells #[Value.int .i64 0, Value.slice none 0 0, Value.slice none 0 0] 27)) := (Below.refl _ _).alloc (Nat.le_refl _) _
  have HB0 := Lib.hid (HB.out.trans (hbz.mono HB.out.size))
  have HC0 := Lib.hid (HC.out.below hbz)
  have hz := Cells3.new (w.alloc (Obj.cells #[Value.int .i64 b, Value.slice an rows.length cn, Value.slice ao out.length co] 27)) 27 (.int .i64 0) (.slice none 0 0) (.slice none 0 0)
  rw [size_alloc'] at hz
  have HZ0 := Lib.hid hz
  have HS0 := Lib.hid (HS.out.below HB0.out)
  clear hz hbz HB HC
  obtain ⟨W0, hW0⟩ : ∃ W, W = (w.alloc (Obj.cells #[Value.int .i64 b, Value.slice an rows.length cn, Value.slice ao out.length co] 27)).alloc (Obj.cells #[Value.int .i64 0, Value.slice none 0 0, Value.slice none 0 0] 27) := ⟨_, rfl⟩
  have hz0s : W0.heap.size = w.heap.size + 2 := by rw [hW0, size_alloc', size_alloc']
  have HCK := Lib.hid (impl_search _ b rows out _ HS0.out hs)
  rw [← hW0] at HB0 HC0 HZ0 HS0 HCK
  have HW0 := Lib.hid hW0
  have HZS := Lib.hid hz0s
  have HGD := Lib.hid (kerV_good (b := b) (rows := rows) (out := out))
  have HFK : Hid (flK b rows out = (kerK b rows out && decide ((kerV b rows out).length ≤ 16))) := rfl
  have HNO := Lib.hid (@fl_no b rows out)
  have HYES := Lib.hid (@fl_yes b rows out)
  obtain ⟨K, hK⟩ : ∃ x, x = kerK b rows out := ⟨_, rfl⟩
  obtain ⟨L, hL⟩ : ∃ x, x = kerV b rows out := ⟨_, rfl⟩
  obtain ⟨R, hR⟩ : ∃ x, x = kerR b rows out := ⟨_, rfl⟩
  rw [← hK, ← hL] at HFK
  rw [← hK, ← hL, ← hR] at HCK
  rw [← hL] at HGD
  rw [← hL, ← hR] at HYES
  have k0 := HC0.out.c0
  have k1 := HC0.out.c1
  have k2 := HC0.out.c2
  clear hK hL hR hs hz0s
  go_enter Try.func11, Try.ntmps11
  go_wp2_with fail
  rw [← HW0.out]
  refine HCK.out.mono ?_
  rintro e W1 ⟨vf, vn, E, rfl, ho, he, hm, ⟨lo, hi1, hlo, hn⟩, b1⟩
  have hml : E.length = L.length := by rw [← hm, List.length_map]
  obtain ⟨a, c, rfl, _⟩ := ho.form
  obtain ⟨a', c', rfl⟩ := HasRows.form hn
  rw [List.length_map, hml] at ho ⊢
  have hL40 : L.length ≤ 9223372036854775807 := by have := ho.small; rw [List.length_map] at this; omega
  have hbx : Below W1.heap.size W1 (W1.alloc (.cells #[.slice a L.length c, .slice a' R.length c'] 46)) := (Below.refl _ _).alloc (Nat.le_refl _) _
  have hx := CellsN.new W1 46 [.slice a L.length c, .slice a' R.length c']
  have hb2 := HB0.out.trans (b1.mono HB0.out.size)
  have HB2 := Lib.hid (hb2.trans (hbx.mono hb2.size))
  have HO2 := Lib.hid (ho.below hbx)
  have HE2 := Lib.hid (he.below hbx)
  have HN2 := Lib.hid (hn.below hbx)
  have HZ2 := Lib.hid ((HZ0.out.below b1).below hbx)
  have HC2 := Lib.hid ((HC0.out.below b1).below hbx)
  have HM := Lib.hid hm
  have HSZ2 : Hid (w.heap.size + 2 ≤ W1.heap.size ∧ W1.heap.size ≤ (W1.alloc (.cells #[.slice a L.length c, .slice a' R.length c'] 46)).heap.size ∧ W0.heap.size ≤ lo) := ⟨by have := HZS.out; have := b1.size; omega, hbx.size, hlo⟩
  have HKB := Lib.hid hx
  clear ho he hn hm b1 hb2 hbx hx hlo k0 k1 k2 hml HCK HZ0 HC0 HW0 HS0 HB0
  have x0 := HKB.out.at_ (i := 0) rfl
  have x1 := HKB.out.at_ (i := 1) rfl
  have k0 := HC2.out.c0
  have k1 := HC2.out.c1
  have k2 := HC2.out.c2
  have z0 := HZ2.out.c0
  have z1 := HZ2.out.c1
  have z2 := HZ2.out.c2
  have z3 := HZ2.out.f
  cases K with
  | false =>
    have HK := Lib.hid (show flK b rows out = false from HFK.out)
    go_wp2
    obtain ⟨q1, q2, q3⟩ := HNO.out HK.out
    have hZ3 := (((HZ2.out.set0 (.int .i64 0)).set1 (.slice none 0 0)).set2 (.slice none 0 0))
    have n0 := hZ3.c0
    have n1 := hZ3.c1
    have n2 := hZ3.c2
    refine bodyPost_ret (v := .tuple #[.agg #[.int .i64 0, .slice none 0 0, .slice none 0 0], .bool false]) (by simp [results, Try.results11, go_sem, n0, n1, n2]) rfl ?_
    rw [q1, q2, q3, HK.out]
    exact ⟨_, rfl, OwnS.zero _, ((HB2.out.setCell (Nat.le_succ _) _).setCell (Nat.le_succ _) _).setCell (Nat.le_succ _) _⟩
  | true =>
    by_cases h16 : L.length ≤ 16
    · have HK : Hid (flK b rows out = true) := by show _ = _; rw [HFK.out]; simp [h16]
      have hd := decide_eq_false (show ¬ (L.length : Int) > 16 by omega)
      have hdn := decide_eq_false (show ¬ 16 < L.length by omega)
      obtain ⟨e1, e2, e3⟩ := HYES.out HK.out
      have HV := Lib.hid (show flB b rows out = b ∧ flR b rows out = R ∧ flO b rows out = flT L from ⟨e1, e2, e3⟩)
      clear e1 e2 e3 HNO HYES HFK
      go_wp2
      obtain ⟨W2, hW2⟩ : ∃ W, W = W1.alloc (.cells #[.slice a L.length c, .slice a' R.length c'] 46) := ⟨_, rfl⟩
      have hws : W2.heap.size = W1.heap.size + 1 := by rw [hW2, size_alloc']
      have h3 : Below W2.heap.size W2 (W2.alloc (.cells #[.int .i64 b, .slice a' R.length c', .slice none 0 0] 27)) := (Below.refl _ _).alloc (Nat.le_refl _) _
      have hp3 := Cells3.new W2 27 (.int .i64 b) (.slice a' R.length c') (.slice none 0 0)
      rw [← hW2] at HB2 HO2 HE2 HN2 HZ2 HC2 HSZ2 HKB ⊢
      obtain ⟨p, hp⟩ : ∃ p, p = W2.heap.size := ⟨_, rfl⟩
      rw [← hp] at h3 hp3 HSZ2 hws
      have hw1p : W1.heap.size + 1 = p := hws.symm
      have H3 := Lib.hid h3
      have HP3 := Lib.hid hp3
      have HPS := Lib.hid hp
      have HWP := Lib.hid hw1p
      rw [hw1p]
      have hpl : W1.heap.size < p := by omega
      clear hW2 h3 hp3 hp x0 x1 k0 k1 k2 z0 z1 z2 z3 hd hdn hw1p hws
      go_loopw [31] (fun i' wr => ∃ (k : Nat) (vo : Value), k ≤ L.length ∧ i' = .int .i64 k ∧ Hid (Cells3 wr p 27 (.int .i64 b) (.slice a' R.length c') vo) ∧ Hid (Has (Value.int .i64) 3 wr (p + 1) vo (flT (L.take k))) ∧ Hid (Below p W2 wr)) (fun i' _ => L.length - (intOf i').toNat)
      case atStart => exact ⟨0, _, Nat.zero_le _, rfl, HP3, World.ownsRow_nil _ _ _ _, H3⟩
      case round =>
        obtain ⟨k, vo, hk, rfl, HP, HO, HB⟩ := hrel
        obtain ⟨W4, rfl⟩ : ∃ W : World, W = wr := ⟨_, rfl⟩
        have HBW : Hid (Below W2.heap.size W2 W4) := by show Below _ _ _; rw [← HPS.out]; exact HB.out
        by_cases hlt : k < L.length
        · obtain ⟨s, hs⟩ : ∃ s, L[k]? = some s := ⟨_, List.getElem?_eq_getElem hlt⟩
          have hsE := hs
          rw [← HM.out] at hsE
          obtain ⟨g, d, a1, c1, a2, c2, hv, p0, p1, p2, hls⟩ := elem_at (HO2.out.below HBW.out) (HE2.out.below HBW.out) hsE
          injection hv with hv1 hv2 hv3
          subst hv1; subst hv3
          have hsq := HGD.out s (List.mem_of_getElem? hs)
          obtain ⟨x, hx⟩ : ∃ x, s.o[0]? = some x := ⟨_, List.getElem?_eq_getElem (by have := hsq.2.2.1; have := hsq.2.2.2.2.1; omega)⟩
          have hol : 0 < s.o.length := (List.getElem?_eq_some_iff.1 hx).1
          obtain ⟨q, t, hq, hcx⟩ : ∃ q t, a2 = some ⟨q, t, none⟩ ∧ W4.cell? ⟨q, t + 0, none⟩ = some (.int .i64 x) := by
            obtain ⟨vn, vo, he, _, hl2⟩ := hls
            simp only [Value.agg.injEq, Array.mk.injEq, List.cons.injEq, and_true, true_and] at he
            obtain ⟨rfl, rfl⟩ := he
            obtain ⟨_, a3, c3, he3, _, hc3⟩ := hl2
            injection he3 with e1 e2 e3
            subst e1
            exact hc3 0 x hx
          rw [Nat.add_zero] at hcx
          subst hq
          have HFT : Hid (flT (L.take (k + 1)) = flT (L.take k) ++ [x]) := by
            show _ = _
            rw [flT_take hs, List.getD_eq_getElem?_getD, hx]
            rfl
          have HFL : Hid ((flT (L.take k)).length ≤ 16) := by show _ ≤ _; rw [flT_len, List.length_take]; omega
          obtain ⟨oa, oc, rfl, _⟩ := HO.out.form
          have hby : Below W4.heap.size W4 (W4.alloc (.cells #[.int .i64 s.b, .slice a1 s.r.length c1, .slice (some ⟨q, t, none⟩) s.o.length c2] 27)) := (Below.refl _ _).alloc (Nat.le_refl _) _
          have hY := Cells3.new W4 27 (.int .i64 s.b) (.slice a1 s.r.length c1) (.slice (some ⟨q, t, none⟩) s.o.length c2)
          have hP5 := HP.out.below hby
          have hO5 := HO.out.below hby
          have hcx5 := (hby.cell (p := ⟨q, t, none⟩) (World.block_lt_of_cell? _ _ hcx)).trans hcx
          have hpw : p < W4.heap.size := HP.out.lt
          have hB5 : Below p W2 (W4.alloc (.cells #[.int .i64 s.b, .slice a1 s.r.length c1, .slice (some ⟨q, t, none⟩) s.o.length c2] 27)) := HB.out.trans (hby.mono (Nat.le_of_lt hpw))
          have hkd : (k : Int) < (L.length : Int) := by omega
          clear hs hsE hls hsq hx hv2
          obtain ⟨F, hF⟩ : ∃ F, F = flT (L.take k) := ⟨_, rfl⟩
          rw [← hF] at HFT HFL HO hO5 HP hP5
          clear hF
          go_wp2_with fail
          obtain ⟨W5, hW5⟩ : ∃ W, W = W4.alloc (.cells #[.int .i64 s.b, .slice a1 s.r.length c1, .slice (some ⟨q, t, none⟩) s.o.length c2] 27) := ⟨_, rfl⟩
          rw [← hW5] at hby hY hP5 hO5 hcx5 hB5 ⊢
          clear hW5 p0 p1 p2 hcx HO HP HB
          have HY := Lib.hid hY
          have HP := Lib.hid hP5
          have HO := Lib.hid hO5
          have HB := Lib.hid hB5
          have f2 := hY.c2
          have l2 := hP5.c2
          have l2a := (hP5.alloc (.cells #[Value.int .i64 x] 3)).c2
          have HSW : Hid (p + 1 ≤ W5.heap.size) := by have := hby.size; show _ ≤ _; omega
          have HNP := Lib.hid (has_ne_c3 hO5 hP5 (by decide))
          clear hby hY hP5 hO5 hB5
          go_region_law (refine step_append_at_list (enc := (Value.int .i64)) (e := 3) rfl (.tmp 36) (.tmp 41) 25 rfl (p + 1) i0 (.int .i64 0) 8 Try.underlying25 hi hz0 hz1 hz2 rfl (.slice oa F.length oc) F rfl (by repeat (first | with_reducible exact HO.out | with_reducible apply has_alloc | with_reducible apply has_drew)) (Value.slice (some ⟨_, 0, none⟩) 1 1) [x] rfl (by repeat (first | (with_reducible refine lies_lit1 (enc := (Value.int .i64)) _ rfl) | with_reducible apply lies_alloc | with_reducible apply lies_drew)) (fun _ _ => rfl) (by have := HFL.out; simp; omega) (by have := HFL.out; simp; omega) (by have := HSW.out; simp; omega) ?_; intro vt w6 ho6 hg6 hb6; obtain ⟨a6, c6, hvf, _⟩ := ho6.form; rw [show (F ++ [x]).length = F.length + 1 from by simp] at hvf; subst hvf; refine with_fact (T := W5.grownBy w6 (Value.slice oa F.length oc).ownBlock) ?_ ?_; (focus (first | exact grown_drew (grown_alloc hg6) | exact grown_alloc hg6)); intro hg7; have hc7 := HP.out.grown hg7 HNP.out; have r1 := hc7.c2; have r3 := hc7.f)
          all_goals
            go_wp2
            have HP9 := Lib.hid (hc7.set2 (.slice a6 (F.length + 1) c6))
            have HO9 : Hid (Has (Value.int .i64) 3 (w6.setCell ⟨p, 2, none⟩ (.slice a6 (F.length + 1) c6)) (p + 1) (.slice a6 (F.length + 1) c6) (flT (L.take (k + 1)))) := by
              show Has _ _ _ _ _ _
              rw [HFT.out]
              exact ho6.of_same fun j hj => by
                have : p ≠ j := by have := (ho6.lt j hj).1; omega
                simp [World.setCell, Array.getElem?_modify, this]
            have HB9 : Hid (Below p W2 (w6.setCell ⟨p, 2, none⟩ (.slice a6 (F.length + 1) c6))) := (HB.out.grown hg7 (by have := HSW.out; omega) (fun j hj => by have := (HO.out.lt j hj).1; omega)).setCell (Nat.le_refl p) _
            go_roundw
            case rel => exact ⟨k + 1, _, by omega, by go_num, HP9, HO9, HB9⟩
            case measure => simp [intOf] <;> omega
        · have hE : k = L.length := by omega
          have HOE : Hid (Has (Value.int .i64) 3 W4 (p + 1) vo (flT L)) := by
            have h := HO.out
            rw [List.take_of_length_le (by omega)] at h
            exact h
          obtain ⟨oa, oc, rfl, _⟩ := HOE.out.form
          obtain ⟨us, hR⟩ := HN2.out.ownR
          rw [← HPS.out] at hR
          have hR4 : OwnR W4 lo p (.slice a' R.length c') us R := ⟨hR.top.below HBW.out, hR.lt, Nat.le_of_lt HP.out.lt, hR.rows.below HBW.out⟩
          have hI4 : OwnI W4 p W4.heap.size (.slice oa (flT L).length oc) (flT L) := ⟨HOE.out.mono (Nat.le_succ p), fun j hj => (HOE.out.lt j hj).2, Nat.le_refl _⟩
          have hlo2 : w.heap.size + 2 ≤ lo := by have := HSZ2.out.2.2; have := HZS.out; omega
          have hV : OwnS W4 (w.heap.size + 2) W4.heap.size (.agg #[.int .i64 b, .slice a' R.length c', .slice oa (flT L).length oc]) b R (flT L) := OwnS.make hR4 hI4 hlo2 (by have := HN2.out.hi_le; have := HPS.out; omega) (Nat.le_of_lt HP.out.lt)
          have HOS := Lib.hid hV
          have HZR := Lib.hid (HZ2.out.below HBW.out)
          have HBR := Lib.hid (HB2.out.trans (HBW.out.mono HB2.out.size))
          have m0 := HP.out.c0
          have m1 := HP.out.c1
          have m2 := HP.out.c2
          have z0 := HZR.out.c0
          have z1 := HZR.out.c1
          have z2 := HZR.out.c2
          have z3 := HZR.out.f
          have hkd : ¬ (k : Int) < (L.length : Int) := by omega
          clear hE hR hR4 hI4 hlo2 hV HO
          obtain ⟨T, hT⟩ : ∃ T, T = flT L := ⟨_, rfl⟩
          rw [← hT] at HOS HP m2 HV
          clear hT HOE
          go_wp2
          have hZ3 := (((HZR.out.set0 (.int .i64 b)).set1 (.slice a' R.length c')).set2 (.slice oa T.length oc))
          have n0 := hZ3.c0
          have n1 := hZ3.c1
          have n2 := hZ3.c2
          refine bodyPost_ret (v := .tuple #[.agg #[.int .i64 b, .slice a' R.length c', .slice oa T.length oc], .bool true]) (by simp [results, Try.results11, go_sem, n0, n1, n2]) rfl ?_
          rw [HV.out.1, HV.out.2.1, HV.out.2.2, HK.out]
          refine ⟨_, rfl, ?_, ((HBR.out.setCell (Nat.le_succ _) _).setCell (Nat.le_succ _) _).setCell (Nat.le_succ _) _⟩
          have hT : ∀ (i : Nat) (u : Value) (W : World), Plain.Touch (w.heap.size + 1) (w.heap.size + 2) W (W.setCell ⟨w.heap.size + 1, i, none⟩ u) := fun i u W => Plain.Touch.of_set (a := ⟨w.heap.size + 1, i, none⟩) u (Nat.le_refl _) (Nat.lt_succ_self _)
          have T0 : Plain.Touch (w.heap.size + 1) (w.heap.size + 2) W4 (((W4.setCell ⟨w.heap.size + 1, 0, none⟩ (.int .i64 b)).setCell ⟨w.heap.size + 1, 1, none⟩ (.slice a' R.length c')).setCell ⟨w.heap.size + 1, 2, none⟩ (.slice oa T.length oc)) := ((hT 0 _ _).trans (hT 1 _ _)).trans (hT 2 _ _)
          have h1 := (HOS.out.touch T0 (.inr (Nat.le_refl _))).lower (show w.heap.size ≤ w.heap.size + 2 by omega)
          simpa only [size_setCell'] using h1
    · have HK : Hid (flK b rows out = false) := by show _ = _; rw [HFK.out]; simp; omega
      have hd := decide_eq_true (show (L.length : Int) > 16 by omega)
      have hdn := decide_eq_true (show 16 < L.length by omega)
      go_wp2
      obtain ⟨q1, q2, q3⟩ := HNO.out HK.out
      have hZ3 := (((HZ2.out.set0 (.int .i64 0)).set1 (.slice none 0 0)).set2 (.slice none 0 0))
      have n0 := hZ3.c0
      have n1 := hZ3.c1
      have n2 := hZ3.c2
      refine bodyPost_ret (v := .tuple #[.agg #[.int .i64 0, .slice none 0 0, .slice none 0 0], .bool false]) (by simp [results, Try.results11, go_sem, n0, n1, n2]) rfl ?_
      rw [q1, q2, q3, HK.out]
      exact ⟨_, rfl, OwnS.zero _, ((HB2.out.setCell (Nat.le_succ _) _).setCell (Nat.le_succ _) _).setCell (Nat.le_succ _) _⟩
end Kern
end Go.Proofs.Ytdgfecjakmdheaa
/- The terms of the sequences of a kernel, and of what reads the least digits first. No conditions beyond those that each fact states. -/
namespace Go.Proofs.Ytdgfecjakmdheaa
open Go.ChangeShapes Go.WideShapes Go.ChangeAt Go.RowKit
open Go.PlainAid Plain
set_option linter.unusedVariables false
namespace Kern
open Seqs Mins Digits
theorem form_term' {b : Int} {rows : List (List Int)} {out : List Int} (hk : formK b rows out = true) (j : Nat) : termG b (formR b rows out) (formO b rows out) j = termG b rows out j := by
  have hv := form_valid hk
  have hB : formB b rows out = b := by rw [formB, if_pos hk]
  rw [hB] at hv
  have hd := (dig_ok hv (j : Int)).1
  have hd' : ∀ d ∈ digV (j : Int) b, 0 ≤ d ∧ d < ((b.toNat : Nat) : Int) := fun d h => by have := hd d h; omega
  rcases form_parts b rows out with ⟨_, _, _, h2, h3⟩ | ⟨h1, _⟩ | ⟨hq, _, _, _, _, h2, h3⟩
  · rw [h2, h3]
  · rw [hk] at h1; cases h1
  · rw [h2, h3, termG, termG]
    have hq' := (seqB_out hq).auto
    exact steady_out hq' hd' (digV_head _ _)
/-- Room for a longer number changes no digits. -/
theorem lows_more (b : Nat) (hb : 2 ≤ b) : ∀ (f n : Nat), n < b ^ f → lows b (f + 1) n = lows b f n := by
  intro f
  induction f with
  | zero => intro n h; rw [Nat.pow_zero] at h; rw [show n = 0 from by omega, lows_zero, lows_zero]
  | succ f ih =>
    intro n h
    rcases Nat.eq_zero_or_pos n with rfl | h0
    · rw [lows_zero, lows_zero]
    · rw [lows_succ b (f + 1) n h0, lows_succ b f n h0, ih (n / b) (Nat.div_lt_of_lt_mul (by rw [Nat.pow_succ, Nat.mul_comm] at h; exact h))]
/-- One digit more. -/
theorem after_more {rows : List (List Int)} {b n r : Nat} (hb : 2 ≤ b) (hr : r < b) (hz : nextS rows 0 0 = 0) (h : b * n + r < b ^ 16) :
    afterS rows (digs (b * n + r) b) = nextS rows (afterS rows (digs n b)) (r : Int) := by
  have hn : n < b ^ 15 := by
    have h3 : b ^ 16 = b ^ 15 * b := Nat.pow_succ b 15
    have h2 : b * n < b * b ^ 15 := by rw [Nat.mul_comm b (b ^ 15), ← h3]; omega
    exact Nat.lt_of_mul_lt_mul_left h2
  rcases Nat.eq_zero_or_pos (b * n + r) with h0 | h0
  · have hr0 : r = 0 := by omega
    have hn0 : n = 0 := by
      rcases Nat.eq_zero_or_pos n with e | e
      · exact e
      · have := Nat.mul_pos (show 0 < b by omega) e; omega
    subst hr0
    subst hn0
    rw [h0, digs, lows_zero]
    exact hz.symm
  · rw [digs, digs, lows_succ b 15 _ h0, List.reverse_cons, afterS_snoc, Nat.mul_add_mod, Nat.mod_eq_of_lt hr, Nat.mul_add_div (by omega), Nat.div_eq_of_lt hr, Nat.add_zero, lows_more b hb 15 n hn]
theorem termG_nat {rows : List (List Int)} {out : List Int} {b n : Nat} (h2 : 2 ≤ b) (h4 : b ≤ 4) (h : n < b ^ 16) : termG (b : Int) rows out n = out.getD (afterS rows (digs n b)).toNat 0 := by
  rw [termG, digV_in n b h2 h4 h]
/-- The terms of one sequence of the kernel. -/
theorem sub_term {b r : Nat} {rows : List (List Int)} {out : List Int} (hs : subK (b : Int) rows out (r : Int) = true) (n : Nat) (h : b * n + r < b ^ 16) :
    termG (b : Int) (subR (b : Int) rows out (r : Int)) (subO (b : Int) rows out (r : Int)) n = termG (b : Int) rows out (b * n + r) := by
  have hok : subOK (b : Int) rows out (r : Int) = true := by
    cases ho : subOK (b : Int) rows out (r : Int) with
    | true => rfl
    | false => rw [(sub_no ho).2.2.2] at hs; cases hs
  obtain ⟨_, e2, e3, e4⟩ := sub_yes hok
  rw [e4] at hs
  obtain ⟨hk, h0, h1⟩ := sub_parts hok
  have hB : formB (b : Int) rows out = (b : Int) := by rw [formB, if_pos hk]
  have hz : nextS (formR (b : Int) rows out) 0 0 = 0 := form_steady hk
  have hv := form_valid hk
  rw [hB] at hv hs e2 e3
  have h2 : 2 ≤ b := by have := hv.1; omega
  have h4 : b ≤ 4 := by have := hv.2.1; omega
  have hr : r < b := by omega
  have hn : n < b ^ 16 := by
    have : 1 * n ≤ b * n := Nat.mul_le_mul_right n (by omega)
    omega
  rw [e2, e3, min_term hs n, ← form_term' hk (b * n + r), termG_nat h2 h4 hn, termG_nat h2 h4 h, after_more h2 hr hz h]
  obtain ⟨R, hR⟩ : ∃ R, R = formR (b : Int) rows out := ⟨_, rfl⟩
  obtain ⟨O, hO⟩ : ∃ O, O = formO (b : Int) rows out := ⟨_, rfl⟩
  rw [← hR, ← hO] at hv
  have ha := hv.after (digs n b) fun d hd => digs_mem n b h2 d hd
  rw [subE, ← hR, ← hO]
  obtain ⟨s, hs'⟩ : ∃ s, s = afterS R (digs n b) := ⟨_, rfl⟩
  rw [← hs'] at ha ⊢
  rw [subT, subP, List.getD_eq_getElem?_getD, List.getElem?_map, List.getElem?_range (by omega), Option.map_some, Option.getD_some, subX, show ((s.toNat : Nat) : Int) = s from by omega]
theorem Good.term {b : Nat} {q : Sq} (h : Good (b : Int) q) {r n : Nat} (hr : r < b) (hn : b * n + r < b ^ 16) : termG (b : Int) (Kern.sub q (r : Int)).r (Kern.sub q (r : Int)).o n = termG (b : Int) q.r q.o (b * n + r) := by
  have hs := (h.sub (r := (r : Int)) (by omega) (by omega)).2
  have hb := h.base
  obtain ⟨qb, qr, qo⟩ := q
  simp only at hb
  subst hb
  exact sub_term hs n hn
/-- Along the digits, least first. -/
def subs (q : Sq) (ds : List Int) : Sq := ds.foldl sub q
theorem subs_term {b : Nat} (h2 : 2 ≤ b) (h4 : b ≤ 4) : ∀ (f : Nat), f ≤ 16 → ∀ (n : Nat) (q : Sq), Good (b : Int) q → n < b ^ f →
    (subs q (lows b f n)).o.getD 0 0 = termG (b : Int) q.r q.o n := by
  have hz : ∀ q : Sq, q.o.getD 0 0 = termG (b : Int) q.r q.o 0 := by
    intro q
    rw [termG_nat h2 h4 (Nat.pow_pos (by omega)), digs, lows_zero]
    rfl
  intro f
  induction f with
  | zero =>
    intro _ n q hq h
    rw [Nat.pow_zero] at h
    rw [show n = 0 from by omega, lows_zero]
    exact hz q
  | succ f ih =>
    intro hf n q hq h
    rcases Nat.eq_zero_or_pos n with rfl | h0
    · rw [lows_zero]
      exact hz q
    · have hr : n % b < b := Nat.mod_lt _ (by omega)
      have hd := Nat.div_add_mod n b
      rw [lows_succ b f n h0, subs, List.foldl_cons]
      have := ih (by omega) (n / b) (sub q ((n % b : Nat) : Int)) (hq.sub (by omega) (by omega)).1 (Nat.div_lt_of_lt_mul (by rw [Nat.pow_succ, Nat.mul_comm] at h; exact h))
      rw [subs] at this
      rw [this, hq.term hr (by rw [hd]; exact Nat.lt_of_lt_of_le h (Nat.pow_le_pow_right (by omega) hf)), hd]
theorem ker_next {m : Sq} {b i r : Nat} {f : Sq} (hb : 0 < b) (h40 : (kerL m b).length ≤ 40) (hf : (kerL m b)[i]? = some f) (hr : r < b) :
    ∃ pa : Nat, (kerL m b)[pa]? = some (sub f (r : Int)) ∧ nextS (kRows m b (kerL m b).length) (i : Int) (r : Int) = (pa : Int) := by
  obtain ⟨pa, h1, h2⟩ := ker_at hb h40 hf hr
  refine ⟨pa, h1, ?_⟩
  have hi := (List.getElem?_eq_some_iff.1 hf).1
  rw [kRow_succ] at h2
  have h3 := List.append_cancel_left h2
  injection h3 with h4
  rw [nextS, Int.toNat_natCast, Int.toNat_natCast, List.getD_eq_getElem?_getD (l := kRows _ _ _), kRows, List.getElem?_map, List.getElem?_range hi, Option.map_some, Option.getD_some, kRow, List.getD_eq_getElem?_getD, List.getElem?_map, List.getElem?_range hr, Option.map_some, Option.getD_some, h4]
theorem ker_walk {m : Sq} {b : Nat} (hb : 0 < b) (h40 : (kerL m b).length ≤ 40) : ∀ (ds : List Int), (∀ d ∈ ds, 0 ≤ d ∧ d < (b : Int)) → ∀ (i : Nat) (f : Sq), (kerL m b)[i]? = some f →
    ∃ pa : Nat, ds.foldl (nextS (kRows m b (kerL m b).length)) (i : Int) = (pa : Int) ∧ (kerL m b)[pa]? = some (subs f ds) := by
  intro ds
  induction ds with
  | nil => intro _ i f hf; exact ⟨i, rfl, hf⟩
  | cons d ds ih =>
    intro hd i f hf
    have h1 := hd d List.mem_cons_self
    obtain ⟨r, rfl⟩ := Int.eq_ofNat_of_zero_le h1.1
    obtain ⟨pa, h2, h3⟩ := ker_next hb h40 hf (show r < b by omega)
    rw [List.foldl_cons, h3, subs, List.foldl_cons]
    exact ih (fun x hx => hd x (List.mem_cons_of_mem _ hx)) pa _ h2
/-- What holds where there is a sequence that reads the least digits first. -/
theorem fl_parts {b : Int} {rows : List (List Int)} {out : List Int} (h : flK b rows out = true) :
    ∃ bn : Nat, b = (bn : Int) ∧ 2 ≤ bn ∧ bn ≤ 4 ∧ formK b rows out = true ∧ Good (bn : Int) (mini b rows out) ∧ (kerL (mini b rows out) bn).length ≤ 16 ∧ kerV b rows out = kerL (mini b rows out) bn ∧ kerR b rows out = kRows (mini b rows out) bn (kerL (mini b rows out) bn).length := by
  rw [flK, Bool.and_eq_true, decide_eq_true_eq] at h
  obtain ⟨hk, hl⟩ := h
  have hV : kerV b rows out = kerL (mini b rows out) b.toNat := by rw [kerV, if_pos hk]
  have hR : kerR b rows out = kRows (mini b rows out) b.toNat (kerL (mini b rows out) b.toNat).length := by rw [kerR, if_pos hk, hV]
  rw [hV] at hl
  rw [kerK, Bool.and_eq_true] at hk
  have hg := mini_good hk.1
  have hs := hg.seq
  have hb := hg.base
  have hb2 := hs.1
  have hb4 := hs.2.1
  rw [hb] at hb2 hb4
  have e : ((b.toNat : Nat) : Int) = b := Int.toNat_of_nonneg (by omega)
  exact ⟨b.toNat, e.symm, by omega, by omega, hk.1, by rw [e]; exact hg, hl, hV, hR⟩
theorem kerL_zero (m : Sq) (b : Nat) : (kerL m b)[0]? = some m := kF_get (n := 0) (Nat.zero_le _) rfl
/-- It is a sequence. -/
theorem fl_seq {b : Int} {rows : List (List Int)} {out : List Int} (h : flK b rows out = true) : IsSeq (flB b rows out) (flR b rows out) (flO b rows out) := by
  obtain ⟨e1, e2, e3⟩ := fl_yes h
  obtain ⟨bn, rfl, h2, h4, hk, hg, h16, hV, hR⟩ := fl_parts h
  rw [e1, e2, e3, hV, hR]
  obtain ⟨m, hm⟩ : ∃ m, m = mini (bn : Int) rows out := ⟨_, rfl⟩
  rw [← hm] at hg h16 ⊢
  have hL1 : 0 < (kerL m bn).length := (List.getElem?_eq_some_iff.1 (kerL_zero m bn)).1
  refine isSeq_of (by omega) (by omega) (by rw [kRows_len]; exact hL1) (by rw [kRows_len]; exact h16) (by rw [flT_len, kRows_len]) (fun i r hr => ?_) (fun i o ho => ?_)
  · have hi : i < (kerL m bn).length := by have := (List.getElem?_eq_some_iff.1 hr).1; rwa [kRows_len] at this
    rw [kRows, List.getElem?_map, List.getElem?_range hi, Option.map_some] at hr
    have hr' := Option.some.inj hr
    refine ⟨by rw [← hr', kRow_len], fun k x hx => ?_⟩
    have hkb : k < bn := by have := (List.getElem?_eq_some_iff.1 hx).1; rwa [← hr', kRow_len] at this
    obtain ⟨pa, h5, h6⟩ := ker_next (by omega) (by omega) (List.getElem?_eq_getElem hi) hkb
    have h7 := (List.getElem?_eq_some_iff.1 h5).1
    rw [nextS, Int.toNat_natCast, Int.toNat_natCast, List.getD_eq_getElem?_getD (l := kRows _ _ _), kRows, List.getElem?_map, List.getElem?_range hi, Option.map_some, Option.getD_some, hr', List.getD_eq_getElem?_getD, hx, Option.getD_some] at h6
    rw [kRows_len]
    omega
  · rw [flT, List.getElem?_map] at ho
    cases hf : (kerL m bn)[i]? with
    | none => rw [hf] at ho; cases ho
    | some f =>
      rw [hf, Option.map_some] at ho
      have ho' := Option.some.inj ho
      have hq := (kF_good (b := bn) (by omega) hg _ f (List.mem_of_getElem? hf)).seq
      rw [← ho']
      refine hq.2.2.2.2.2.2 _ ?_
      rw [List.getD_eq_getElem?_getD, List.getElem?_eq_getElem (by have := hq.2.2.1; have := hq.2.2.2.2.1; omega), Option.getD_some]
      exact List.getElem_mem _
/-- Read the least digits first it has the terms of the sequence. -/
theorem fl_term {b : Int} {rows : List (List Int)} {out : List Int} (h : flK b rows out = true) (n : Nat) (hn : n < b.toNat ^ 16) :
    askB (flB b rows out) (flR b rows out) (flO b rows out) (n : Int) = true ∧ (flO b rows out).getD (afterS (flR b rows out) (digV (n : Int) (flB b rows out)).reverse).toNat 0 = termG b rows out n := by
  have hq := fl_seq h
  obtain ⟨e1, e2, e3⟩ := fl_yes h
  obtain ⟨bn, rfl, h2, h4, hk, hg, h16, hV, hR⟩ := fl_parts h
  rw [Int.toNat_natCast] at hn
  have hask : askB (flB (bn : Int) rows out) (flR (bn : Int) rows out) (flO (bn : Int) rows out) (n : Int) = true := by
    rw [askB, seqB_yes hq, Bool.true_and, Bool.and_eq_true, decide_eq_true_eq, decide_eq_true_eq, e1, powV_in bn h2 h4]
    exact ⟨Int.natCast_nonneg _, Int.ofNat_lt.2 hn⟩
  refine ⟨hask, ?_⟩
  rw [e1, e2, e3, hV, hR, digV_in n bn h2 h4 hn, digs, List.reverse_reverse]
  obtain ⟨m, hm⟩ : ∃ m, m = mini (bn : Int) rows out := ⟨_, rfl⟩
  obtain ⟨pa, h5, h6⟩ := ker_walk (m := mini (bn : Int) rows out) (b := bn) (by omega) (by omega) (lows bn 16 n) (lows_mem bn h2 16 n) 0 _ (kerL_zero _ _)
  rw [afterS]
  have h5' : List.foldl (nextS (kRows (mini (bn : Int) rows out) bn (kerL (mini (bn : Int) rows out) bn).length)) 0 (lows bn 16 n) = (pa : Int) := h5
  rw [h5', Int.toNat_natCast, flT, List.getD_eq_getElem?_getD, List.getElem?_map, h6, Option.map_some, Option.getD_some, subs_term h2 h4 16 (Nat.le_refl _) n _ hg hn]
  exact min_term hk n
end Kern
end Go.Proofs.Ytdgfecjakmdheaa
