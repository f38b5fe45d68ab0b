/- Contracts of ConstantSequence, of the model and of the program. No conditions beyond those that each states. -/
import Derived.Test.YtjgcmklckchomaaSeqBuild
import Derived.Test.YtjgcmklckchomaaSeqIsI
import Derived.Test.YtjgcmklckchomaaSeqForm
namespace Go.Proofs.Ytjgcmklckchomaa
open Go.ChangeShapes Go.WideShapes Go.ChangeAt Go.RowKit
open Go.PlainAid Plain
set_option linter.unusedVariables false
namespace Comb
open Seqs
def conK (b v : Int) : Bool := decide ((2 ≤ b ∧ b ≤ 4) ∧ 0 ≤ v ∧ v ≤ 3)
def conB (b v : Int) : Int := if conK b v = true then b else 0
def conR (b v : Int) : List (List Int) := if conK b v = true then [List.replicate b.toNat 0] else []
def conO (b v : Int) : List Int := if conK b v = true then [v] else []
theorem con_no {b v : Int} (h : conK b v = false) : conB b v = 0 ∧ conR b v = [] ∧ conO b v = [] := by
  unfold conB conR conO
  rw [h]
  simp
theorem con_size (b v : Int) : tot (conR b v) + (conO b v).length ≤ 1000 := by
  unfold conR conO
  cases h : conK b v with
  | false => simp [tot]
  | true =>
    have h1 := of_decide_eq_true h
    simp only [if_true, tot]
    simp
    omega
theorem con_top {W : World} {lo : Nat} {us : List Value} {rows : List (List Int)} (h : OwnRows W lo W.heap.size us rows) (hlo : lo ≤ W.heap.size) (hu : us.length ≤ 100) :
    OwnR (W.alloc (.cells us.toArray 23)) lo (W.alloc (.cells us.toArray 23)).heap.size (.slice (some ⟨W.heap.size, 0, none⟩) us.length us.length) us rows := by
  have hb : Below W.heap.size W (W.alloc (.cells us.toArray 23)) := (Below.refl _ _).alloc (Nat.le_refl _) _
  have h1 : Has id 23 (W.alloc (.cells (us.map id).toArray 23)) lo (.slice (some ⟨W.heap.size, 0, none⟩) us.length us.length) us := Has.lit (enc := id) (e := 23) W us hlo (by omega)
  rw [List.map_id] at h1
  exact ⟨h1, fun k hk => (h1.lt k hk).2, Nat.le_refl _, (h.below hb).mono hb.size (Nat.le_refl _)⟩
theorem con_out {W : World} {lo base : Nat} {vn : Value} {us : List Value} {b : Int} {rows : List (List Int)} (h : OwnR W lo W.heap.size vn us rows) (hb : base ≤ lo) (hlo : lo ≤ W.heap.size) (xs : List Int) (hx : xs.length ≤ 100) :
    OwnS (W.alloc (.cells (xs.map (Value.int .i64)).toArray 3)) base (W.alloc (.cells (xs.map (Value.int .i64)).toArray 3)).heap.size (.agg #[.int .i64 b, vn, .slice (some ⟨W.heap.size, 0, none⟩) xs.length xs.length]) b rows xs := by
  have hbb : Below W.heap.size W (W.alloc (.cells (xs.map (Value.int .i64)).toArray 3)) := (Below.refl _ _).alloc (Nat.le_refl _) _
  have h1 : Has (Value.int .i64) 3 (W.alloc (.cells (xs.map (Value.int .i64)).toArray 3)) W.heap.size (.slice (some ⟨W.heap.size, 0, none⟩) xs.length xs.length) xs := Has.lit (enc := Value.int .i64) (e := 3) W xs (Nat.le_refl _) (by omega)
  exact OwnS.make (h.below hbb) ⟨h1, fun k hk => (h1.lt k hk).2, Nat.le_refl _⟩ hb hlo hbb.size
set_option maxRecDepth 100000 in
set_option maxHeartbeats 1000000 in
theorem impl_const (b v : Int) (w : World) :
    Calls Try.prog 22 #[.int .i64 b, .int .i64 v] w (GivesK (conB b v) (conR b v) (conO b v) (conK b v) w) := by
  obtain ⟨i0, hi0, hz0, hz1, hz2⟩ := info_parts Ints.infoI
  by_cases hb : 2 ≤ b ∧ b ≤ 4
  case neg =>
    have hk : conK b v = false := decide_eq_false fun h => hb h.1
    have HBN := Lib.hid (show b < 2 ∨ 4 < b by omega)
    clear hb
    have HN := Lib.hid (con_no hk)
    have HK := Lib.hid hk
    rw [HN.out.1, HN.out.2.1, HN.out.2.2, HK.out]
    clear hk
    go_enter Try.func22, Try.ntmps22
    go_wp2_with fail
    refine (Digits.base_no _ _ HBN.out).mono ?_
    rintro e w' ⟨rfl, rfl⟩
    go_wp2
    refine bodyPost_ret (v := .tuple #[.agg #[.int .i64 0, .slice none 0 0, .slice none 0 0], .bool false]) (by simp [results, Try.results22, go_sem]) rfl ⟨_, rfl, OwnS.zero _, ?_⟩
    exact (Below.refl _ _).alloc (Nat.le_refl _) _
  case pos =>
  obtain ⟨hb2, hb4⟩ := hb
  by_cases hv : 0 ≤ v ∧ v ≤ 3
  case neg =>
    have hk : conK b v = false := decide_eq_false fun h => hv h.2
    have HBN := Lib.hid (show v < 0 ∨ 3 < v by omega)
    clear hv
    have HN := Lib.hid (con_no hk)
    have HK := Lib.hid hk
    rw [HN.out.1, HN.out.2.1, HN.out.2.2, HK.out]
    clear hk
    go_enter Try.func22, Try.ntmps22
    go_wp2_with fail
    refine (Digits.base_yes _ _ hb2 hb4).mono ?_
    rintro e w' ⟨rfl, rfl⟩
    go_wp2_with fail
    refine (term_no _ _ HBN.out).mono ?_
    rintro e w' ⟨rfl, rfl⟩
    go_wp2
    refine bodyPost_ret (v := .tuple #[.agg #[.int .i64 0, .slice none 0 0, .slice none 0 0], .bool false]) (by simp [results, Try.results22, go_sem]) rfl ⟨_, rfl, OwnS.zero _, ?_⟩
    exact (Below.refl _ _).alloc (Nat.le_refl _) _
  case pos =>
    obtain ⟨hv0, hv3⟩ := hv
    have hk : conK b v = true := decide_eq_true ⟨⟨hb2, hb4⟩, hv0, hv3⟩
    obtain ⟨n, rfl⟩ : ∃ n : Nat, b = (n : Int) := ⟨b.toNat, by omega⟩
    have HE := Lib.hid (show conB (n : Int) v = (n : Int) ∧ conR (n : Int) v = [List.replicate n 0] ∧ conO (n : Int) v = [v] from by
      unfold conB conR conO
      rw [hk]
      exact ⟨rfl, rfl, rfl⟩)
    rw [HE.out.1, HE.out.2.1, HE.out.2.2, hk]
    have HZ := Lib.hid (Cells3.new w 27 (.int .i64 0) (.slice none 0 0) (.slice none 0 0))
    clear hk
    go_enter Try.func22, Try.ntmps22
    go_wp2_with fail
    refine (Digits.base_yes _ _ hb2 hb4).mono ?_
    rintro e w' ⟨rfl, rfl⟩
    go_wp2_with fail
    refine (term_yes _ _ hv0 hv3).mono ?_
    rintro e w' ⟨rfl, rfl⟩
    have hb1 : Below w.heap.size w (w.alloc (Obj.cells #[Value.int .i64 0, Value.slice none 0 0, Value.slice none 0 0] 27)) := (Below.refl _ _).alloc (Nat.le_refl _) _
    obtain ⟨W1, hW1⟩ : ∃ W, W = w.alloc (Obj.cells #[Value.int .i64 0, Value.slice none 0 0, Value.slice none 0 0] 27) := ⟨_, rfl⟩
    rw [← hW1] at HZ hb1 ⊢
    clear hW1
    have HB1 := Lib.hid hb1
    clear hb1
    have z0 := HZ.out.c0
    have z1 := HZ.out.c1
    have z2 := HZ.out.c2
    have z3 := HZ.out.f
    go_wp2_with (at_make; refine wpList_make_full W1 rfl _ _ 23 rfl W1.heap.size 3 i0 (.int .i64 0) 1 Try.underlying23 hi0 hz0 hz1 .i64 .i64 _ _ n rfl rfl rfl rfl (by rw [hz2]; omega) (by unfold maxLen; omega) (Nat.le_refl _) ?_; intro w1 hown hgrow; have hbw := below_of_grown hgrow; have HB2 := Lib.hid hbw; have HOW := Lib.hid hown; have HZ1 := Lib.hid (((HZ.out.below hbw).alloc (.cells #[.slice (some ⟨W1.heap.size, 0, none⟩) n n] 23)).alloc (.cells #[.int .i64 v] 3)); have z0' := HZ1.out.c0; have z1' := HZ1.out.c1; have z2' := HZ1.out.c2; have z3' := HZ1.out.f)
    have hR : Has (Value.int .i64) 3 w1 W1.heap.size (.slice (some ⟨W1.heap.size, 0, none⟩) n n) (List.replicate n 0) := Ints.made_has HOW.out
    have hRows : OwnRows w1 W1.heap.size w1.heap.size [.slice (some ⟨W1.heap.size, 0, none⟩) n n] [List.replicate n 0] := (OwnRows.nil w1 W1.heap.size W1.heap.size).snoc ⟨hR, fun k hk => (hR.lt k hk).2, Nat.le_refl _⟩ (Nat.le_refl _) HB2.out.size
    have hlt := HZ.out.lt
    have hS := con_out (b := (n : Int)) (base := w.heap.size + 1) (con_top hRows HB2.out.size (by simp)) (show w.heap.size + 1 ≤ W1.heap.size by omega) (by have := HB2.out.size; simp only [size_alloc'] <;> omega) [v] (by simp)
    have h12 := HB2.out.size
    have hBe := ((HB1.out.trans (HB2.out.mono HB1.out.size)).alloc (show w.heap.size ≤ w1.heap.size by omega) (.cells #[.slice (some ⟨W1.heap.size, 0, none⟩) n n] 23)).alloc (show w.heap.size ≤ (w1.alloc (.cells #[.slice (some ⟨W1.heap.size, 0, none⟩) n n] 23)).heap.size by rw [size_alloc']; omega) (.cells #[.int .i64 v] 3)
    have hZ3 := (((HZ1.out.set0 (.int .i64 (n : Int))).set1 (.slice (some ⟨w1.heap.size, 0, none⟩) 1 1)).set2 (.slice (some ⟨w1.heap.size + 1, 0, none⟩) 1 1))
    have n0 := hZ3.c0
    have n1 := hZ3.c1
    have n2 := hZ3.c2
    refine bodyPost_ret (v := .tuple #[.agg #[.int .i64 (n : Int), .slice (some ⟨w1.heap.size, 0, none⟩) 1 1, .slice (some ⟨w1.heap.size + 1, 0, none⟩) 1 1], .bool true]) (by simp [results, Try.results22, go_sem, n0, n1, n2]) rfl ⟨_, rfl, ?_, ?_⟩
    · have hT : ∀ (i : Nat) (u : Value) (W : World), Plain.Touch w.heap.size (w.heap.size + 1) W (W.setCell ⟨w.heap.size, i, none⟩ u) := fun i u W => Plain.Touch.of_set (a := ⟨w.heap.size, i, none⟩) u (Nat.le_refl _) (Nat.lt_succ_self _)
      have T0 : Plain.Touch w.heap.size (w.heap.size + 1) ((w1.alloc (.cells #[.slice (some ⟨W1.heap.size, 0, none⟩) n n] 23)).alloc (.cells #[.int .i64 v] 3)) ((((((w1.alloc (.cells #[.slice (some ⟨W1.heap.size, 0, none⟩) n n] 23)).alloc (.cells #[.int .i64 v] 3))).setCell ⟨w.heap.size, 0, none⟩ (.int .i64 (n : Int))).setCell ⟨w.heap.size, 1, none⟩ (.slice (some ⟨w1.heap.size, 0, none⟩) 1 1)).setCell ⟨w.heap.size, 2, none⟩ (.slice (some ⟨w1.heap.size + 1, 0, none⟩) 1 1)) :=
        ((hT 0 _ _).trans (hT 1 _ _)).trans (hT 2 _ _)
      simp only [size_alloc', List.map_cons, List.map_nil, List.length_cons, List.length_nil] at hS
      have h := (hS.touch T0 (.inr (Nat.le_refl _))).lower (show w.heap.size ≤ w.heap.size + 1 by omega)
      simp only [size_setCell', size_alloc']
      exact h
    · exact ((hBe.setCell (Nat.le_refl _) _).setCell (Nat.le_refl _) _).setCell (Nat.le_refl _) _
set_option maxRecDepth 100000 in
set_option maxHeartbeats 1000000 in
theorem spec_const (b v : Int) (w : World) :
    Calls Try.prog 21 #[.int .i64 b, .int .i64 v] w (GivesK (conB b v) (conR b v) (conO b v) (conK b v) w) := by
  obtain ⟨i0, hi0, hz0, hz1, hz2⟩ := info_parts Ints.infoI
  by_cases hb : 2 ≤ b ∧ b ≤ 4
  case neg =>
    have hk : conK b v = false := decide_eq_false fun h => hb h.1
    have HBN := Lib.hid (show b < 2 ∨ 4 < b by omega)
    clear hb
    have HN := Lib.hid (con_no hk)
    have HK := Lib.hid hk
    rw [HN.out.1, HN.out.2.1, HN.out.2.2, HK.out]
    clear hk
    go_enter Try.func21, Try.ntmps21
    go_wp2_with fail
    refine (l1In_no _ _ _ _ HBN.out).mono ?_
    rintro e w' ⟨rfl, rfl⟩
    go_wp2
    refine bodyPost_ret (v := .tuple #[.agg #[.int .i64 0, .slice none 0 0, .slice none 0 0], .bool false]) (by simp [results, Try.results21, go_sem]) rfl ⟨_, rfl, OwnS.zero _, ?_⟩
    exact (Below.refl _ _).alloc (Nat.le_refl _) _
  case pos =>
  obtain ⟨hb2, hb4⟩ := hb
  by_cases hv : 0 ≤ v ∧ v ≤ 3
  case neg =>
    have hk : conK b v = false := decide_eq_false fun h => hv h.2
    have HBN := Lib.hid (show v < 0 ∨ 3 < v by omega)
    clear hv
    have HN := Lib.hid (con_no hk)
    have HK := Lib.hid hk
    rw [HN.out.1, HN.out.2.1, HN.out.2.2, HK.out]
    clear hk
    go_enter Try.func21, Try.ntmps21
    go_wp2_with fail
    refine (l1In_yes _ _ _ _ hb2 hb4).mono ?_
    rintro e w' ⟨rfl, rfl⟩
    go_wp2_with fail
    refine (l1In_no _ _ _ _ HBN.out).mono ?_
    rintro e w' ⟨rfl, rfl⟩
    go_wp2
    refine bodyPost_ret (v := .tuple #[.agg #[.int .i64 0, .slice none 0 0, .slice none 0 0], .bool false]) (by simp [results, Try.results21, go_sem]) rfl ⟨_, rfl, OwnS.zero _, ?_⟩
    exact (Below.refl _ _).alloc (Nat.le_refl _) _
  case pos =>
    obtain ⟨hv0, hv3⟩ := hv
    have hk : conK b v = true := decide_eq_true ⟨⟨hb2, hb4⟩, hv0, hv3⟩
    obtain ⟨n, rfl⟩ : ∃ n : Nat, b = (n : Int) := ⟨b.toNat, by omega⟩
    have HE := Lib.hid (show conB (n : Int) v = (n : Int) ∧ conR (n : Int) v = [List.replicate n 0] ∧ conO (n : Int) v = [v] from by
      unfold conB conR conO
      rw [hk]
      exact ⟨rfl, rfl, rfl⟩)
    rw [HE.out.1, HE.out.2.1, HE.out.2.2, hk]
    have HZ := Lib.hid (Cells3.new w 27 (.int .i64 0) (.slice none 0 0) (.slice none 0 0))
    clear hk
    go_enter Try.func21, Try.ntmps21
    go_wp2_with fail
    refine (l1In_yes _ _ _ _ hb2 hb4).mono ?_
    rintro e w' ⟨rfl, rfl⟩
    go_wp2_with fail
    refine (l1In_yes _ _ _ _ hv0 hv3).mono ?_
    rintro e w' ⟨rfl, rfl⟩
    have hb1 : Below w.heap.size w (w.alloc (Obj.cells #[Value.int .i64 0, Value.slice none 0 0, Value.slice none 0 0] 27)) := (Below.refl _ _).alloc (Nat.le_refl _) _
    obtain ⟨W1, hW1⟩ : ∃ W, W = w.alloc (Obj.cells #[Value.int .i64 0, Value.slice none 0 0, Value.slice none 0 0] 27) := ⟨_, rfl⟩
    rw [← hW1] at HZ hb1 ⊢
    clear hW1
    have HB1 := Lib.hid hb1
    clear hb1
    have z0 := HZ.out.c0
    have z1 := HZ.out.c1
    have z2 := HZ.out.c2
    have z3 := HZ.out.f
    go_wp2_with (at_make; refine wpList_make_full W1 rfl _ _ 23 rfl W1.heap.size 3 i0 (.int .i64 0) 1 Try.underlying23 hi0 hz0 hz1 .i64 .i64 _ _ n rfl rfl rfl rfl (by rw [hz2]; omega) (by unfold maxLen; omega) (Nat.le_refl _) ?_; intro w1 hown hgrow; have hbw := below_of_grown hgrow; have HB2 := Lib.hid hbw; have HOW := Lib.hid hown; have HZ1 := Lib.hid (((HZ.out.below hbw).alloc (.cells #[.slice (some ⟨W1.heap.size, 0, none⟩) n n] 23)).alloc (.cells #[.int .i64 v] 3)); have z0' := HZ1.out.c0; have z1' := HZ1.out.c1; have z2' := HZ1.out.c2; have z3' := HZ1.out.f)
    have hR : Has (Value.int .i64) 3 w1 W1.heap.size (.slice (some ⟨W1.heap.size, 0, none⟩) n n) (List.replicate n 0) := Ints.made_has HOW.out
    have hRows : OwnRows w1 W1.heap.size w1.heap.size [.slice (some ⟨W1.heap.size, 0, none⟩) n n] [List.replicate n 0] := (OwnRows.nil w1 W1.heap.size W1.heap.size).snoc ⟨hR, fun k hk => (hR.lt k hk).2, Nat.le_refl _⟩ (Nat.le_refl _) HB2.out.size
    have hlt := HZ.out.lt
    have hS := con_out (b := (n : Int)) (base := w.heap.size + 1) (con_top hRows HB2.out.size (by simp)) (show w.heap.size + 1 ≤ W1.heap.size by omega) (by have := HB2.out.size; simp only [size_alloc'] <;> omega) [v] (by simp)
    have h12 := HB2.out.size
    have hBe := ((HB1.out.trans (HB2.out.mono HB1.out.size)).alloc (show w.heap.size ≤ w1.heap.size by omega) (.cells #[.slice (some ⟨W1.heap.size, 0, none⟩) n n] 23)).alloc (show w.heap.size ≤ (w1.alloc (.cells #[.slice (some ⟨W1.heap.size, 0, none⟩) n n] 23)).heap.size by rw [size_alloc']; omega) (.cells #[.int .i64 v] 3)
    have hZ3 := (((HZ1.out.set0 (.int .i64 (n : Int))).set1 (.slice (some ⟨w1.heap.size, 0, none⟩) 1 1)).set2 (.slice (some ⟨w1.heap.size + 1, 0, none⟩) 1 1))
    have n0 := hZ3.c0
    have n1 := hZ3.c1
    have n2 := hZ3.c2
    refine bodyPost_ret (v := .tuple #[.agg #[.int .i64 (n : Int), .slice (some ⟨w1.heap.size, 0, none⟩) 1 1, .slice (some ⟨w1.heap.size + 1, 0, none⟩) 1 1], .bool true]) (by simp [results, Try.results21, go_sem, n0, n1, n2]) rfl ⟨_, rfl, ?_, ?_⟩
    · have hT : ∀ (i : Nat) (u : Value) (W : World), Plain.Touch w.heap.size (w.heap.size + 1) W (W.setCell ⟨w.heap.size, i, none⟩ u) := fun i u W => Plain.Touch.of_set (a := ⟨w.heap.size, i, none⟩) u (Nat.le_refl _) (Nat.lt_succ_self _)
      have T0 : Plain.Touch w.heap.size (w.heap.size + 1) ((w1.alloc (.cells #[.slice (some ⟨W1.heap.size, 0, none⟩) n n] 23)).alloc (.cells #[.int .i64 v] 3)) ((((((w1.alloc (.cells #[.slice (some ⟨W1.heap.size, 0, none⟩) n n] 23)).alloc (.cells #[.int .i64 v] 3))).setCell ⟨w.heap.size, 0, none⟩ (.int .i64 (n : Int))).setCell ⟨w.heap.size, 1, none⟩ (.slice (some ⟨w1.heap.size, 0, none⟩) 1 1)).setCell ⟨w.heap.size, 2, none⟩ (.slice (some ⟨w1.heap.size + 1, 0, none⟩) 1 1)) :=
        ((hT 0 _ _).trans (hT 1 _ _)).trans (hT 2 _ _)
      simp only [size_alloc', List.map_cons, List.map_nil, List.length_cons, List.length_nil] at hS
      have h := (hS.touch T0 (.inr (Nat.le_refl _))).lower (show w.heap.size ≤ w.heap.size + 1 by omega)
      simp only [size_setCell', size_alloc']
      exact h
    · exact ((hBe.setCell (Nat.le_refl _) _).setCell (Nat.le_refl _) _).setCell (Nat.le_refl _) _
end Comb
end Go.Proofs.Ytjgcmklckchomaa
