/- Contracts of ConstantSequence, of the model and of the program. No conditions beyond those that each states. -/
import Derived.Test.YthnmighlgifoeaaSeqBuild
import Derived.Test.YthnmighlgifoeaaSeqIsI
import Derived.Test.YthnmighlgifoeaaSeqForm
namespace Go.Proofs.Ythnmighlgifoeaa
open Go.ChangeShapes Go.WideShapes Go.ChangeAt Go.RowKit
open Go.PlainAid Plain
set_option linter.unusedVariables false
namespace Comb
open Seqs
def conK (b v : Int) : Bool := decide ((2 ≤ b ∧ b ≤ 4) ∧ 0 ≤ v ∧ v ≤ 3)
def conB (b v : Int) : Int := if conK b v = true then b else 0
def conR (b v : Int) : List (List Int) := if conK b v = true then [List.replicate b.toNat 0] else []
def conO (b v : Int) : List Int := if conK b v = true then [v] else []
theorem con_no {b v : Int} (h : conK b v = false) : conB b v = 0 ∧ conR b v = [] ∧ conO b v = [] := by
  unfold conB conR conO
  rw [h]
  simp
theorem con_size (b v : Int) : tot (conR b v) + (conO b v).length ≤ 1000 := by
  unfold conR conO
  cases h : conK b v with
  | false => simp [tot]
  | true =>
    have h1 := of_decide_eq_true h
    simp only [if_true, tot]
    simp
    omega
theorem con_top {W : World} {lo : Nat} {us : List Value} {rows : List (List Int)} (h : OwnRows W lo W.heap.size us rows) (hlo : lo ≤ W.heap.size) (hu : us.length ≤ 100) :
    OwnR (W.alloc (.cells us.toArray 23)) lo (W.alloc (.cells us.toArray 23)).heap.size (.slice (some ⟨W.heap.size, 0, none⟩) us.length us.length) us rows := by
  have hb : Below W.heap.size W (W.alloc (.cells us.toArray 23)) := (Below.refl _ _).alloc (Nat.le_refl _) _
  have h1 : Has id 23 (W.alloc (.cells (us.map id).toArray 23)) lo (.slice (some ⟨W.heap.size, 0, none⟩) us.length us.length) us := Has.lit (enc := id) (e := 23) W us hlo (by omega)
  rw [List.map_id] at h1
  exact ⟨h1, fun k hk => (h1.lt k hk).2, Nat.le_refl _, (h.below hb).mono hb.size (Nat.le_refl _)⟩
theorem con_out {W : World} {lo base : Nat} {vn : Value} {us : List Value} {b : Int} {rows : List (List Int)} (h : OwnR W lo W.heap.size vn us rows) (hb : base ≤ lo) (hlo : lo ≤ W.heap.size) (xs : List Int) (hx : xs.length ≤ 100) :
    OwnS (W.alloc (.cells (xs.map (Value.int .i64)).toArray 3)) base (W.alloc (.cells (xs.map (Value.int .i64)).toArray 3)).heap.size (.agg #[.int .i64 b, vn, .slice (some ⟨W.heap.size, 0, none⟩) xs.length xs.length]) b rows xs := by
  have hbb : Below W.heap.size W (W.alloc (.cells (xs.map (Value.int .i64)).toArray 3)) := (Below.refl _ _).alloc (Nat.le_refl _) _
  have h1 : Has (Value.int .i64) 3 (W.alloc (.cells (xs.map (Value.int .i64)).toArray 3)) W.heap.size (.slice (some ⟨W.heap.size, 0, none⟩) xs.length xs.length) xs := Has.lit (enc := Value.int .i64) (e := 3) W xs (Nat.le_refl _) (by omega)
  exact OwnS.make (h.below hbb) ⟨h1, fun k hk => (h1.lt k hk).2, Nat.le_refl _⟩ hb hlo hbb.size
end Comb
end Go.Proofs.Ythnmighlgifoeaa
