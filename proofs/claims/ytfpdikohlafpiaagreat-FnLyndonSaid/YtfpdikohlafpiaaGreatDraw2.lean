/- Contracts of the draws of chapter 2: some number and base, some short list of digits. No conditions beyond those that each states. -/
import Derived.Test.YtfpdikohlafpiaaGreatRows
import Derived.WalkKit
import Derived.ProofKit
import Derived.OpenShut
import Derived.PlainAid
import Derived.Lib.Hide
import Derived.WalkSmall
import Derived.WalkLawsBesides
import Derived.Test.YtfpdikohlafpiaaGreatPlain
import Derived.Test.YtfpdikohlafpiaaGreatKit
import Derived.Test.YtfpdikohlafpiaaGreatLists
import Derived.Test.YtfpdikohlafpiaaGreatInts
import Derived.Test.YtfpdikohlafpiaaGreatDigits2
import Derived.Test.YtfpdikohlafpiaaGreatCursor
import Derived.Test.YtfpdikohlafpiaaGreatDraw1
import Derived.Test.YtfpdikohlafpiaaGreatDraw1b
namespace Go.Proofs.YtfpdikohlafpiaaGreat
open Go.ChangeShapes Go.WideShapes Go.ChangeAt Go.RowKit
open Go.PlainAid Plain
set_option linter.unusedVariables false
namespace Cursor
open Ints Digits
theorem code_next {w w1 : World} {a : Option Addr} {len : Nat} (h : CodeIs w w.heap.size a len) (hb : Below w.heap.size w w1) : CodeIs w1 w1.heap.size a len :=
  h.imp id fun ⟨b, off, ha, hlt, hc⟩ => ⟨b, off, ha, Nat.lt_of_lt_of_le hlt hb.size, fun i hi => by
    obtain ⟨v, h0, h1, hv⟩ := hc i hi
    exact ⟨v, h0, h1, (hb.cell (p := ⟨b, off + i, none⟩) hlt).trans hv⟩⟩
def SomeBool (Q : World → Prop) (e : Ending) (w' : World) : Prop := ∃ t : Bool, e = .returned (.bool t) ∧ Q w'
/-- Some list of ints, the call's own. -/
def SomeList (P : List Int → Prop) (w : World) (Q : World → Prop) (e : Ending) (w' : World) : Prop := ∃ v xs, P xs ∧ e = .returned v ∧ Has (Value.int .i64) 3 w' w.heap.size v xs ∧ Q w'
def SomeListInt (P : List Int → Int → Prop) (w : World) (Q : World → Prop) (e : Ending) (w' : World) : Prop := ∃ v xs, ∃ n : Int, P xs n ∧ e = .returned (.tuple #[v, .int .i64 n]) ∧ Has (Value.int .i64) 3 w' w.heap.size v xs ∧ Q w'
theorem once (W w : World) (p : Nat) (a : Option Addr) (len cap : Nat) (n : Int) (hn0 : 1 ≤ n) (hn1 : n ≤ 9223372036854775807) (hlen : len ≤ 1048576) (hcode : CodeIs W W.heap.size a len) (hs : Stands W w p a len cap) :
    Calls Tryz.prog 51 #[.pointer (some ⟨p, 0, none⟩), .int .i64 n] w (SomeBool (fun w' => w.grownBy w' (some p) ∧ CurIs w' p a len cap)) := by
  have H := Lib.hid (below W w p a len cap n hn0 hn1 hlen hcode hs)
  clear hcode hs
  go_enter Tryz.func51, Tryz.ntmps51
  go_wp2_with fail
  refine H.out.mono ?_
  rintro e w1 ⟨x, ⟨hx0, hx1⟩, rfl, hg, hc⟩
  go_wp2
  go_ret
  exact ⟨_, rfl, hg, hc⟩
theorem list_lit (w : World) (xs : List Int) (T : TypeId) (h : ∀ x ∈ xs, I64 x) : ListIs (w.alloc (.cells (xs.map (Value.int .i64)).toArray T)) w.heap.size xs.length := by
  intro j hj
  have := h xs[j] (List.getElem_mem hj)
  refine ⟨xs[j], this.1, this.2, ?_⟩
  rw [cell_of_row _ w.heap.size j _ T (0, 0) (heap_alloc_new w _)]
  simp [hj]
/-- The numbers of which l2Number picks one. -/
def nums2 : List Int := [-1, 65535, 65536, 4294967295, 4294967296, 9223372036854775807]
theorem nums2_ok : ∀ v ∈ nums2, I64 v := by unfold nums2 I64; simp
def nums3 : List Int := [-1, 4]
theorem nums3_ok : ∀ v ∈ nums3, I64 v := by unfold nums3 I64; simp
theorem grown_below {w w' : World} {p B : Nat} (h : w.grownBy w' (some p)) (hp : B ≤ p) (hB : B ≤ w.heap.size) : Below B w w' := (Below.refl B w).grown h hB (fun k hk => by cases hk; exact hp)
end Cursor
end Go.Proofs.YtfpdikohlafpiaaGreat
