/- Contracts of the drawing of one chapter's inputs: a new cursor over the code, some number, some short text. No conditions beyond those that each states. -/
import Derived.Test.YtfpdikohlafpiaaGreatRows
import Derived.WalkKit
import Derived.ProofKit
import Derived.OpenShut
import Derived.ShutString
import Derived.PlainAid
import Derived.Lib.Hide
import Derived.BigQuiet
import Derived.Deep.QuietTactic
import Derived.Laws.Bits128
import Derived.WalkSmall
import Derived.OneCell
import Derived.Test.YtfpdikohlafpiaaGreatPlain
import Derived.Test.YtfpdikohlafpiaaGreatKit
import Derived.Test.YtfpdikohlafpiaaGreatBytes
import Derived.Test.YtfpdikohlafpiaaGreatCursor
namespace Go.Proofs.YtfpdikohlafpiaaGreat
open Go.ChangeShapes Go.WideShapes Go.ChangeAt Go.RowKit
open Go.ChangeMaps (open_string shut_string)
open Go.PlainAid Plain
set_option linter.unusedVariables false
namespace Cursor
/-- What is written elsewhere leaves the cursor as it stands. -/
theorem Stands.other {W w w' : World} {p : Nat} {a : Option Addr} {len cap : Nat} (h : Stands W w p a len cap) {r : Option Nat} (hg : w.grownBy w' r) (hr : ∀ q, r = some q → q ≠ p ∧ W.heap.size ≤ q) : Stands W w' p a len cap := by
  refine ⟨h.below.grown hg h.below.size (fun k hk => (hr k hk).2), h.own, ?_⟩
  obtain ⟨i, q, h1, h2, hb⟩ := h.cur
  exact ⟨i, q, h1, h2, by rw [hg.block p h.lt (fun e => (hr p e.symm).1 rfl)]; exact hb⟩
theorem and30 (n : Int) : bits .and .i64 n 1073741823 = n % 1073741824 := by
  have h255 : (BitVec.ofInt 64 1073741823).toNat = 2 ^ 30 - 1 := by decide
  have key : (BitVec.ofInt 64 n &&& BitVec.ofInt 64 1073741823).toNat = (n % ((2 ^ 64 : Nat) : Int)).toNat % 2 ^ 30 := by
    rw [BitVec.toNat_and, BitVec.toNat_ofInt, h255, Nat.and_two_pow_sub_one_eq_mod]
  show IntKind.i64.wrap ((BitVec.ofInt 64 n &&& BitVec.ofInt 64 1073741823).toNat : Nat) = n % 1073741824
  rw [key, IntKind.wrap_i64]
  omega
def SomeCur (w : World) (a : Option Addr) (len cap : Nat) (e : Ending) (w' : World) : Prop := ∃ p, e = .returned (.pointer (some ⟨p, 0, none⟩)) ∧ w.heap.size ≤ p ∧ w.grownBy w' none ∧ CurIs w' p a len cap
set_option maxRecDepth 100000 in
theorem new (W w : World) (a : Option Addr) (len cap : Nat) (hlen : len ≤ 1048576) (hcode : CodeIs W W.heap.size a len) (hb : Below W.heap.size W w) :
    Calls Tryz.prog 28 #[.slice a len cap] w (SomeCur w a len cap) := by
  have ha := and30
  have HC := Lib.hid hcode
  go_enter Tryz.func28, Tryz.ntmps28
  go_wp2
  go_loop [3, 4] (fun h' i' => ∃ (h : Int) (i : Nat), 0 ≤ h ∧ h ≤ 1073741823 ∧ i ≤ len ∧ i ≤ 4000 ∧ h' = .int .i64 h ∧ i' = .int .i64 i) (fun _ i' => 4000 - (intOf i').toNat)
  case atStart => exact ⟨_, 0, by omega, by omega, by omega, by omega, rfl, rfl⟩
  case round =>
    clear hcode
    obtain ⟨h, i, hh0, hh1, hi, hi4, rfl, rfl⟩ := hrel
    by_cases hlt : i < len
    · by_cases h4 : i < 4000
      · rcases HC.out with hz | ⟨b, off, rfl, hbB, hcells⟩
        · omega
        · obtain ⟨v, hv0, hv1, hcv⟩ := hcells i hlt
          have hcv' : w.cell? ⟨b, off + i, none⟩ = some (.int .u8 v) := (hb.cell (p := ⟨b, off + i, none⟩) hbB).trans hcv
          have hd : decide (i < len) = true := decide_eq_true hlt
          clear hcells hcv
          go_wp2
          go_round
          case rel => exact ⟨_, i + 1, Int.emod_nonneg _ (by decide), by have := Int.emod_lt_of_pos (h * 131 + v + 7) (show (0 : Int) < 1073741824 by decide); omega, by omega, by omega, rfl, by go_num⟩
          case measure => simp [intOf]; omega
      · have hd : decide (i < len) = true := decide_eq_true hlt
        have hd2 : decide (i < 4000) = false := decide_eq_false h4
        go_wp2
        go_ret
        exact ⟨w.heap.size, rfl, Nat.le_refl _, World.grownBy_alloc w _ none, 0, h, by omega, by omega, heap_alloc_new w _⟩
    · have hd : decide (i < len) = false := decide_eq_false hlt
      go_wp2
      go_ret
      exact ⟨w.heap.size, rfl, Nat.le_refl _, World.grownBy_alloc w _ none, 0, h, by omega, by omega, heap_alloc_new w _⟩

/-- The numbers of which a draw picks one. -/
def picks : List Int := [-1, 0, 127, 128, 255, 256, 16383, 16384, 65535, 65536, 562949953421311, 562949953421312, 999999999, 1000000000, -999999999, 9223372036854775807, -9223372036854775808]
theorem picks_ok : ∀ v ∈ picks, I64 v := by unfold picks I64; simp
theorem picks_list (w : World) (T : TypeId) : ListIs (w.alloc (.cells (picks.map (Value.int .i64)).toArray T)) w.heap.size 17 := by
  intro j hj
  have hl : j < picks.length := by show j < 17; exact hj
  have := picks_ok picks[j] (List.getElem_mem hl)
  refine ⟨picks[j], this.1, this.2, ?_⟩
  rw [cell_of_row _ w.heap.size j _ T (0, 0) (heap_alloc_new w _)]
  simp [hl]

/-- Some text of at most n bytes. -/
def SomeText (n : Nat) (Q : World → Prop) (e : Ending) (w' : World) : Prop := ∃ s : ByteArray, s.size ≤ n ∧ e = .returned (.string s) ∧ Q w'
theorem info5 : (Tryz.prog.info? 5).map (fun i => (i.zero, i.size, i.bytes)) = some (some (.int .u8 0), 1, 1) := by kernel_rfl
end Cursor
end Go.Proofs.YtfpdikohlafpiaaGreat
