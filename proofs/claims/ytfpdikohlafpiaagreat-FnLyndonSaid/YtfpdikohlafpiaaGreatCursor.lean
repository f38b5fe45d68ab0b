/- Contracts of the drawing of inputs: a cursor over the code's bytes gives some byte, some number below a bound, some number, some short text; only the cursor's own block changes, and new blocks come. No conditions beyond those that each states. -/
import Derived.Test.YtfpdikohlafpiaaGreatRows
import Derived.WalkKit
import Derived.ProofKit
import Derived.OpenShut
import Derived.ShutString
import Derived.PlainAid
import Derived.Lib.Hide
import Derived.BigQuiet
import Derived.Deep.QuietTactic
import Derived.Laws.Bits128
import Derived.WalkSmall
import Derived.OneCell
import Derived.Test.YtfpdikohlafpiaaGreatPlain
import Derived.Test.YtfpdikohlafpiaaGreatKit
import Derived.Test.YtfpdikohlafpiaaGreatBytes
namespace Go.Proofs.YtfpdikohlafpiaaGreat
open Go.ChangeShapes Go.WideShapes Go.ChangeAt Go.RowKit
open Go.ChangeMaps (open_string shut_string)
open Go.PlainAid Plain
set_option linter.unusedVariables false
namespace Cursor

theorem and255 (n : Int) : bits .and .i64 n 255 = n % 256 := by
  have h255 : (BitVec.ofInt 64 255).toNat = 2 ^ 8 - 1 := by decide
  have key : (BitVec.ofInt 64 n &&& BitVec.ofInt 64 255).toNat = (n % ((2 ^ 64 : Nat) : Int)).toNat % 2 ^ 8 := by
    rw [BitVec.toNat_and, BitVec.toNat_ofInt, h255, Nat.and_two_pow_sub_one_eq_mod]
  show IntKind.i64.wrap ((BitVec.ofInt 64 n &&& BitVec.ofInt 64 255).toNat : Nat) = n % 256
  rw [key, IntKind.wrap_i64]
  omega

/-- The code's bytes lie below block B. -/
def CodeIs (W : World) (B : Nat) (a : Option Addr) (len : Nat) : Prop :=
  len = 0 ∨ ∃ b off, a = some ⟨b, off, none⟩ ∧ b < B ∧ ∀ i, i < len → ∃ v : Int, 0 ≤ v ∧ v ≤ 255 ∧ W.cell? ⟨b, off + i, none⟩ = some (.int .u8 v)
/-- Block p is a cursor over them. -/
def CurIs (w : World) (p : Nat) (a : Option Addr) (len cap : Nat) : Prop :=
  ∃ i h : Int, 0 ≤ i ∧ i ≤ len ∧ w.heap[p]? = some (.cells #[.slice a len cap, .int .i64 i, .int .i64 h] 59 (0, 0))
def SomeInt (P : Int → Prop) (Q : World → Prop) (e : Ending) (w' : World) : Prop := ∃ n : Int, P n ∧ e = .returned (.int .i64 n) ∧ Q w'

theorem grown_setCell (w : World) (p j : Nat) (v : Value) : w.grownBy (w.setCell ⟨p, j, none⟩ v) (some p) :=
  ⟨rfl, rfl, rfl, by simp, fun k _ hk => heap_setCell_other w ⟨p, j, none⟩ k v (fun e => hk (by simp [e]))⟩
theorem grown_drewN {w w' : World} {r : Option Nat} (h : w.grownBy w' r) (n : Nat) : w.grownBy (w'.drewN n) r := ⟨h.os, h.tape, h.output, h.size, h.block⟩
theorem grown_drew {w w' : World} {r : Option Nat} (h : w.grownBy w' r) : w.grownBy w'.drew r := ⟨h.os, h.tape, h.output, h.size, h.block⟩
theorem grown_trans {w w1 w2 : World} {r : Option Nat} (h : w.grownBy w1 r) (k : w1.grownBy w2 r) : w.grownBy w2 r :=
  ⟨k.os.trans h.os, k.tape.trans h.tape, k.output.trans h.output, Nat.le_trans h.size k.size, fun i hi hne => (k.block i (Nat.lt_of_lt_of_le hi h.size) hne).trans (h.block i hi hne)⟩
theorem grown_none {w w' : World} (h : w.grownBy w' none) (r : Option Nat) : w.grownBy w' r := ⟨h.os, h.tape, h.output, h.size, fun k hk _ => h.block k hk (by simp)⟩

theorem byte (W w : World) (p : Nat) (a : Option Addr) (len cap : Nat) (hlen : len ≤ 1048576) (hcode : CodeIs W W.heap.size a len) (hb : Below W.heap.size W w) (hp : W.heap.size ≤ p) (hcur : CurIs w p a len cap) :
    Calls Tryz.prog 64 #[.pointer (some ⟨p, 0, none⟩)] w (SomeInt (fun x => 0 ≤ x ∧ x ≤ 255) (fun w' => w.grownBy w' (some p) ∧ CurIs w' p a len cap)) := by
  obtain ⟨i, h, hi0, hi1, hblk⟩ := hcur
  have hc0 : w.cell? ⟨p, 0, none⟩ = some (.slice a len cap) := by rw [cell_of_row w p 0 _ _ (0, 0) hblk]; rfl
  have hc1 : w.cell? ⟨p, 1, none⟩ = some (.int .i64 i) := by rw [cell_of_row w p 1 _ _ (0, 0) hblk]; rfl
  have hc2 : w.cell? ⟨p, 2, none⟩ = some (.int .i64 h) := by rw [cell_of_row w p 2 _ _ (0, 0) hblk]; rfl
  have hf1 : w.frozen? ⟨p, 1, none⟩ = false := frozen_of_row w p 1 _ _ hblk
  have hf2 : w.frozen? ⟨p, 2, none⟩ = false := frozen_of_row w p 2 _ _ hblk
  have ha := and255
  have HB := Lib.hid hblk
  clear hblk
  by_cases hlt : i < len
  · rcases hcode with hz | ⟨b, off, rfl, hbB, hcells⟩
    · omega
    · obtain ⟨k, rfl⟩ := Int.eq_ofNat_of_zero_le hi0
      obtain ⟨v, hv0, hv1, hcv⟩ := hcells k (by omega)
      have hcv' : w.cell? ⟨b, off + k, none⟩ = some (.int .u8 v) := (hb.cell (p := ⟨b, off + k, none⟩) hbB).trans hcv
      have hbp : b < p := by omega
      have hkl : k < len := by omega
      clear hcells hcv
      go_enter Tryz.func64, Tryz.ntmps64
      go_wp2
      go_quiet (fail)
      go_wp2
      go_quiet (fail)
      go_wp2
      go_quiet (fail)
      go_wp2
      go_ret
      refine ⟨_, ⟨?_, ?_⟩, rfl, ?_, (k : Int) + 1, _, by omega, by omega, heap_setCell_same _ p 1 _ _ _ (heap_setCell_same w p 2 _ _ _ HB.out)⟩
      · show 0 ≤ _ % 256
        omega
      · show _ % 256 ≤ 255
        omega
      · exact grown_trans (grown_drewN (grown_setCell _ _ _ _) _) (grown_setCell _ _ _ _)
  · go_enter Tryz.func64, Tryz.ntmps64
    go_wp2
    go_quiet (fail)
    go_wp2
    go_quiet (fail)
    go_wp2
    go_ret
    refine ⟨_, ⟨?_, ?_⟩, rfl, ?_, i, _, hi0, hi1, heap_setCell_same w p 2 _ _ _ HB.out⟩
    · show 0 ≤ _ % 256
      omega
    · show _ % 256 ≤ 255
      omega
    · repeat (first | exact grown_setCell _ _ _ _ | apply grown_drewN)

/-- What the callers of the cursor carry from world to world. -/
structure Stands (W w : World) (p : Nat) (a : Option Addr) (len cap : Nat) : Prop where
  below : Below W.heap.size W w
  own : W.heap.size ≤ p
  cur : CurIs w p a len cap
theorem Stands.lt {W w : World} {p : Nat} {a : Option Addr} {len cap : Nat} (h : Stands W w p a len cap) : p < w.heap.size := by
  obtain ⟨i, q, _, _, hb⟩ := h.cur
  exact (Array.getElem?_eq_some_iff.1 hb).1
theorem Stands.next {W w w' : World} {p : Nat} {a : Option Addr} {len cap : Nat} (h : Stands W w p a len cap) (hg : w.grownBy w' (some p)) (hc : CurIs w' p a len cap) : Stands W w' p a len cap :=
  ⟨h.below.grown hg h.below.size (fun k hk => by cases hk; exact h.own), h.own, hc⟩
/-- New blocks leave the cursor as it stands. -/
theorem Stands.alloc {W w : World} {p : Nat} {a : Option Addr} {len cap : Nat} (h : Stands W w p a len cap) (o : Obj) : Stands W (w.alloc o) p a len cap := by
  refine ⟨h.below.alloc h.below.size o, h.own, ?_⟩
  obtain ⟨i, q, h1, h2, hb⟩ := h.cur
  exact ⟨i, q, h1, h2, by rw [Below.heap_alloc w o p h.lt]; exact hb⟩

theorem below256 (W w : World) (p : Nat) (a : Option Addr) (len cap : Nat) (n : Int) (hn0 : 1 ≤ n) (hn1 : n ≤ 256) (hlen : len ≤ 1048576) (hcode : CodeIs W W.heap.size a len) (hs : Stands W w p a len cap) :
    Calls Tryz.prog 55 #[.pointer (some ⟨p, 0, none⟩), .int .i64 n] w (SomeInt (fun x => 0 ≤ x ∧ x < n) (fun w' => w.grownBy w' (some p) ∧ CurIs w' p a len cap)) := by
  have H := Lib.hid (byte W w p a len cap hlen hcode hs.below hs.own hs.cur)
  clear hcode hs
  go_enter Tryz.func55, Tryz.ntmps55
  go_wp2_with (go_at_call 64; refine H.out.mono ?_; rintro e w1 ⟨x, ⟨hx0, hx1⟩, rfl, hg, hc⟩)
  go_ret
  exact ⟨_, ⟨Int.emod_nonneg _ (by omega), Int.emod_lt_of_pos _ (by omega)⟩, rfl, hg, hc⟩
theorem belowBig (W w : World) (p : Nat) (a : Option Addr) (len cap : Nat) (n : Int) (hn0 : 257 ≤ n) (hn1 : n ≤ 9223372036854775807) (hlen : len ≤ 1048576) (hcode : CodeIs W W.heap.size a len) (hs : Stands W w p a len cap) :
    Calls Tryz.prog 55 #[.pointer (some ⟨p, 0, none⟩), .int .i64 n] w (SomeInt (fun x => 0 ≤ x ∧ x < n) (fun w' => w.grownBy w' (some p) ∧ CurIs w' p a len cap)) := by
  have H := Lib.hid (fun (w : World) (hs : Stands W w p a len cap) => byte W w p a len cap hlen hcode hs.below hs.own hs.cur)
  clear hcode
  go_enter Tryz.func55, Tryz.ntmps55
  go_wp2_with fail
  refine (H.out w hs).mono ?_
  rintro e w1 ⟨x, ⟨hx0, hx1⟩, rfl, hg1, hc1⟩
  have hs1 := hs.next hg1 hc1
  go_wp2_with fail
  refine (H.out w1 hs1).mono ?_
  rintro e w2 ⟨y, ⟨hy0, hy1⟩, rfl, hg2, hc2⟩
  have hs2 := hs1.next hg2 hc2
  go_wp2_with fail
  refine (H.out w2 hs2).mono ?_
  rintro e w3 ⟨z, ⟨hz0, hz1⟩, rfl, hg3, hc3⟩
  have hs3 := hs2.next hg3 hc3
  go_wp2_with fail
  refine (H.out w3 hs3).mono ?_
  rintro e w4 ⟨u, ⟨hu0, hu1⟩, rfl, hg4, hc4⟩
  go_wp2
  go_ret
  exact ⟨_, ⟨Int.emod_nonneg _ (by omega), Int.emod_lt_of_pos _ (by omega)⟩, rfl, grown_trans (grown_trans (grown_trans hg1 hg2) hg3) hg4, hc4⟩

theorem below (W w : World) (p : Nat) (a : Option Addr) (len cap : Nat) (n : Int) (hn0 : 1 ≤ n) (hn1 : n ≤ 9223372036854775807) (hlen : len ≤ 1048576) (hcode : CodeIs W W.heap.size a len) (hs : Stands W w p a len cap) :
    Calls Tryz.prog 55 #[.pointer (some ⟨p, 0, none⟩), .int .i64 n] w (SomeInt (fun x => 0 ≤ x ∧ x < n) (fun w' => w.grownBy w' (some p) ∧ CurIs w' p a len cap)) := by
  by_cases h : n ≤ 256
  · exact below256 W w p a len cap n hn0 h hlen hcode hs
  · exact belowBig W w p a len cap n (by omega) hn1 hlen hcode hs

/-- A list of numbers that lies in block q. -/
def ListIs (w : World) (q n : Nat) : Prop := ∀ j, j < n → ∃ v : Int, -9223372036854775808 ≤ v ∧ v ≤ 9223372036854775807 ∧ w.cell? ⟨q, j, none⟩ = some (.int .i64 v)
def I64 (n : Int) : Prop := -9223372036854775808 ≤ n ∧ n ≤ 9223372036854775807
theorem pickInt (W w : World) (p : Nat) (a : Option Addr) (len cap q n c : Nat) (hn : 1 ≤ n) (hn2 : n ≤ 256) (hq : q ≠ p) (hqs : q < w.heap.size) (hlist : ListIs w q n) (hlen : len ≤ 1048576) (hcode : CodeIs W W.heap.size a len) (hs : Stands W w p a len cap) :
    Calls Tryz.prog 59 #[.pointer (some ⟨p, 0, none⟩), .slice (some ⟨q, 0, none⟩) n c] w (SomeInt I64 (fun w' => w.grownBy w' (some p) ∧ CurIs w' p a len cap)) := by
  have H := Lib.hid (below W w p a len cap n (by omega) (by omega) hlen hcode hs)
  have HL := Lib.hid hlist
  clear hcode hs hlist
  go_enter Tryz.func59, Tryz.ntmps59
  go_wp2_with fail
  refine H.out.mono ?_
  rintro e w1 ⟨x, ⟨hx0, hx1⟩, rfl, hg, hc⟩
  obtain ⟨k, rfl⟩ := Int.eq_ofNat_of_zero_le hx0
  have hkn : k < n := by omega
  obtain ⟨v, hv0, hv1, hcv⟩ := HL.out k hkn
  have hcell : w1.cell? ⟨q, k, none⟩ = some (.int .i64 v) := hg.cell hcv (by simp [hq])
  have HV : Hid (I64 v) := ⟨hv0, hv1⟩
  clear hcv hv0 hv1
  go_wp2
  go_ret
  exact ⟨v, HV.out, rfl, hg, hc⟩
end Cursor
end Go.Proofs.YtfpdikohlafpiaaGreat
