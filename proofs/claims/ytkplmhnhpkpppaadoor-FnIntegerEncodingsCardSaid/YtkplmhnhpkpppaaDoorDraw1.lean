/- Contracts of the drawing of one chapter's inputs: a new cursor over the code, some number, some short text. No conditions beyond those that each states. -/
import Derived.Test.YtkplmhnhpkpppaaDoorRows
import Derived.WalkKit
import Derived.ProofKit
import Derived.OpenShut
import Derived.ShutString
import Derived.PlainAid
import Derived.Lib.Hide
import Derived.BigQuiet
import Derived.Deep.QuietTactic
import Derived.Laws.Bits128
import Derived.WalkSmall
import Derived.OneCell
import Derived.Test.YtkplmhnhpkpppaaDoorPlain
import Derived.Test.YtkplmhnhpkpppaaDoorKit
import Derived.Test.YtkplmhnhpkpppaaDoorBytes
import Derived.Test.YtkplmhnhpkpppaaDoorCursor
namespace Go.Proofs.YtkplmhnhpkpppaaDoor
open Go.ChangeShapes Go.WideShapes Go.ChangeAt Go.RowKit
open Go.ChangeMaps (open_string shut_string)
open Go.PlainAid Plain
set_option linter.unusedVariables false
namespace Cursor
/-- What is written elsewhere leaves the cursor as it stands. -/
theorem Stands.other {W w w' : World} {p : Nat} {a : Option Addr} {len cap : Nat} (h : Stands W w p a len cap) {r : Option Nat} (hg : w.grownBy w' r) (hr : ∀ q, r = some q → q ≠ p ∧ W.heap.size ≤ q) : Stands W w' p a len cap := by
  refine ⟨h.below.grown hg h.below.size (fun k hk => (hr k hk).2), h.own, ?_⟩
  obtain ⟨i, q, h1, h2, hb⟩ := h.cur
  exact ⟨i, q, h1, h2, by rw [hg.block p h.lt (fun e => (hr p e.symm).1 rfl)]; exact hb⟩
theorem and30 (n : Int) : bits .and .i64 n 1073741823 = n % 1073741824 := by
  have h255 : (BitVec.ofInt 64 1073741823).toNat = 2 ^ 30 - 1 := by decide
  have key : (BitVec.ofInt 64 n &&& BitVec.ofInt 64 1073741823).toNat = (n % ((2 ^ 64 : Nat) : Int)).toNat % 2 ^ 30 := by
    rw [BitVec.toNat_and, BitVec.toNat_ofInt, h255, Nat.and_two_pow_sub_one_eq_mod]
  show IntKind.i64.wrap ((BitVec.ofInt 64 n &&& BitVec.ofInt 64 1073741823).toNat : Nat) = n % 1073741824
  rw [key, IntKind.wrap_i64]
  omega
def SomeCur (w : World) (a : Option Addr) (len cap : Nat) (e : Ending) (w' : World) : Prop := ∃ p, e = .returned (.pointer (some ⟨p, 0, none⟩)) ∧ w.heap.size ≤ p ∧ w.grownBy w' none ∧ CurIs w' p a len cap
set_option maxRecDepth 100000 in
theorem new (W w : World) (a : Option Addr) (len cap : Nat) (hlen : len ≤ 1048576) (hcode : CodeIs W W.heap.size a len) (hb : Below W.heap.size W w) :
    Calls Tryd.prog 21 #[.slice a len cap] w (SomeCur w a len cap) := by
  have ha := and30
  have HC := Lib.hid hcode
  go_enter Tryd.func21, Tryd.ntmps21
  go_wp2
  go_loop [3, 4] (fun h' i' => ∃ (h : Int) (i : Nat), 0 ≤ h ∧ h ≤ 1073741823 ∧ i ≤ len ∧ i ≤ 4000 ∧ h' = .int .i64 h ∧ i' = .int .i64 i) (fun _ i' => 4000 - (intOf i').toNat)
  case atStart => exact ⟨_, 0, by omega, by omega, by omega, by omega, rfl, rfl⟩
  case round =>
    clear hcode
    obtain ⟨h, i, hh0, hh1, hi, hi4, rfl, rfl⟩ := hrel
    by_cases hlt : i < len
    · by_cases h4 : i < 4000
      · rcases HC.out with hz | ⟨b, off, rfl, hbB, hcells⟩
        · omega
        · obtain ⟨v, hv0, hv1, hcv⟩ := hcells i hlt
          have hcv' : w.cell? ⟨b, off + i, none⟩ = some (.int .u8 v) := (hb.cell (p := ⟨b, off + i, none⟩) hbB).trans hcv
          have hd : decide (i < len) = true := decide_eq_true hlt
          clear hcells hcv
          go_wp2
          go_round
          case rel => exact ⟨_, i + 1, Int.emod_nonneg _ (by decide), by have := Int.emod_lt_of_pos (h * 131 + v + 7) (show (0 : Int) < 1073741824 by decide); omega, by omega, by omega, rfl, by go_num⟩
          case measure => simp [intOf]; omega
      · have hd : decide (i < len) = true := decide_eq_true hlt
        have hd2 : decide (i < 4000) = false := decide_eq_false h4
        go_wp2
        go_ret
        exact ⟨w.heap.size, rfl, Nat.le_refl _, World.grownBy_alloc w _ none, 0, h, by omega, by omega, heap_alloc_new w _⟩
    · have hd : decide (i < len) = false := decide_eq_false hlt
      go_wp2
      go_ret
      exact ⟨w.heap.size, rfl, Nat.le_refl _, World.grownBy_alloc w _ none, 0, h, by omega, by omega, heap_alloc_new w _⟩

/-- The numbers of which a draw picks one. -/
def picks : List Int := [-1, 0, 127, 128, 255, 256, 16383, 16384, 65535, 65536, 562949953421311, 562949953421312, 999999999, 1000000000, -999999999, 9223372036854775807, -9223372036854775808]
theorem picks_ok : ∀ v ∈ picks, I64 v := by unfold picks I64; simp
theorem picks_list (w : World) (T : TypeId) : ListIs (w.alloc (.cells (picks.map (Value.int .i64)).toArray T)) w.heap.size 17 := by
  intro j hj
  have hl : j < picks.length := by show j < 17; exact hj
  have := picks_ok picks[j] (List.getElem_mem hl)
  refine ⟨picks[j], this.1, this.2, ?_⟩
  rw [cell_of_row _ w.heap.size j _ T (0, 0) (heap_alloc_new w _)]
  simp [hl]

set_option maxRecDepth 100000 in
theorem num (W w : World) (p : Nat) (a : Option Addr) (len cap : Nat) (hlen : len ≤ 1048576) (hcode : CodeIs W W.heap.size a len) (hs : Stands W w p a len cap) :
    Calls Tryd.prog 22 #[.pointer (some ⟨p, 0, none⟩)] w (SomeInt I64 (fun w' => Stands W w' p a len cap)) := by
  have HB := Lib.hid (fun (w : World) (n : Int) (hn0 : 1 ≤ n) (hn1 : n ≤ 9223372036854775807) (hs : Stands W w p a len cap) => below W w p a len cap n hn0 hn1 hlen hcode hs)
  have HP := Lib.hid (fun (w : World) (q : Nat) (hq : q ≠ p) (hqs : q < w.heap.size) (hl : ListIs w q 17) (hs : Stands W w p a len cap) => pickInt W w p a len cap q 17 17 (by decide) (by decide) hq hqs hl hlen hcode hs)
  clear hcode
  go_enter Tryd.func22, Tryd.ntmps22
  go_wp2_with fail
  refine (HB.out w 8 (by decide) (by decide) hs).mono ?_
  rintro e w1 ⟨x, ⟨hx0, hx1⟩, rfl, hg1, hc1⟩
  have hs1 := hs.next hg1 hc1
  clear hg1 hc1
  by_cases h0 : x = 0
  · have hq0 : (x == 0) = true := by simp [h0]
    clear h0
    go_wp2_with fail
    have hlt := hs1.lt
    refine (HP.out _ w1.heap.size (by omega) (by simp) (by exact picks_list w1 _) (hs1.alloc _)).mono ?_
    rintro e w2 ⟨y, hy, rfl, hg2, hc2⟩
    have hs2 := (hs1.alloc _).next hg2 hc2
    have HY := Lib.hid hy
    clear hy
    go_wp2
    go_ret
    exact ⟨_, HY.out, rfl, hs2⟩
  · have hq0 : (x == 0) = false := by simp [h0]
    by_cases h1 : x = 1
    · have hq1 : (x == 1) = true := by simp [h1]
      clear h0 h1
      go_wp2_with fail
      refine (HB.out w1 1000000000 (by decide) (by decide) hs1).mono ?_
      rintro e w2 ⟨y, ⟨hy0, hy1⟩, rfl, hg2, hc2⟩
      have hs2 := hs1.next hg2 hc2
      go_wp2_with fail
      refine (HB.out w2 1000000000 (by decide) (by decide) hs2).mono ?_
      rintro e w3 ⟨z, ⟨hz0, hz1⟩, rfl, hg3, hc3⟩
      have hs3 := hs2.next hg3 hc3
      have hm1 : y * z ≤ 1000000000 * 1000000000 := Int.mul_le_mul (by omega) (by omega) hz0 (by decide)
      have hm0 : 0 ≤ y * z := Int.mul_nonneg hy0 hz0
      go_wp2
      go_ret
      exact ⟨_, ⟨by omega, by omega⟩, rfl, hs3⟩
    · have hq1 : (x == 1) = false := by simp [h1]
      by_cases h2 : x = 2
      · have hq2 : (x == 2) = true := by simp [h2]
        clear h0 h1 h2
        go_wp2_with fail
        refine (HB.out w1 100000 (by decide) (by decide) hs1).mono ?_
        rintro e w2 ⟨y, ⟨hy0, hy1⟩, rfl, hg2, hc2⟩
        have hs2 := hs1.next hg2 hc2
        go_wp2
        go_ret
        exact ⟨_, ⟨by omega, by omega⟩, rfl, hs2⟩
      · have hq2 : (x == 2) = false := by simp [h2]
        clear h0 h1 h2
        go_wp2_with fail
        refine (HB.out w1 70000 (by decide) (by decide) hs1).mono ?_
        rintro e w2 ⟨y, ⟨hy0, hy1⟩, rfl, hg2, hc2⟩
        have hs2 := hs1.next hg2 hc2
        go_wp2
        go_ret
        exact ⟨_, ⟨by omega, by omega⟩, rfl, hs2⟩

/-- Some text of at most n bytes. -/
def SomeText (n : Nat) (Q : World → Prop) (e : Ending) (w' : World) : Prop := ∃ s : ByteArray, s.size ≤ n ∧ e = .returned (.string s) ∧ Q w'
theorem info5 : (Tryd.prog.info? 5).map (fun i => (i.zero, i.size, i.bytes)) = some (some (.int .u8 0), 1, 1) := by kernel_rfl
set_option maxRecDepth 100000 in
theorem text (W w : World) (p : Nat) (a : Option Addr) (len cap : Nat) (m : Nat) (hm : m ≤ 1000) (hlen : len ≤ 1048576) (hcode : CodeIs W W.heap.size a len) (hs : Stands W w p a len cap) :
    Calls Tryd.prog 23 #[.pointer (some ⟨p, 0, none⟩), .int .i64 m] w (SomeText m (fun w' => Stands W w' p a len cap)) := by
  obtain ⟨i0, hi, hz0, hz1, hz2⟩ := info_parts info5
  have HB := Lib.hid (fun (w : World) (n : Int) (hn0 : 1 ≤ n) (hn1 : n ≤ 9223372036854775807) (hs : Stands W w p a len cap) => below W w p a len cap n hn0 hn1 hlen hcode hs)
  have HY := Lib.hid (fun (w : World) (hs : Stands W w p a len cap) => byte W w p a len cap hlen hcode hs.below hs.own hs.cur)
  have hlt0 := hs.lt
  clear hcode
  go_enter Tryd.func23, Tryd.ntmps23
  go_wp2_with fail
  refine (HB.out _ 4 (by decide) (by decide) (hs.alloc _)).mono ?_
  rintro e w1 ⟨x, ⟨hx0, hx1⟩, rfl, hg1, hc1⟩
  have hs1 := (hs.alloc _).next hg1 hc1
  have hown1 := (World.ownsRow_made (base := w.heap.size) (e := 5) (size := 1) w #[] 0 (Nat.le_refl _) (by decide) rfl).kept hg1 (.inr (by simp [Value.ownBlock]; omega))
  go_wp2_with fail
  refine (HB.out _ _ (by omega) (by omega) hs1).mono ?_
  rintro e w2 ⟨y, ⟨hy0, hy1⟩, rfl, hg2, hc2⟩
  have hs2 := hs1.next hg2 hc2
  have hown2 := hown1.kept hg2 (.inr (by simp [Value.ownBlock]; omega))
  have hsz2 : w.heap.size ≤ w2.heap.size := by have h1 := hg1.size; have h2 := hg2.size; simp at h1; omega
  clear hs1 hg1 hc1 hg2 hc2 hown1 hs
  go_wp2
  go_loopw [5, 7] (fun v n' wr => ∃ (k : Int) (xs : List Int), 0 ≤ k ∧ k + xs.length ≤ m ∧ n' = .int .i64 k ∧ wr.ownsRow w.heap.size 5 1 v xs.length (xs.map (Value.int .u8)) ∧ Stands W wr p a len cap ∧ w.heap.size ≤ wr.heap.size) (fun _ n' _ => (intOf n').toNat)
  case atStart => exact ⟨y, [], hy0, by simp; omega, rfl, hown2, hs2, hsz2⟩
  case round =>
    clear hs2 hown2 hsz2
    obtain ⟨k, xs, hk0, hk1, rfl, hown, hs2, hsz⟩ := hrel
    by_cases hk : 0 < k
    · by_cases h1 : x = 1
      · have hq1 : (x == 1) = true := by simp [h1]
        have hq2 : (x == 2) = false := by simp [h1]
        clear h1
        go_wp2_with fail
        refine (HY.out wr hs2).mono ?_
        rintro e w3 ⟨z, ⟨hz0', hz1'⟩, rfl, hg3, hc3⟩
        have hs3 := hs2.next hg3 hc3
        have hown3 := hown.kept hg3 (.inr (fun e => by have h4 := hown.lt p e; omega))
        have hsz3 : w.heap.size ≤ w3.heap.size := Nat.le_trans hsz hg3.size
        have hrow : ∀ q, u5.ownBlock = some q → q ≠ p ∧ W.heap.size ≤ q := fun q e => by have h4 := hown3.lt q e; have h5 := hs3.own; omega
        clear hs2 hg3 hc3 hown hsz
        go_wp2_with (at_builtin; refine append_grown w3 rfl _ _ 22 rfl w.heap.size 5 i0 (.int .u8 0) 1 Tryd.underlying22 hi hz0 hz1 hz2 rfl _ _ _ rfl (by exact hown3) [.int .u8 (z % 2)] 1 rfl (by simp [Value.oneCell']) (by simp; omega) (by simp; omega) hsz3 ?_; intro v' w4 hown4 hg4)
        go_roundw
        case rel => exact ⟨k - 1, xs ++ [z % 2], by omega, by simp; omega, rfl, by simpa using hown4, hs3.other hg4 hrow, Nat.le_trans hsz3 hg4.size⟩
        case measure => simp [intOf]; omega
      · by_cases h2 : x = 2
        · have hq1 : (x == 1) = false := by simp [h2]
          have hq2 : (x == 2) = true := by simp [h2]
          clear h1 h2
          go_wp2_with fail
          refine (HY.out wr hs2).mono ?_
          rintro e w3 ⟨z, ⟨hz0', hz1'⟩, rfl, hg3, hc3⟩
          have hs3 := hs2.next hg3 hc3
          have hown3 := hown.kept hg3 (.inr (fun e => by have h4 := hown.lt p e; omega))
          have hsz3 : w.heap.size ≤ w3.heap.size := Nat.le_trans hsz hg3.size
          have hrow : ∀ q, u5.ownBlock = some q → q ≠ p ∧ W.heap.size ≤ q := fun q e => by have h4 := hown3.lt q e; have h5 := hs3.own; omega
          clear hs2 hg3 hc3 hown hsz
          go_wp2_with (at_builtin; refine append_grown w3 rfl _ _ 22 rfl w.heap.size 5 i0 (.int .u8 0) 1 Tryd.underlying22 hi hz0 hz1 hz2 rfl _ _ _ rfl (by exact hown3) [.int .u8 (97 + z % 4)] 1 rfl (by simp [Value.oneCell']) (by simp; omega) (by simp; omega) hsz3 ?_; intro v' w4 hown4 hg4)
          go_roundw
          case rel => exact ⟨k - 1, xs ++ [97 + z % 4], by omega, by simp; omega, rfl, by simpa using hown4, hs3.other hg4 hrow, Nat.le_trans hsz3 hg4.size⟩
          case measure => simp [intOf]; omega
        · have hq1 : (x == 1) = false := by simp [h1]
          have hq2 : (x == 2) = false := by simp [h2]
          clear h1 h2
          go_wp2_with fail
          refine (HY.out wr hs2).mono ?_
          rintro e w3 ⟨z, ⟨hz0', hz1'⟩, rfl, hg3, hc3⟩
          have hs3 := hs2.next hg3 hc3
          have hown3 := hown.kept hg3 (.inr (fun e => by have h4 := hown.lt p e; omega))
          have hsz3 : w.heap.size ≤ w3.heap.size := Nat.le_trans hsz hg3.size
          have hrow : ∀ q, u5.ownBlock = some q → q ≠ p ∧ W.heap.size ≤ q := fun q e => by have h4 := hown3.lt q e; have h5 := hs3.own; omega
          clear hs2 hg3 hc3 hown hsz
          go_wp2_with (at_builtin; refine append_grown w3 rfl _ _ 22 rfl w.heap.size 5 i0 (.int .u8 0) 1 Tryd.underlying22 hi hz0 hz1 hz2 rfl _ _ _ rfl (by exact hown3) [.int .u8 (z)] 1 rfl (by simp [Value.oneCell']) (by simp; omega) (by simp; omega) hsz3 ?_; intro v' w4 hown4 hg4)
          go_roundw
          case rel => exact ⟨k - 1, xs ++ [z], by omega, by simp; omega, rfl, by simpa using hown4, hs3.other hg4 hrow, Nat.le_trans hsz3 hg4.size⟩
          case measure => simp [intOf]; omega
    · have hcv := convert_owned (P := Tryd.prog) wr 22 5 9 Tryd.underlying22 Tryd.underlying5 Tryd.underlying9 w.heap.size _ _ _ hown
      clear hown
      go_wp2
      go_ret
      exact ⟨_, by rw [strOfNums_size]; omega, rfl, hs2⟩
end Cursor
end Go.Proofs.YtkplmhnhpkpppaaDoor
