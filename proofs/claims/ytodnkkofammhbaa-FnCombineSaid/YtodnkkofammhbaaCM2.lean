/- Several texts of this proof, one behind the other: each says ahead of it what it shows and under which conditions. -/
import Derived.Test.YtodnkkofammhbaaRows
import Derived.WalkKit
import Derived.ProofKit
import Derived.OpenShut
import Derived.PlainAid
import Derived.Lib.Hide
import Derived.BigQuiet
import Derived.Deep.QuietTactic
import Derived.WalkSmall
import Derived.Test.YtodnkkofammhbaaCM1
import Derived.ShutString
import Derived.Shelf.Slices.Reverse
import Derived.Ground.Names2Prog
import Derived.Shelf.Slices.Clone
import Derived.Shelf.Slices.Cells
import Derived.Ground.SlgnProg
import Derived.Shelf.SlicesE.Clone
import Derived.Test.YtodnkkofammhbaaProg
import Derived.IntWalk
import Derived.Lib.OwnBridge
import Derived.Laws.Bits128
import Derived.OneCell
import Derived.WalkLawsBesides
import Derived.Outline
/- Contracts of the exact laws' own helpers on slices of ints: copying one, comparing two, writing marks into one, asking for the marks. No conditions beyond those that each states. -/
namespace Go.Proofs.Ytodnkkofammhbaa
open Go.ChangeShapes Go.WideShapes Go.ChangeAt Go.RowKit
open Go.PlainAid Plain
set_option linter.unusedVariables false
namespace Ints
theorem infoI : (Try.prog.info? 3).map (fun i => (i.zero, i.size, i.bytes)) = some (some (.int .i64 0), 1, 8) := by kernel_rfl
/-- n marks from k on. -/
def marks (k : Int) (n : Nat) : List Int := (List.range n).map (fun j : Nat => k + j)
theorem marks_len (k : Int) (n : Nat) : (marks k n).length = n := by simp [marks]
theorem marks_at (k : Int) (n i : Nat) (h : i < n) : (marks k n)[i]? = some (k + i) := by simp [marks, h]
theorem marks_succ (k : Int) (n : Nat) : marks k (n + 1) = marks k n ++ [k + n] := by simp [marks, List.range_succ]
theorem marks_set (k : Int) (i : Nat) (xs : List Int) (h : i < xs.length) : ((marks k i ++ xs.drop i).map (Value.int .i64)).set i (.int .i64 (k + i)) = (marks k (i + 1) ++ xs.drop (i + 1)).map (Value.int .i64) := by
  rw [List.drop_eq_getElem_cons h, List.map_append, List.map_cons, set_mid _ _ _ _ i (by rw [List.length_map, marks_len]), marks_succ, List.append_assoc, List.map_append]
  rfl
theorem take_set (xs : List Int) (i : Nat) (h : i < xs.length) : ((xs.take i ++ List.replicate (xs.length - i) (0 : Int)).map (Value.int .i64)).set i (.int .i64 xs[i]) = (xs.take (i + 1) ++ List.replicate (xs.length - (i + 1)) (0 : Int)).map (Value.int .i64) := by
  rw [show xs.length - i = (xs.length - (i + 1)) + 1 from by omega, List.replicate_succ, List.map_append, List.map_cons, set_mid _ _ _ _ i (by rw [List.length_map, List.length_take]; omega), List.take_succ_eq_append_getElem h, List.append_assoc, List.map_append]
  rfl
theorem zero_made (a : Nat) : (madeCells (Value.int .i64 0).cells (a * 1)).toList = (List.replicate a (0 : Int)).map (Value.int .i64) := by
  rw [show (Value.int .i64 0).cells = #[Value.int .i64 0] from rfl, toList_madeCells_one]
  simp
theorem made_has {w1 : World} {base n : Nat} {v : Value} (h : w1.ownsRow base 3 1 v n (madeCells (Value.int .i64 0).cells (n * 1)).toList) : Has (Value.int .i64) 3 w1 base v (List.replicate n 0) := by
  rw [zero_made] at h
  show w1.ownsRow _ _ _ _ _ _
  rw [List.length_replicate]
  exact h
theorem size_i : (Try.prog.info? 3).map (·.size) = some 1 := by kernel_rfl
/-- A slice of ints that came in. -/
theorem lies_of_row {w : World} {a : Option Addr} {len cap : Nat} {zs : List Int}
    (h : (a = none ∧ len = 0 ∧ cap = 0 ∧ zs = []) ∨ ∃ x, a = some x ∧ len ≤ cap ∧ cap ≤ maxLen ∧ zs.length = cap ∧ (∀ i, i < zs.length → w.cell? (x.add i) = some (.int .i64 (zs.getD i 0))) ∧ ∀ n ∈ zs, (Lit.int .i64 n).wf = true) :
    ∃ xs : List Int, len = xs.length ∧ Lies (Value.int .i64) w (.slice a xs.length cap) xs := by
  rcases h with ⟨rfl, rfl, rfl, rfl⟩ | ⟨x, rfl, hl, hm, hz, hcell, _⟩
  · exact ⟨[], rfl, by simp, none, 0, rfl, fun _ => rfl, fun i x hx => by cases hx⟩
  · have hlen : (zs.take len).length = len := by rw [List.length_take]; omega
    refine ⟨zs.take len, hlen.symm, by rw [hlen]; unfold maxLen at hm; omega, some x, cap, rfl, (fun h => by cases h), fun i y hy => ?_⟩
    rw [List.getElem?_take] at hy
    split at hy
    · have hi : i < zs.length := (List.getElem?_eq_some_iff.1 hy).1
      have hc := hcell i hi
      obtain ⟨b, off, spot⟩ := x
      have h0 := hcell 0 (by omega)
      obtain rfl : spot = none := by simpa [Addr.add] using World.cell?_spot h0
      rw [addr_plus] at hc
      rw [show zs.getD i 0 = y from by simp [List.getD, hy]] at hc
      exact ⟨b, off, rfl, hc⟩
    · cases hy
end Ints
end Go.Proofs.Ytodnkkofammhbaa
/- Contracts of the small tests on a width or a number: they answer whether the number lies in its range, and change nothing. No conditions beyond those that each states. -/
namespace Go.Proofs.Ytodnkkofammhbaa
open Go.ChangeShapes Go.WideShapes Go.ChangeAt Go.RowKit
open Go.ChangeMaps (open_string shut_string)
open Go.PlainAid Plain
set_option linter.unusedVariables false

theorem l1In_yes (a l h : Int) (w : World) (h1 : l ≤ a) (h2 : a ≤ h) :
    Calls Try.prog 37 #[.int .i64 a, .int .i64 l, .int .i64 h] w fun e w' => e = .returned (.bool true) ∧ w = w' := by
  go_enter Try.func37, Try.ntmps37
  go_wp2
  go_ret
  exact ⟨rfl, rfl⟩
theorem l1In_no (a l h : Int) (w : World) (h1 : a < l ∨ h < a) :
    Calls Try.prog 37 #[.int .i64 a, .int .i64 l, .int .i64 h] w fun e w' => e = .returned (.bool false) ∧ w = w' := by
  by_cases h3 : l ≤ a
  · have h4 : h < a := by omega
    clear h1
    go_enter Try.func37, Try.ntmps37
    go_wp2
    go_ret
    exact ⟨by simp; omega, rfl⟩
  · clear h1
    go_enter Try.func37, Try.ntmps37
    go_wp2
    go_ret
    exact ⟨rfl, rfl⟩
end Go.Proofs.Ytodnkkofammhbaa
/- Contracts of library functions at this translation, each one application of a theorem of the library. Conditions: those that each states. -/
namespace Go.Proofs
open Go.Shelf
def Try.lays112_ren : Go.Shelf.Ren := ⟨fun | 112 => 74 | n => n, fun | 28 => 25 | 3 => 3 | 4 => 4 | 0 => 0 | n => n, fun | n => n⟩
theorem Try.lays112 : Go.Proofs.Lays.n112 Try.prog Try.lays112_ren := {
  mixed := by kernel_rfl
  f112 := Try.func74.trans (congrArg some (by kernel_rfl))
  t0 := Try.underlying0
  a0 := Try.isAgg0
  z0 := Try.sizeOf0
  v0 := Try.zeroValue0
  t3 := Try.underlying3
  a3 := Try.isAgg3
  z3 := Try.sizeOf3
  v3 := Try.zeroValue3
  t4 := Try.underlying4
  a4 := Try.isAgg4
  z4 := Try.sizeOf4
  v4 := Try.zeroValue4
  t28 := Try.underlying25
  a28 := Try.isAgg25
  z28 := Try.sizeOf25
  v28 := Try.zeroValue25 }
open Go.RowKit Go.Lib Go.Sort in
theorem Try.slices_Reverse_int_arr (blk off cap : Nat) (d : Array Int) (w : World) (hH : Holds encI w blk off d) (hsz : d.size ≤ 9223372036854775807) :
    Calls Try.prog 74 #[.slice (some ⟨blk, off, none⟩) d.size cap] w fun e w' => e = .returned (.tuple #[]) ∧ ∃ n, w' = putRow encI (Sort.ahead w n) blk off d.reverse := Any.slices_Reverse_int_arr Try.lays112 blk off cap d w hH hsz
open Go.RowKit Go.Lib Go.Sort in
theorem Try.slices_Reverse_int (blk off cap : Nat) (zs : List Int) (w : World) (hH : Holds (Value.int .i64) w blk off zs.toArray) (hsz : zs.length ≤ 9223372036854775807) :
    Calls Try.prog 74 #[.slice (some ⟨blk, off, none⟩) zs.length cap] w fun e w' => e = .returned (.tuple #[]) ∧ ∃ n, w' = putRow (Value.int .i64) (Sort.ahead w n) blk off zs.reverse.toArray := Any.slices_Reverse_int Try.lays112 blk off cap zs w hH hsz
open Go.RowKit Go.Lib Go.Sort in
theorem Try.slices_Reverse_int_empty (a : Option Addr) (cap : Nat) (w : World) :
    Calls Try.prog 74 #[.slice a 0 cap] w fun e w' => e = .returned (.tuple #[]) ∧ w' = w := Any.slices_Reverse_int_empty Try.lays112 a cap w
def Try.laysNm215_ren : Go.Shelf.Ren := ⟨fun | 15 => 73 | n => n, fun | 22 => 25 | 3 => 3 | 4 => 4 | n => n, fun | n => n⟩
theorem Try.laysNm215 : Go.Proofs.Lays2.n15 Try.prog Try.laysNm215_ren := {
  mixed := by kernel_rfl
  f15 := Try.func73.trans (congrArg some (by kernel_rfl))
  t3 := Try.underlying3
  a3 := Try.isAgg3
  z3 := Try.sizeOf3
  v3 := Try.zeroValue3
  t4 := Try.underlying4
  a4 := Try.isAgg4
  z4 := Try.sizeOf4
  v4 := Try.zeroValue4
  t22 := Try.underlying25
  a22 := Try.isAgg25
  z22 := Try.sizeOf25
  v22 := Try.zeroValue25
  i3 := by kernel_rfl }
open Go.RowKit Go.Lib in
theorem Try.slices_Clone_int (b off n c : Nat) (zs : List Int) (w : World) (hz : n ≤ zs.length) (hbig : n * 8 ≤ 140737488355328) (hc : ∀ j, j < zs.length → w.cell? ⟨b, off + j, none⟩ = some (.int .i64 (zs.getD j 0))) :
    Calls Try.prog 73 #[.slice (some ⟨b, off, none⟩) n c] w fun e w' => ∃ v', e = .returned v' ∧ w'.ownsRow w.heap.size 3 1 v' n ((zs.take n).map (Value.int .i64)) ∧ v' ≠ .slice none 0 0 ∧ Below w.heap.size w w' := Any.slices_Clone_int Try.laysNm215 b off n c zs w hz hbig hc
open Go.RowKit Go.Lib in
theorem Try.slices_Clone_int_nil (n c : Nat) (w : World) :
    Calls Try.prog 73 #[.slice none n c] w fun e w' => e = .returned (.slice none 0 0) ∧ w' = w := Any.slices_Clone_int_nil Try.laysNm215 n c w
open Go.RowKit Go.Lib in
theorem Try.slices_Clone_int_zero (a : Addr) (c : Nat) (w : World) :
    Calls Try.prog 73 #[.slice (some a) 0 c] w fun e w' => ∃ v', e = .returned v' ∧ w'.ownsRow w.heap.size 3 1 v' 0 [] ∧ v' ≠ .slice none 0 0 ∧ Below w.heap.size w w' := Any.slices_Clone_int_zero Try.laysNm215 a c w
open Go.RowKit Go.Lib Go.Sort in
theorem Try.slices_Reverse_int_cells (b off n c : Nat) (zs : List Int) (w : World) (hz : n ≤ zs.length) (hbig : n ≤ 9223372036854775807) (hc : ∀ j, j < zs.length → w.cell? ⟨b, off + j, none⟩ = some (.int .i64 (zs.getD j 0))) (hf : ∀ j, j < n → w.frozen? ⟨b, off + j, none⟩ = false) :
    Calls Try.prog 74 #[.slice (some ⟨b, off, none⟩) n c] w fun e w' => e = .returned (.tuple #[]) ∧ ∃ q, w' = (w.drewN q).setCells b off ((zs.take n).reverse.map (Value.int .i64)) := Any.slices_Reverse_int_cells Try.lays112 b off n c zs w hz hbig hc hf
def Try.laysSlE041_f73_ren : Go.Shelf.Ren := ⟨fun | 41 => 73 | n => n, fun | 22 => 25 | 23 => 3 | 4 => 4 | n => n, fun | n => n⟩
theorem Try.laysSlE041_f73 : Go.Proofs.SlLaysE0.n41 Try.prog Try.laysSlE041_f73_ren := {
  mixed := by kernel_rfl
  f41 := ⟨Try.f73.name, by decide, Try.func73.trans (congrArg some (by kernel_rfl))⟩
  t4 := Try.underlying4
  a4 := Try.isAgg4
  z4 := Try.sizeOf4
  v4 := Try.zeroValue4
  t22 := Try.underlying25
  a22 := Try.isAgg25
  z22 := Try.sizeOf25
  v22 := Try.zeroValue25 }
open Go.RowKit Go.Lib in
theorem Try.slices_Clone (i0 : TypeInfo) (z : Value) (size bytes : Nat) (hi : Try.prog.info? 3 = some i0) (hz0 : i0.zero = some z) (hz1 : i0.size = size) (hz2 : i0.bytes = bytes) (hzs : z.cells.size = size) (hsz : 0 < size) (z23 : ∀ w, (Go.sizeOf 3).run Try.prog w = .ok size w) (b off n c : Nat) (news : List Value) (w : World) (hl : news.length = n * size) (hn : n ≤ maxLen) (hbig : n * bytes ≤ 140737488355328) (hc : ∀ j u, news[j]? = some u → w.cell? ⟨b, off + j, none⟩ = some u) (h1 : ∀ u ∈ news, u.oneCell' = true) :
    Calls Try.prog 73 #[.slice (some ⟨b, off, none⟩) n c] w fun e w' => ∃ v', e = .returned v' ∧ w'.ownsRow w.heap.size 3 size v' n news ∧ v' ≠ .slice none 0 0 ∧ Below w.heap.size w w' := AnyE.slices_Clone Try.laysSlE041_f73 i0 z size bytes hi hz0 hz1 hz2 hzs hsz z23 b off n c news w hl hn hbig hc h1
open Go.RowKit Go.Lib in
theorem Try.slices_Clone_nil (n c : Nat) (w : World) :
    Calls Try.prog 73 #[.slice none n c] w fun e w' => e = .returned (.slice none 0 0) ∧ w' = w := AnyE.slices_Clone_nil Try.laysSlE041_f73 n c w
end Go.Proofs
/- Contracts of the functions on digits, of the program and of the model. No conditions beyond those that each states. -/
namespace Go.Proofs.Ytodnkkofammhbaa
open Go.ChangeShapes Go.WideShapes Go.ChangeAt Go.RowKit
open Go.PlainAid Plain
set_option linter.unusedVariables false
namespace Digits

theorem base_yes (b : Int) (w : World) (h1 : 2 ≤ b) (h2 : b ≤ 4) :
    Calls Try.prog 50 #[.int .i64 b] w fun e w' => e = .returned (.bool true) ∧ w = w' := by
  go_enter Try.func50, Try.ntmps50
  go_wp2
  go_ret
  exact ⟨rfl, rfl⟩
theorem base_no (b : Int) (w : World) (h1 : b < 2 ∨ 4 < b) :
    Calls Try.prog 50 #[.int .i64 b] w fun e w' => e = .returned (.bool false) ∧ w = w' := by
  by_cases h3 : 2 ≤ b
  · have h4 : 4 < b := by omega
    clear h1
    go_enter Try.func50, Try.ntmps50
    go_wp2
    go_ret
    exact ⟨by simp; omega, rfl⟩
  · clear h1
    go_enter Try.func50, Try.ntmps50
    go_wp2
    go_ret
    exact ⟨rfl, rfl⟩

theorem pow_next (b i : Nat) : ((b ^ i : Nat) : Int) * (b : Int) = ((b ^ (i + 1) : Nat) : Int) := by rw [Nat.pow_succ, Int.natCast_mul]
theorem ret_i {a b : Int} (h : a = b) : Ending.returned (.int .i64 a) = Ending.returned (.int .i64 b) := by rw [h]
theorem spec_pow (b k : Nat) (w : World) (h1 : 2 ≤ b) (h2 : b ≤ 4) (hk : k ≤ 16) :
    Calls Try.prog 42 #[.int .i64 b, .int .i64 k] w fun e w' => e = .returned (.int .i64 ((b ^ k : Nat) : Int)) ∧ w = w' := by
  go_enter Try.func42, Try.ntmps42
  go_wp2_with (go_at_call 37; refine (l1In_yes _ _ _ _ (by omega) (by omega)).mono ?_; rintro e w' ⟨rfl, rfl⟩)
  go_loop [5, 6] (fun n' i' => ∃ i : Nat, i ≤ k ∧ i' = .int .i64 i ∧ n' = .int .i64 ((b ^ i : Nat) : Int)) (fun _ i' => k - (intOf i').toNat)
  case atStart => exact ⟨0, Nat.zero_le _, rfl, rfl⟩
  case round =>
    obtain ⟨i, hi, rfl, rfl⟩ := hrel
    by_cases hlt : i < k
    · have hb := pow_bd b (i + 1) h1 h2 (by omega)
      have hb1 := pow_bd b i h1 h2 (by omega)
      have hn := pow_next b i
      obtain ⟨p, hp⟩ : ∃ p, p = b ^ i := ⟨_, rfl⟩
      obtain ⟨q, hq⟩ : ∃ q, q = b ^ (i + 1) := ⟨_, rfl⟩
      rw [← hp] at hb1
      rw [← hq] at hb
      rw [← hp, ← hq] at hn
      have HQ := Lib.hid hq
      rw [← hp]
      clear hp hq
      have h0 : 0 ≤ (p : Int) * (b : Int) := by omega
      have h9 : (p : Int) * (b : Int) ≤ 4294967296 := by omega
      have HN := Lib.hid hn
      clear hn
      go_wp2
      go_round
      case rel => exact ⟨i + 1, by omega, by go_num, by rw [HN.out, HQ.out]⟩
      case measure => simp [intOf]; omega
    · obtain rfl : i = k := by omega
      go_wp2
      go_ret
      exact ⟨rfl, rfl⟩
theorem impl_pow (b k : Nat) (w : World) (h1 : 2 ≤ b) (h2 : b ≤ 4) (hk : k ≤ 16) :
    Calls Try.prog 39 #[.int .i64 b, .int .i64 k] w fun e w' => e = .returned (.int .i64 ((b ^ k : Nat) : Int)) ∧ w = w' := by
  go_enter Try.func39, Try.ntmps39
  go_wp2_with (go_at_call 50; refine (base_yes _ _ (by omega) (by omega)).mono ?_; rintro e w' ⟨rfl, rfl⟩)
  go_loop [5, 18] (fun n' i' => ∃ i : Nat, i ≤ k ∧ i' = .int .i64 i ∧ n' = .int .i64 ((b ^ i : Nat) : Int)) (fun _ i' => k - (intOf i').toNat)
  case atStart => exact ⟨0, Nat.zero_le _, rfl, rfl⟩
  case round =>
    obtain ⟨i, hi, rfl, rfl⟩ := hrel
    by_cases hlt : i < k
    · have hb := pow_bd b (i + 1) h1 h2 (by omega)
      have hb1 := pow_bd b i h1 h2 (by omega)
      have hn := pow_next b i
      obtain ⟨p, hp⟩ : ∃ p, p = b ^ i := ⟨_, rfl⟩
      obtain ⟨q, hq⟩ : ∃ q, q = b ^ (i + 1) := ⟨_, rfl⟩
      rw [← hp] at hb1
      rw [← hq] at hb
      rw [← hp, ← hq] at hn
      have HQ := Lib.hid hq
      rw [← hp]
      clear hp hq
      have h0 : 0 ≤ (p : Int) * (b : Int) := by omega
      have h9 : (p : Int) * (b : Int) ≤ 4294967296 := by omega
      have HN := Lib.hid hn
      clear hn
      go_wp2
      go_round
      case rel => exact ⟨i + 1, by omega, by go_num, by rw [HN.out, HQ.out]⟩
      case measure => simp [intOf]; omega
    · obtain rfl : i = k := by omega
      go_wp2
      go_ret
      exact ⟨rfl, rfl⟩
/-- The power, 0 where base or exponent is out of range. -/
def powV (b k : Int) : Int := if 2 ≤ b ∧ b ≤ 4 ∧ 0 ≤ k ∧ k ≤ 16 then ((b.toNat ^ k.toNat : Nat) : Int) else 0
theorem spec_pow_any (b k : Int) (w : World) : Calls Try.prog 42 #[.int .i64 b, .int .i64 k] w fun e w' => e = .returned (.int .i64 (powV b k)) ∧ w = w' := by
  by_cases h : 2 ≤ b ∧ b ≤ 4 ∧ 0 ≤ k ∧ k ≤ 16
  · rw [powV, if_pos h]
    obtain ⟨n, rfl⟩ := Int.eq_ofNat_of_zero_le (show 0 ≤ b by omega)
    obtain ⟨m, rfl⟩ := Int.eq_ofNat_of_zero_le (show 0 ≤ k by omega)
    exact spec_pow n m w (by omega) (by omega) (by omega)
  · rw [powV, if_neg h]
    by_cases h2 : 2 ≤ b ∧ b ≤ 4
    · have h3 : k < 0 ∨ 16 < k := by omega
      obtain ⟨h4, h5⟩ := h2
      clear h
      go_enter Try.func42, Try.ntmps42
      go_wp2_with fail
      refine (l1In_yes _ _ _ _ h4 h5).mono ?_
      rintro e w' ⟨rfl, rfl⟩
      go_wp2_with fail
      refine (l1In_no _ _ _ _ h3).mono ?_
      rintro e w' ⟨rfl, rfl⟩
      go_wp2
      go_ret
      exact ⟨rfl, rfl⟩
    · have h3 : b < 2 ∨ 4 < b := by omega
      clear h h2
      go_enter Try.func42, Try.ntmps42
      go_wp2_with (go_at_call 37; refine (l1In_no _ _ _ _ h3).mono ?_; rintro e w' ⟨rfl, rfl⟩)
      go_ret
      exact ⟨rfl, rfl⟩
theorem impl_pow_any (b k : Int) (w : World) : Calls Try.prog 39 #[.int .i64 b, .int .i64 k] w fun e w' => e = .returned (.int .i64 (powV b k)) ∧ w = w' := by
  by_cases h : 2 ≤ b ∧ b ≤ 4 ∧ 0 ≤ k ∧ k ≤ 16
  · rw [powV, if_pos h]
    obtain ⟨n, rfl⟩ := Int.eq_ofNat_of_zero_le (show 0 ≤ b by omega)
    obtain ⟨m, rfl⟩ := Int.eq_ofNat_of_zero_le (show 0 ≤ k by omega)
    exact impl_pow n m w (by omega) (by omega) (by omega)
  · rw [powV, if_neg h]
    by_cases h2 : 2 ≤ b ∧ b ≤ 4
    · obtain ⟨h4, h5⟩ := h2
      by_cases h6 : k < 0
      · clear h
        go_enter Try.func39, Try.ntmps39
        go_wp2_with (go_at_call 50; refine (base_yes _ _ h4 h5).mono ?_; rintro e w' ⟨rfl, rfl⟩)
        go_ret
        exact ⟨rfl, rfl⟩
      · have h7 : 16 < k := by omega
        clear h
        go_enter Try.func39, Try.ntmps39
        go_wp2_with (go_at_call 50; refine (base_yes _ _ h4 h5).mono ?_; rintro e w' ⟨rfl, rfl⟩)
        go_ret
        exact ⟨rfl, rfl⟩
    · have h3 : b < 2 ∨ 4 < b := by omega
      clear h h2
      go_enter Try.func39, Try.ntmps39
      go_wp2_with (go_at_call 50; refine (base_no _ _ h3).mono ?_; rintro e w' ⟨rfl, rfl⟩)
      go_ret
      exact ⟨rfl, rfl⟩

/-- slices.Reverse of a slice of the call's own. -/
theorem reverse_has (v : Value) (xs : List Int) (w : World) (base : Nat) (h : Has (Value.int .i64) 3 w base v xs) :
    Calls Try.prog 74 #[v] w fun e w' => e = .returned (.tuple #[]) ∧ Has (Value.int .i64) 3 w' base v xs.reverse ∧ w.grownBy w' v.ownBlock := by
  obtain ⟨a, cap, rfl, hform⟩ := h.form
  cases hx : xs with
  | nil =>
    refine (Try.slices_Reverse_int_empty a cap w).mono ?_
    rintro e w' ⟨rfl, rfl⟩
    subst hx
    exact ⟨rfl, h, World.grownBy.refl _ _⟩
  | cons y ys =>
    obtain ⟨g, rfl⟩ := hform (by rw [hx]; simp)
    rw [← hx]
    obtain ⟨g', cap', he, _, _, _, _, _, hH⟩ := Lib.holds_of_ownsRow (enc := Value.int .i64) h (by simp)
    injection he with e1 _ e3
    injection e1 with e1
    injection e1 with e1
    subst e1; subst e3
    refine (Try.slices_Reverse_int g 0 cap xs w hH h.small).mono ?_
    rintro e w' ⟨rfl, q, rfl⟩
    refine ⟨rfl, ?_, ?_⟩
    · have := Lib.ownsRow_putRow (enc := Value.int .i64) (q := q) (ys := xs.reverse) h (by simp) (Nat.le_refl _)
      rw [List.take_of_length_le (by simp)] at this
      show World.ownsRow _ _ _ _ _ _ _
      rw [List.length_reverse]
      exact this
    · refine ⟨rfl, rfl, rfl, by simp [Sort.putRow, Sort.mapBlock, Sort.ahead], fun k hk hne => ?_⟩
      have hgk : g ≠ k := fun e => hne (by rw [e]; rfl)
      simp [Sort.putRow, Sort.mapBlock, Sort.ahead, Array.getElem?_modify, hgk]
/-- slices.Clone of any slice. -/
theorem clone_lies (v : Value) (xs : List Int) (w : World) (h : Lies (Value.int .i64) w v xs) (hs : xs.length ≤ 1048576) :
    Calls Try.prog 73 #[v] w (Gives (Value.int .i64) 3 xs w) := by
  obtain ⟨hl, a, cap, rfl, hn, hc⟩ := h
  cases a with
  | none =>
    have hy : xs = [] := by
      cases xs with
      | nil => rfl
      | cons y l => obtain ⟨_, _, h', _⟩ := hc 0 y rfl; cases h'
    subst hy
    refine (Try.slices_Clone_int_nil _ _ w).mono ?_
    rintro e w' ⟨rfl, rfl⟩
    exact ⟨_, rfl, World.ownsRow_nil _ _ _ _, Below.refl _ _⟩
  | some ad =>
    cases hx : xs with
    | nil =>
      refine (Try.slices_Clone_int_zero ad cap w).mono ?_
      rintro e w' ⟨v', rfl, ho, _, hb⟩
      exact ⟨_, rfl, ho, hb⟩
    | cons y ys =>
      obtain ⟨b, off, he, _⟩ := hc 0 y (by rw [hx]; rfl)
      obtain rfl := Option.some.inj he
      rw [← hx]
      refine (Try.slices_Clone_int b off xs.length cap xs w (Nat.le_refl _) (by omega) ?_).mono ?_
      · intro j hj
        obtain ⟨b', off', he', hcell⟩ := hc j _ (List.getElem?_eq_getElem hj)
        injection he' with he'
        injection he' with e1 e2
        subst e1; subst e2
        rw [hcell]
        simp [List.getD, hj]
      · rintro e w' ⟨v', rfl, ho, _, hb⟩
        rw [List.take_length] at ho
        exact ⟨_, rfl, ho, hb⟩
end Digits
end Go.Proofs.Ytodnkkofammhbaa
/- Contracts of DigitsOf and DigitSum, of the program and of the model. No conditions beyond those that each states. -/
namespace Go.Proofs.Ytodnkkofammhbaa
open Go.ChangeShapes Go.WideShapes Go.ChangeAt Go.RowKit
open Go.PlainAid Plain
set_option linter.unusedVariables false
namespace Digits
open Ints

/-- The digits, none where number or base is out of range. -/
def digV (n b : Int) : List Int := if 2 ≤ b ∧ b ≤ 4 ∧ 0 ≤ n ∧ n < powV b 16 then digs n.toNat b.toNat else []
theorem powV_in (b : Nat) (h1 : 2 ≤ b) (h2 : b ≤ 4) : powV b 16 = ((b ^ 16 : Nat) : Int) := by
  rw [powV, if_pos (by omega)]
  rfl
theorem digV_in (n b : Nat) (h1 : 2 ≤ b) (h2 : b ≤ 4) (h3 : n < b ^ 16) : digV n b = digs n b := by
  rw [digV, if_pos ⟨by omega, by omega, by omega, by rw [powV_in b h1 h2]; exact Int.ofNat_lt.2 h3⟩]
  rfl
theorem has_empty (w : World) : Has (Value.int .i64) 3 (w.alloc (.cells #[] 3)) w.heap.size (.slice (some ⟨w.heap.size, 0, none⟩) 0 0) [] := Has.lit (enc := Value.int .i64) (e := 3) w [] (Nat.le_refl _) (by simp)
theorem gives_empty (w : World) : Gives (Value.int .i64) 3 [] w (.returned (.slice (some ⟨w.heap.size, 0, none⟩) 0 0)) (w.alloc (.cells #[] 3)) :=
  ⟨_, rfl, has_empty w, (Below.refl _ _).alloc (Nat.le_refl _) _⟩
theorem spec_digits_no (n b : Int) (w : World) (h : ¬ (2 ≤ b ∧ b ≤ 4 ∧ 0 ≤ n ∧ n < powV b 16)) :
    Calls Try.prog 44 #[.int .i64 n, .int .i64 b] w (Gives (Value.int .i64) 3 [] w) := by
  by_cases h1 : n < 0
  · clear h
    go_enter Try.func44, Try.ntmps44
    go_wp2
    go_ret
    exact gives_empty w
  · by_cases h2 : 2 ≤ b ∧ b ≤ 4
    · have h3 : powV b 16 ≤ n := by omega
      obtain ⟨h4, h5⟩ := h2
      have hp := fun w => spec_pow_any b 16 w
      obtain ⟨p, hp'⟩ : ∃ p, p = powV b 16 := ⟨_, rfl⟩
      rw [← hp'] at h3
      rw [← hp'] at hp
      clear h hp'
      have HP := Lib.hid hp
      clear hp
      go_enter Try.func44, Try.ntmps44
      go_wp2_with fail
      refine (l1In_yes _ _ _ _ h4 h5).mono ?_
      rintro e w' ⟨rfl, rfl⟩
      go_wp2_with fail
      refine (HP.out _).mono ?_
      rintro e w' ⟨rfl, rfl⟩
      go_wp2
      go_ret
      exact gives_empty w
    · have h3 : b < 2 ∨ 4 < b := by omega
      clear h h2
      go_enter Try.func44, Try.ntmps44
      go_wp2_with fail
      refine (l1In_no _ _ _ _ h3).mono ?_
      rintro e w' ⟨rfl, rfl⟩
      go_wp2
      go_ret
      exact gives_empty w
theorem spec_digits_in (n b : Nat) (w : World) (h1 : 2 ≤ b) (h2 : b ≤ 4) (h3 : n < b ^ 16) :
    Calls Try.prog 44 #[.int .i64 n, .int .i64 b] w (Gives (Value.int .i64) 3 (digs n b) w) := by
  obtain ⟨i0, hi, hz0, hz1, hz2⟩ := info_parts infoI
  have hst := Lib.hid (digits_start n b h3)
  have hp := fun w => spec_pow_any b 16 w
  rw [powV_in b h1 h2] at hp
  obtain ⟨p, hp'⟩ : ∃ p, p = b ^ 16 := ⟨_, rfl⟩
  rw [← hp'] at hp
  have hlt : n < p := by omega
  have hz := (pow_bd b 16 h1 h2 (by omega)).2
  have hnb : n ≤ 4294967296 := by omega
  have HP := Lib.hid hp
  clear hp hp' h3 hz
  have hd0 : decide ((n : Int) < 0) = false := decide_eq_false (by omega)
  have hd1 : decide (p ≤ n) = false := decide_eq_false (by omega)
  go_enter Try.func44, Try.ntmps44
  go_wp2_with fail
  refine (l1In_yes _ _ _ _ (by omega) (by omega)).mono ?_
  rintro e w' ⟨rfl, rfl⟩
  go_wp2_with fail
  refine (HP.out _).mono ?_
  rintro e w' ⟨rfl, rfl⟩
  go_wp2_with fail
  clear hlt HP
  go_loopw [0, 5] (fun n' o' wr => ∃ (m : Nat) (cs : List Int), m ≤ 4294967296 ∧ n' = .int .i64 m ∧ Hid (DigitsAt n b m cs) ∧ Hid (Has (Value.int .i64) 3 wr w.heap.size o' cs.reverse) ∧ Hid (Below w.heap.size w wr)) (fun n' _ _ => (intOf n').toNat)
  case atStart => exact ⟨n, [], by omega, rfl, hst, has_empty w, (Below.refl _ _).alloc (Nat.le_refl _) _⟩
  case round =>
    obtain ⟨m, cs, hm, rfl, hat, hown, hbel⟩ := hrel
    by_cases h0 : 0 < m
    · have HS := Lib.hid (digits_step hat.out h0)
      have hlen := HS.out.2
      have hb2 := hbel.out.size
      have hdiv : m / b < m := Nat.div_lt_self h0 (by omega)
      have hne : ((b : Int) == 0) = false := by simp; omega
      have hl := Lib.hid (hown.out.lies.below ((Below.refl wr.heap.size wr).alloc (Nat.le_refl _) (.cells #[.int .i64 ((m : Int) % (b : Int))] 3)))
      have hlit := Lib.hid (Has.lit (enc := Value.int .i64) (e := 3) wr [(m : Int) % (b : Int)] hb2 (by simp))
      have hlr : cs.reverse.length + 1 ≤ 16 := by rw [List.length_reverse]; omega
      have hq0 : 0 ≤ (m : Int) / (b : Int) := Int.ediv_nonneg (by omega) (by omega)
      have hq1 : (m : Int) / (b : Int) ≤ 4294967296 := Int.le_trans (Int.ediv_le_self _ (by omega)) (by omega)
      clear hdiv
      go_wp2_with (at_builtin; refine append_lies (enc := Value.int .i64) (e := 3) _ rfl _ _ 25 rfl w.heap.size i0 (.int .i64 0) 8 Try.underlying25 hi hz0 hz1 hz2 rfl _ [(m : Int) % (b : Int)] rfl hlit.out u5 cs.reverse rfl hl.out (fun _ => rfl) (by simp; omega) (by simp; omega) (by simp; omega) ?_; intro v' w' hown' hgrow')
      have hbel' : Hid (Below w.heap.size w w') := hlit.out.frame (hbel.out.alloc hb2 _) (Nat.le_refl _) hgrow'
      have HO := Lib.hid hown'
      clear hown' hgrow' hlit hl
      go_wp2
      go_roundw
      case rel => exact ⟨m / b, cs ++ [((m % b : Nat) : Int)], by have := Nat.div_le_self m b; omega, by go_num, HS.out.1, by rw [List.reverse_append]; exact HO.out, hbel'⟩
      case measure => simp [intOf]; exact Nat.div_lt_self h0 (by omega)
    · obtain rfl : m = 0 := by omega
      have HE := Lib.hid (digits_end hat.out)
      have H2 : Hid (Has (Value.int .i64) 3 wr w.heap.size u5 (digs n b)) := by
        have := hown.out
        rw [HE.out] at this
        exact this
      clear hown hat
      go_wp2
      go_ret
      exact ⟨u5, rfl, H2.out, hbel.out⟩
theorem gives_nil (w : World) : Gives (Value.int .i64) 3 [] w (.returned (.slice none 0 0)) w := ⟨_, rfl, World.ownsRow_nil _ _ _ _, Below.refl _ _⟩
theorem powV_out (b : Int) (h : ¬ (2 ≤ b ∧ b ≤ 4)) : powV b 16 = 0 := if_neg (by omega)
theorem impl_digits_no (n b : Int) (w : World) (h : ¬ (2 ≤ b ∧ b ≤ 4 ∧ 0 ≤ n ∧ n < powV b 16)) :
    Calls Try.prog 67 #[.int .i64 n, .int .i64 b] w (Gives (Value.int .i64) 3 [] w) := by
  by_cases h1 : n < 0
  · clear h
    have hd0 : decide (n < 0) = true := decide_eq_true h1
    go_enter Try.func67, Try.ntmps67
    go_wp2
    go_ret
    exact gives_nil w
  · have h3 : powV b 16 ≤ n := by
      by_cases h2 : 2 ≤ b ∧ b ≤ 4
      · omega
      · rw [powV_out b h2]; omega
    have hp := fun w => impl_pow_any b 16 w
    obtain ⟨p, hp'⟩ : ∃ p, p = powV b 16 := ⟨_, rfl⟩
    rw [← hp'] at h3
    rw [← hp'] at hp
    clear h hp'
    have HP := Lib.hid hp
    clear hp
    have hd0 : decide (n < 0) = false := decide_eq_false h1
    go_enter Try.func67, Try.ntmps67
    go_wp2_with fail
    refine (HP.out _).mono ?_
    rintro e w' ⟨rfl, rfl⟩
    go_wp2
    go_ret
    exact gives_nil w
theorem impl_digits_in (n b : Nat) (w : World) (h1 : 2 ≤ b) (h2 : b ≤ 4) (h3 : n < b ^ 16) :
    Calls Try.prog 67 #[.int .i64 n, .int .i64 b] w (Gives (Value.int .i64) 3 (digs n b) w) := by
  obtain ⟨i0, hi, hz0, hz1, hz2⟩ := info_parts infoI
  have hst := Lib.hid (digits_start n b h3)
  have hp := fun w => impl_pow_any b 16 w
  rw [powV_in b h1 h2] at hp
  obtain ⟨p, hp'⟩ : ∃ p, p = b ^ 16 := ⟨_, rfl⟩
  rw [← hp'] at hp
  have hlt : n < p := by omega
  have hz := (pow_bd b 16 h1 h2 (by omega)).2
  have hnb : n ≤ 4294967296 := by omega
  have HP := Lib.hid hp
  clear hp hp' h3 hz
  have hd0 : decide ((n : Int) < 0) = false := decide_eq_false (by omega)
  have hd1 : decide (p ≤ n) = false := decide_eq_false (by omega)
  go_enter Try.func67, Try.ntmps67
  go_wp2_with fail
  refine (HP.out _).mono ?_
  rintro e w' ⟨rfl, rfl⟩
  go_wp2_with fail
  clear hlt HP
  go_loopw [0, 5] (fun n' o' wr => ∃ (m : Nat) (cs : List Int), m ≤ 4294967296 ∧ n' = .int .i64 m ∧ Hid (DigitsAt n b m cs) ∧ Hid (Has (Value.int .i64) 3 wr w.heap.size o' cs) ∧ Hid (Below w.heap.size w wr)) (fun n' _ _ => (intOf n').toNat)
  case atStart => exact ⟨n, [], by omega, rfl, hst, World.ownsRow_nil _ _ _ _, Below.refl _ _⟩
  case round =>
    obtain ⟨m, cs, hm, rfl, hat, hown, hbel⟩ := hrel
    by_cases h0 : 0 < m
    · have HS := Lib.hid (digits_step hat.out h0)
      have hlen := HS.out.2
      have hb2 := hbel.out.size
      have hne : ((b : Int) == 0) = false := by simp; omega
      have hq0 : 0 ≤ (m : Int) / (b : Int) := Int.ediv_nonneg (by omega) (by omega)
      have hq1 : (m : Int) / (b : Int) ≤ 4294967296 := Int.le_trans (Int.ediv_le_self _ (by omega)) (by omega)
      go_wp2_with (at_builtin; refine append_one (enc := Value.int .i64) (e := 3) wr rfl _ _ 25 rfl w.heap.size i0 (.int .i64 0) 8 Try.underlying25 hi hz0 hz1 hz2 rfl u5 cs rfl hown.out ((m : Int) % (b : Int)) rfl (fun _ => rfl) (by omega) (by omega) hb2 ?_; intro v' w' hown' hgrow')
      have hbel' : Hid (Below w.heap.size w w') := hown.out.frame hbel.out (Nat.le_refl _) hgrow'
      have HO := Lib.hid hown'
      clear hown' hgrow'
      go_wp2
      go_roundw
      case rel => exact ⟨m / b, cs ++ [((m % b : Nat) : Int)], by have := Nat.div_le_self m b; omega, by go_num, HS.out.1, HO.out, hbel'⟩
      case measure => simp [intOf]; exact Nat.div_lt_self h0 (by omega)
    · obtain rfl : m = 0 := by omega
      have HE := Lib.hid (digits_end hat.out)
      have H2 : Hid (Has (Value.int .i64) 3 wr w.heap.size u5 (lows b 16 n)) := by
        have := hown.out
        rw [HE.out] at this
        exact this
      clear hown hat HE
      go_wp2_with fail
      refine (reverse_has u5 _ wr _ H2.out).mono ?_
      rintro e w2 ⟨rfl, ho, hg⟩
      have HG : Hid (Gives (Value.int .i64) 3 (digs n b) w (.returned u5) w2) := ⟨u5, rfl, ho, H2.out.frame hbel.out (Nat.le_refl _) hg⟩
      clear ho hg
      go_wp2
      go_ret
      exact HG.out
theorem spec_digits_any (n b : Int) (w : World) : Calls Try.prog 44 #[.int .i64 n, .int .i64 b] w (Gives (Value.int .i64) 3 (digV n b) w) := by
  by_cases h : 2 ≤ b ∧ b ≤ 4 ∧ 0 ≤ n ∧ n < powV b 16
  · obtain ⟨k, rfl⟩ := Int.eq_ofNat_of_zero_le (show 0 ≤ b by omega)
    obtain ⟨m, rfl⟩ := Int.eq_ofNat_of_zero_le (show 0 ≤ n by omega)
    have h4 := h.2.2.2
    rw [powV_in k (by omega) (by omega)] at h4
    rw [digV_in m k (by omega) (by omega) (by omega)]
    exact spec_digits_in m k w (by omega) (by omega) (by omega)
  · rw [digV, if_neg h]
    exact spec_digits_no n b w h
theorem impl_digits_any (n b : Int) (w : World) : Calls Try.prog 67 #[.int .i64 n, .int .i64 b] w (Gives (Value.int .i64) 3 (digV n b) w) := by
  by_cases h : 2 ≤ b ∧ b ≤ 4 ∧ 0 ≤ n ∧ n < powV b 16
  · obtain ⟨k, rfl⟩ := Int.eq_ofNat_of_zero_le (show 0 ≤ b by omega)
    obtain ⟨m, rfl⟩ := Int.eq_ofNat_of_zero_le (show 0 ≤ n by omega)
    have h4 := h.2.2.2
    rw [powV_in k (by omega) (by omega)] at h4
    rw [digV_in m k (by omega) (by omega) (by omega)]
    exact impl_digits_in m k w (by omega) (by omega) (by omega)
  · rw [digV, if_neg h]
    exact impl_digits_no n b w h
theorem digV_len (n b : Int) : (digV n b).length ≤ 16 := by
  unfold digV
  split
  · exact digs_len _ _
  · simp
theorem digV_mem (n b : Int) : ∀ x ∈ digV n b, 0 ≤ x ∧ x < 4 := by
  unfold digV
  split
  · intro x hx
    have := digs_mem _ _ (by omega) x hx
    omega
  · intro x hx; cases hx
end Digits
end Go.Proofs.Ytodnkkofammhbaa
/- Contracts of the draws of the first chapter's law: some number, some short text, some number and width. No conditions beyond those that each states. -/
namespace Go.Proofs.Ytodnkkofammhbaa
open Go.ChangeShapes Go.WideShapes Go.ChangeAt Go.RowKit
open Go.ChangeMaps (open_string shut_string)
open Go.PlainAid Plain
set_option linter.unusedVariables false
namespace Cursor
def SomePair (P : Int → Int → Prop) (Q : World → Prop) (e : Ending) (w' : World) : Prop := ∃ n m : Int, P n m ∧ e = .returned (.tuple #[.int .i64 n, .int .i64 m]) ∧ Q w'
theorem new_stands {W w w' : World} {p : Nat} {a : Option Addr} {len cap : Nat} (hb : Below W.heap.size W w) (hp : w.heap.size ≤ p) (hg : w.grownBy w' none) (hc : CurIs w' p a len cap) : Stands W w' p a len cap :=
  ⟨hb.grown hg hb.size (fun k hk => by cases hk), Nat.le_trans hb.size hp, hc⟩
theorem big_no (w : World) (a : Option Addr) (len cap : Nat) (h : len ≤ 1048576) :
    Calls Try.prog 4 #[.slice a len cap] w fun e w' => e = .returned (.bool false) ∧ w = w' := by
  have hd : decide (1048576 < len) = false := decide_eq_false (by omega)
  go_enter Try.func4, Try.ntmps4
  go_wp2
  go_ret
  exact ⟨by simp; omega, rfl⟩
theorem big_yes (w : World) (a : Option Addr) (len cap : Nat) (h : 1048576 < len) :
    Calls Try.prog 4 #[.slice a len cap] w fun e w' => e = .returned (.bool true) ∧ w = w' := by
  go_enter Try.func4, Try.ntmps4
  go_wp2
  go_ret
  exact ⟨by simp; omega, rfl⟩
end Cursor
end Go.Proofs.Ytodnkkofammhbaa
/- Contracts of the draws of chapter 2: some number and base, some short list of digits. No conditions beyond those that each states. -/
namespace Go.Proofs.Ytodnkkofammhbaa
open Go.ChangeShapes Go.WideShapes Go.ChangeAt Go.RowKit
open Go.PlainAid Plain
set_option linter.unusedVariables false
namespace Cursor
open Ints Digits
theorem code_next {w w1 : World} {a : Option Addr} {len : Nat} (h : CodeIs w w.heap.size a len) (hb : Below w.heap.size w w1) : CodeIs w1 w1.heap.size a len :=
  h.imp id fun ⟨b, off, ha, hlt, hc⟩ => ⟨b, off, ha, Nat.lt_of_lt_of_le hlt hb.size, fun i hi => by
    obtain ⟨v, h0, h1, hv⟩ := hc i hi
    exact ⟨v, h0, h1, (hb.cell (p := ⟨b, off + i, none⟩) hlt).trans hv⟩⟩
def SomeBool (Q : World → Prop) (e : Ending) (w' : World) : Prop := ∃ t : Bool, e = .returned (.bool t) ∧ Q w'
/-- Some list of ints, the call's own. -/
def SomeList (P : List Int → Prop) (w : World) (Q : World → Prop) (e : Ending) (w' : World) : Prop := ∃ v xs, P xs ∧ e = .returned v ∧ Has (Value.int .i64) 3 w' w.heap.size v xs ∧ Q w'
def SomeListInt (P : List Int → Int → Prop) (w : World) (Q : World → Prop) (e : Ending) (w' : World) : Prop := ∃ v xs, ∃ n : Int, P xs n ∧ e = .returned (.tuple #[v, .int .i64 n]) ∧ Has (Value.int .i64) 3 w' w.heap.size v xs ∧ Q w'
theorem once (W w : World) (p : Nat) (a : Option Addr) (len cap : Nat) (n : Int) (hn0 : 1 ≤ n) (hn1 : n ≤ 9223372036854775807) (hlen : len ≤ 1048576) (hcode : CodeIs W W.heap.size a len) (hs : Stands W w p a len cap) :
    Calls Try.prog 51 #[.pointer (some ⟨p, 0, none⟩), .int .i64 n] w (SomeBool (fun w' => w.grownBy w' (some p) ∧ CurIs w' p a len cap)) := by
  have H := Lib.hid (below W w p a len cap n hn0 hn1 hlen hcode hs)
  clear hcode hs
  go_enter Try.func51, Try.ntmps51
  go_wp2_with fail
  refine H.out.mono ?_
  rintro e w1 ⟨x, ⟨hx0, hx1⟩, rfl, hg, hc⟩
  go_wp2
  go_ret
  exact ⟨_, rfl, hg, hc⟩
theorem list_lit (w : World) (xs : List Int) (T : TypeId) (h : ∀ x ∈ xs, I64 x) : ListIs (w.alloc (.cells (xs.map (Value.int .i64)).toArray T)) w.heap.size xs.length := by
  intro j hj
  have := h xs[j] (List.getElem_mem hj)
  refine ⟨xs[j], this.1, this.2, ?_⟩
  rw [cell_of_row _ w.heap.size j _ T (0, 0) (heap_alloc_new w _)]
  simp [hj]
/-- The numbers of which l2Number picks one. -/
def nums2 : List Int := [-1, 65535, 65536, 4294967295, 4294967296, 9223372036854775807]
theorem nums2_ok : ∀ v ∈ nums2, I64 v := by unfold nums2 I64; simp
def nums3 : List Int := [-1, 4]
theorem nums3_ok : ∀ v ∈ nums3, I64 v := by unfold nums3 I64; simp
theorem grown_below {w w' : World} {p B : Nat} (h : w.grownBy w' (some p)) (hp : B ≤ p) (hB : B ≤ w.heap.size) : Below B w w' := (Below.refl B w).grown h hB (fun k hk => by cases hk; exact hp)
end Cursor
end Go.Proofs.Ytodnkkofammhbaa
/- Contracts of the exact laws' own helpers on sequences, first part: the size of one. No conditions beyond those that each states. -/
namespace Go.Proofs.Ytodnkkofammhbaa
open Go.ChangeShapes Go.WideShapes Go.ChangeAt Go.RowKit
open Go.PlainAid Plain
set_option linter.unusedVariables false
namespace Seqs

theorem ret_i {a b : Int} (h : a = b) : Ending.returned (.int .i64 a) = Ending.returned (.int .i64 b) := by rw [h]
theorem ret_b {a b : Bool} (h : a = b) : Ending.returned (.bool a) = Ending.returned (.bool b) := by rw [h]
/-- What is left of a size, -1 where nothing is. -/
def szV (left : Int) (n : Nat) : Int := if (n : Int) ≤ left then left - n else -1
theorem szV_yes {left : Int} {n : Nat} (h : (n : Int) ≤ left) : szV left n = left - n := by rw [szV, if_pos h]
theorem szV_no {left : Int} {n : Nat} (h : ¬ (n : Int) ≤ left) : szV left n = -1 := by rw [szV, if_neg h]
end Seqs
end Go.Proofs.Ytodnkkofammhbaa
/- Contracts of the exact laws' own helpers on sequences, second part: copying one. No conditions beyond those that each states. -/
namespace Go.Proofs.Ytodnkkofammhbaa
open Go.ChangeShapes Go.WideShapes Go.ChangeAt Go.RowKit
open Go.PlainAid Plain
set_option linter.unusedVariables false
namespace Seqs
theorem infoR : (Try.prog.info? 25).map (fun i => (i.zero, i.size, i.bytes)) = some (some (.slice none 0 0), 1, 24) := by kernel_rfl
end Seqs
end Go.Proofs.Ytodnkkofammhbaa
/- Contracts of the drawing of sequences: some sequence of few states, the call's own; only the cursor's block changes, and new blocks come. No conditions beyond those that each states. -/
namespace Go.Proofs.Ytodnkkofammhbaa
open Go.ChangeShapes Go.WideShapes Go.ChangeAt Go.RowKit
open Go.PlainAid Plain
set_option linter.unusedVariables false
namespace Cursor
open Ints Digits
/-- A sequence as the drawing makes it: at least one state, no empty row, few and short rows. -/
def SeqOk (rows : List (List Int)) (out : List Int) : Prop := 1 ≤ rows.length ∧ rows.length ≤ 16 ∧ out.length = rows.length ∧ ∀ r ∈ rows, 1 ≤ r.length ∧ r.length ≤ 4
def SomeSeq (w : World) (Q : World → Prop) (e : Ending) (w' : World) : Prop := ∃ v b rows out, SeqOk rows out ∧ e = .returned v ∧ OwnS w' w.heap.size w'.heap.size v b rows out ∧ Q w'
theorem Stands.drew {W w : World} {p : Nat} {a : Option Addr} {len cap : Nat} (h : Stands W w p a len cap) : Stands W w.drew p a len cap :=
  h.other (r := none) (Plain.grown_of_below (below_drew' w)) (fun q hq => by cases hq)
set_option maxRecDepth 100000 in
set_option maxHeartbeats 4000000 in
theorem random (W w : World) (c : Nat) (a : Option Addr) (len cap b n : Nat) (hb1 : 1 ≤ b) (hb4 : b ≤ 4) (hn1 : 1 ≤ n) (hn16 : n ≤ 16) (hlen : len ≤ 1048576) (hcode : CodeIs W W.heap.size a len) (hs : Stands W w c a len cap) :
    Calls Try.prog 55 #[.pointer (some ⟨c, 0, none⟩), .int .i64 b, .int .i64 n] w (SomeSeq w (fun w' => w.grownBy w' (some c) ∧ CurIs w' c a len cap)) := by
  obtain ⟨i0, hi0, hz0, hz1, hz2⟩ := info_parts Ints.infoI
  obtain ⟨i2, hi2, hz20, hz21, hz22⟩ := info_parts Seqs.infoR
  have HO := Lib.hid (fun (w : World) (hs : Stands W w c a len cap) => once W w c a len cap 2 (by decide) (by decide) hlen hcode hs)
  have HB := Lib.hid (fun (w : World) (n : Int) (hn0 : 1 ≤ n) (hn1 : n ≤ 9223372036854775807) (hs : Stands W w c a len cap) => below W w c a len cap n hn0 hn1 hlen hcode hs)
  have hcw := hs.lt
  have hown := hs.own
  have hZ0 := (Cells3.new w 27 (.int .i64 0) (.slice none 0 0) (.slice none 0 0)).alloc (Obj.cells #[Value.int .i64 (b : Int), Value.slice none 0 0, Value.slice none 0 0] 27)
  have hP := Cells3.new (w.alloc (Obj.cells #[Value.int .i64 0, Value.slice none 0 0, Value.slice none 0 0] 27)) 27 (.int .i64 (b : Int)) (.slice none 0 0) (.slice none 0 0)
  rw [size_alloc'] at hP
  have hG0 : w.grownBy ((w.alloc (Obj.cells #[Value.int .i64 0, Value.slice none 0 0, Value.slice none 0 0] 27)).alloc (Obj.cells #[Value.int .i64 (b : Int), Value.slice none 0 0, Value.slice none 0 0] 27)) (some c) := grown_new (grown_new (grown_self w c) _) _
  have hS : Hid (Stands W ((w.alloc (Obj.cells #[Value.int .i64 0, Value.slice none 0 0, Value.slice none 0 0] 27)).alloc (Obj.cells #[Value.int .i64 (b : Int), Value.slice none 0 0, Value.slice none 0 0] 27)) c a len cap) := (hs.alloc (Obj.cells #[Value.int .i64 0, Value.slice none 0 0, Value.slice none 0 0] 27)).alloc (Obj.cells #[Value.int .i64 (b : Int), Value.slice none 0 0, Value.slice none 0 0] 27)
  have hM : Hid (Making ((w.alloc (Obj.cells #[Value.int .i64 0, Value.slice none 0 0, Value.slice none 0 0] 27)).alloc (Obj.cells #[Value.int .i64 (b : Int), Value.slice none 0 0, Value.slice none 0 0] 27)) (w.heap.size + 2) ((w.alloc (Obj.cells #[Value.int .i64 0, Value.slice none 0 0, Value.slice none 0 0] 27)).alloc (Obj.cells #[Value.int .i64 (b : Int), Value.slice none 0 0, Value.slice none 0 0] 27)).heap.size (w.heap.size + 1) (b : Int) (.slice none 0 0) (.slice none 0 0) (.slice none 0 0) [] [] [] []) :=
    Making.start hP (World.ownsRow_nil _ _ _ _) (by rw [size_alloc', size_alloc']; exact Nat.le_refl _)
  have hZ : Hid (Cells3 ((w.alloc (Obj.cells #[Value.int .i64 0, Value.slice none 0 0, Value.slice none 0 0] 27)).alloc (Obj.cells #[Value.int .i64 (b : Int), Value.slice none 0 0, Value.slice none 0 0] 27)) w.heap.size 27 (.int .i64 0) (.slice none 0 0) (.slice none 0 0)) := hZ0
  have hG : Hid (w.grownBy ((w.alloc (Obj.cells #[Value.int .i64 0, Value.slice none 0 0, Value.slice none 0 0] 27)).alloc (Obj.cells #[Value.int .i64 (b : Int), Value.slice none 0 0, Value.slice none 0 0] 27)) (some c)) := hG0
  clear hcode hs hP hZ0 hG0
  obtain ⟨z, hz⟩ : ∃ z, z = w.heap.size := ⟨_, rfl⟩
  obtain ⟨p, hp⟩ : ∃ z, z = w.heap.size + 1 := ⟨_, rfl⟩
  obtain ⟨BB, hBB⟩ : ∃ z, z = w.heap.size + 2 := ⟨_, rfl⟩
  have HNUM := Lib.hid (show c < z ∧ z < p ∧ p < BB ∧ W.heap.size ≤ c ∧ z = w.heap.size ∧ BB = w.heap.size + 2 from by omega)
  rw [← hp, ← hBB] at hM
  rw [← hz] at hZ
  clear hcw hown
  go_enter Try.func55, Try.ntmps55
  go_wp2_with fail
  rw [← hp]
  clear hz hp hBB
  go_loopw [8] (fun i' wr => ∃ (i : Nat) (vn vo : Value) (us : List Value) (rows : List (List Int)) (out : List Int) (hi : Nat), i ≤ n ∧ i' = .int .i64 i ∧ Hid (rows.length = i ∧ out.length = i ∧ ∀ r ∈ rows, r.length = b) ∧ Hid (Making wr BB hi p (b : Int) vn vo (.slice none 0 0) us rows out []) ∧ Hid (Cells3 wr z 27 (.int .i64 0) (.slice none 0 0) (.slice none 0 0)) ∧ Hid (w.grownBy wr (some c)) ∧ Hid (Stands W wr c a len cap)) (fun i' _ => n - (intOf i').toNat)
  case atStart => exact ⟨0, _, _, [], [], [], _, Nat.zero_le _, rfl, ⟨rfl, rfl, fun r hr => by cases hr⟩, hM, hZ, hG, hS⟩
  case round =>
    clear hM hZ hG hS
    obtain ⟨i, vn, vo, us, rows, out, hi, hin, rfl, hL, hM, hZ, hG, hS⟩ := hrel
    obtain ⟨W6, rfl⟩ : ∃ W : World, W = wr := ⟨_, rfl⟩
    by_cases hlt : i < n
    case neg =>
      obtain rfl : n = i := by omega
      go_wp2_with fail
      refine (HO.out _ hS.out).mono ?_
      rintro e W7 ⟨t, rfl, g7, c7⟩
      have HM7 := Lib.hid (hM.out.moved g7 (by have := HNUM.out; omega) (by have := HNUM.out; omega))
      have hz7 := hZ.out.grown g7 (by have := HNUM.out; simp; omega)
      rw [show z = w.heap.size from HNUM.out.2.2.2.2.1] at hz7
      have HZ7 := Lib.hid hz7
      have HG7 := Lib.hid (grown_more hG.out g7 (fun k hk => .inl (Option.some.inj hk).symm))
      have HS7 := Lib.hid (hS.out.next g7 c7)
      clear hM hZ hG hS g7 c7 hz7
      have hcw : w.heap.size < p := by have := HNUM.out; omega
      have hcb : w.heap.size < BB := by have := HNUM.out; omega
      have hcW : W.heap.size ≤ w.heap.size := by have := HNUM.out; omega
      have hcc : w.heap.size ≠ c := by have := HNUM.out; omega
      have HOK : Hid (SeqOk rows out) := ⟨by rw [hL.out.1]; exact hn1, by rw [hL.out.1]; exact hn16, by rw [hL.out.1, hL.out.2.1], fun q hq => by rw [hL.out.2.2 q hq]; exact ⟨hb1, hb4⟩⟩
      obtain ⟨na, nc, oa, oc, hvn, hvo⟩ := HM7.out.form
      rw [hL.out.1] at hvn
      rw [hL.out.2.1] at hvo
      subst hvn; subst hvo
      cases t with
      | false =>
        have HBD := Lib.hid HM7.out.building
        clear HM7
        have HW := Lib.hid HBD.out.seq
        have m0 := HBD.out.cells.c0
        have m1 := HBD.out.cells.c1
        have m2 := HBD.out.cells.c2
        have z0 := HZ7.out.c0
        have z1 := HZ7.out.c1
        have z2 := HZ7.out.c2
        have z3 := HZ7.out.f
        clear HBD
        go_wp2
        have hZ3 := (((HZ7.out.set0 (.int .i64 (b : Int))).set1 (.slice na n nc)).set2 (.slice oa n oc))
        have n0 := hZ3.c0
        have n1 := hZ3.c1
        have n2 := hZ3.c2
        refine bodyPost_ret (v := .agg #[.int .i64 (b : Int), .slice na n nc, .slice oa n oc]) (by simp [results, Try.results55, go_sem, n0, n1, n2]) rfl ⟨_, (b : Int), _, _, HOK.out, rfl, ?_, ?_, ?_⟩
        · have T0 : Plain.Touch w.heap.size (w.heap.size + 1) W7 (((W7.setCell ⟨w.heap.size, 0, none⟩ (.int .i64 (b : Int))).setCell ⟨w.heap.size, 1, none⟩ (.slice na n nc)).setCell ⟨w.heap.size, 2, none⟩ (.slice oa n oc)) :=
            ((Plain.Touch.of_set _ (by show w.heap.size ≤ w.heap.size; exact Nat.le_refl _) (by show w.heap.size < w.heap.size + 1; omega)).trans (Plain.Touch.of_set _ (by show w.heap.size ≤ w.heap.size; exact Nat.le_refl _) (by show w.heap.size < w.heap.size + 1; omega))).trans (Plain.Touch.of_set _ (by show w.heap.size ≤ w.heap.size; exact Nat.le_refl _) (by show w.heap.size < w.heap.size + 1; omega))
          have := (HW.out.touch T0 (.inr (by omega))).lower (show w.heap.size ≤ BB by omega)
          simpa only [size_setCell'] using this
        · exact grown_set (grown_set (grown_set HG7.out (Nat.le_refl _) _) (Nat.le_refl _) _) (Nat.le_refl _) _
        · exact (((HS7.out.other (Cursor.grown_setCell _ w.heap.size 0 _) (fun k hk => by cases hk; exact ⟨hcc, hcW⟩)).other (Cursor.grown_setCell _ w.heap.size 1 _) (fun k hk => by cases hk; exact ⟨hcc, hcW⟩)).other (Cursor.grown_setCell _ w.heap.size 2 _) (fun k hk => by cases hk; exact ⟨hcc, hcW⟩)).cur
      | true =>
        obtain ⟨u0, hu0⟩ : ∃ u, us[0]? = some u := ⟨_, List.getElem?_eq_getElem (by rw [HM7.out.len, hL.out.1]; omega)⟩
        obtain ⟨r0, hr0⟩ : ∃ r, rows[0]? = some r := ⟨_, List.getElem?_eq_getElem (by rw [hL.out.1]; omega)⟩
        have hI : OwnI W7 BB hi u0 r0 := HM7.out.fam.row 2 u0 r0 hu0 hr0
        have hl0 := hL.out.2.2 r0 (List.mem_of_getElem? hr0)
        obtain ⟨g, cc, hgu, hgb, hgl⟩ := own_at hI.has (by omega)
        rw [hl0] at hgu
        subst hgu
        have h0 : W7.ownsRow BB 3 1 (.slice (some ⟨g, 0, none⟩) b cc) b (r0.map (Value.int .i64)) := by
          have := hI.has
          unfold Has at this
          rw [hl0] at this
          exact this
        have y1 := h0.frozenAt 0
        obtain ⟨yy, y3⟩ : ∃ yy, W7.cell? ⟨g, 0, none⟩ = some yy := by
          have y3 := h0.cellAt 0 (by omega)
          rw [List.getElem?_map, List.getElem?_eq_getElem (by omega), Option.map_some] at y3
          exact ⟨_, y3⟩
        have hg3 : g ≠ p := fun e => has_ne_c3 hI.has HM7.out.cells (by decide) (by rw [← e]; rfl)
        have hg4 : g ≠ w.heap.size := fun e => has_ne_c3 hI.has HZ7.out (by decide) (by rw [← e]; rfl)
        obtain ⟨_, ta, tc, htv, _, hct⟩ := HM7.out.top.lies
        obtain ⟨tq, ts, hta, y2⟩ := hct 0 _ hu0
        have hna : na = some ⟨tq, ts, none⟩ := by
          injection htv with h1
          rw [h1, hta]
        subst hna
        have y2' : W7.cell? ⟨tq, ts, none⟩ = some (.slice (some ⟨g, 0, none⟩) b cc) := y2
        have y0 := HM7.out.cells.c1
        have HBD := Lib.hid (HM7.out.building.write hu0 hr0 0 0)
        have HZ8 := Lib.hid (HZ7.out.other (a := ⟨g, 0, none⟩) hg4 (.int .i64 0))
        have HG8 : Hid (w.grownBy (W7.setCell ⟨g, 0, none⟩ (.int .i64 0)) (some c)) := grown_set HG7.out (by omega) _
        have HS8 : Hid (Stands W (W7.setCell ⟨g, 0, none⟩ (.int .i64 0)) c a len cap) := HS7.out.other (Cursor.grown_setCell W7 g 0 _) (fun k hk => by cases hk; have := HNUM.out; omega)
        have HOK2 : Hid (SeqOk (rows.set 0 (r0.set 0 0)) out) := by
          refine ⟨by rw [List.length_set]; exact HOK.out.1, by rw [List.length_set]; exact HOK.out.2.1, by rw [List.length_set]; exact HOK.out.2.2.1, fun q hq => ?_⟩
          rcases List.mem_or_eq_of_mem_set hq with h1 | h1
          · exact HOK.out.2.2.2 q h1
          · rw [h1, List.length_set, hl0]; exact ⟨hb1, hb4⟩
        have hn0 : 0 < n := hn1
        have hb0 : 0 < b := hb1
        clear hta htv hct hu0 hr0 hI hl0 hgb hgl h0 HM7 HZ7 HG7 HS7 HOK y2
        have HW := Lib.hid HBD.out.seq
        have m0 := HBD.out.cells.c0
        have m1 := HBD.out.cells.c1
        have m2 := HBD.out.cells.c2
        have z0 := HZ8.out.c0
        have z1 := HZ8.out.c1
        have z2 := HZ8.out.c2
        have z3 := HZ8.out.f
        clear HBD
        go_wp2
        have hZ3 := (((HZ8.out.set0 (.int .i64 (b : Int))).set1 (.slice (some ⟨tq, ts, none⟩) n nc)).set2 (.slice oa n oc))
        have n0 := hZ3.c0
        have n1 := hZ3.c1
        have n2 := hZ3.c2
        refine bodyPost_ret (v := .agg #[.int .i64 (b : Int), .slice (some ⟨tq, ts, none⟩) n nc, .slice oa n oc]) (by simp [results, Try.results55, go_sem, n0, n1, n2]) rfl ⟨_, (b : Int), _, _, HOK2.out, rfl, ?_, ?_, ?_⟩
        · have T0 : Plain.Touch w.heap.size (w.heap.size + 1) (W7.setCell ⟨g, 0, none⟩ (.int .i64 0)) ((((W7.setCell ⟨g, 0, none⟩ (.int .i64 0)).setCell ⟨w.heap.size, 0, none⟩ (.int .i64 (b : Int))).setCell ⟨w.heap.size, 1, none⟩ (.slice (some ⟨tq, ts, none⟩) n nc)).setCell ⟨w.heap.size, 2, none⟩ (.slice oa n oc)) :=
            ((Plain.Touch.of_set _ (by show w.heap.size ≤ w.heap.size; exact Nat.le_refl _) (by show w.heap.size < w.heap.size + 1; omega)).trans (Plain.Touch.of_set _ (by show w.heap.size ≤ w.heap.size; exact Nat.le_refl _) (by show w.heap.size < w.heap.size + 1; omega))).trans (Plain.Touch.of_set _ (by show w.heap.size ≤ w.heap.size; exact Nat.le_refl _) (by show w.heap.size < w.heap.size + 1; omega))
          have := (HW.out.touch T0 (.inr (by omega))).lower (show w.heap.size ≤ BB by omega)
          simpa only [size_setCell'] using this
        · exact grown_set (grown_set (grown_set HG8.out (Nat.le_refl _) _) (Nat.le_refl _) _) (Nat.le_refl _) _
        · exact (((HS8.out.other (Cursor.grown_setCell _ w.heap.size 0 _) (fun k hk => by cases hk; exact ⟨hcc, hcW⟩)).other (Cursor.grown_setCell _ w.heap.size 1 _) (fun k hk => by cases hk; exact ⟨hcc, hcW⟩)).other (Cursor.grown_setCell _ w.heap.size 2 _) (fun k hk => by cases hk; exact ⟨hcc, hcW⟩)).cur
    case pos =>
      obtain ⟨na, nc, oa, oc, hvn, hvo⟩ := hM.out.form
      rw [hL.out.1] at hvn
      rw [hL.out.2.1] at hvo
      subst hvn; subst hvo
      have hb7 : Below W6.heap.size W6 (W6.alloc (.cells #[] 3)) := (Below.refl _ _).alloc (Nat.le_refl _) _
      have hRG : Hid (Rowing (W6.alloc (.cells #[] 3)) BB (W6.alloc (.cells #[] 3)).heap.size p (b : Int) (.slice na i nc) (.slice oa i oc) (.slice none 0 0) (.slice (some ⟨W6.heap.size, 0, none⟩) 0 0) us rows out [] []) :=
        hM.out.begin hb7 (has_lit0 (enc := Value.int .i64) rfl (Nat.le_refl _))
      have hZ7 := Lib.hid (hZ.out.below hb7)
      have hG7 := Lib.hid (grown_new hG.out (.cells #[] 3))
      have hS7 := Lib.hid (hS.out.alloc (.cells #[] 3))
      clear hM hZ hG hS hb7
      go_wp2_with fail
      go_loopw [9, 10] (fun r' k' wr => ∃ (k : Nat) (r : List Int) (hi' : Nat), k ≤ b ∧ k' = .int .i64 k ∧ Hid (r.length = k) ∧ Hid (Rowing wr BB hi' p (b : Int) (.slice na i nc) (.slice oa i oc) (.slice none 0 0) r' us rows out [] r) ∧ Hid (Cells3 wr z 27 (.int .i64 0) (.slice none 0 0) (.slice none 0 0)) ∧ Hid (w.grownBy wr (some c)) ∧ Hid (Stands W wr c a len cap)) (fun _ k' _ => b - (intOf k').toNat)
      case atStart => exact ⟨0, [], _, Nat.zero_le _, rfl, rfl, hRG, hZ7, hG7, hS7⟩
      case round =>
        clear hRG hZ7 hG7 hS7
        obtain ⟨k, r, hi', hkb, rfl, hRL, hRG, hZ, hG, hS⟩ := hrel
        obtain ⟨W8, rfl⟩ : ∃ W : World, W = wr := ⟨_, rfl⟩
        obtain ⟨ra, rc, hr9, _⟩ := hRG.out.row_.has.form
        rw [hRL.out] at hr9
        subst hr9
        by_cases hlk : k < b
        case pos =>
          have hn0 : (1 : Int) ≤ (n : Int) := by omega
          go_wp2_with fail
          refine (HB.out _ n hn0 (by omega) hS.out).mono ?_
          rintro e W9 ⟨x, hx, rfl, g9, c9⟩
          have HR9 := Lib.hid (hRG.out.moved g9 (by have := HNUM.out; omega) (by have := HNUM.out; omega))
          have HZ9 := Lib.hid (hZ.out.grown g9 (by have := HNUM.out; simp; omega))
          have HG9 := Lib.hid (grown_more hG.out g9 (fun k hk => .inl (Option.some.inj hk).symm))
          have HS9 := Lib.hid (hS.out.next g9 c9)
          have HLE := Lib.hid (show BB ≤ W9.heap.size from Nat.le_trans HR9.out.lo HR9.out.le)
          clear hRG hZ hG hS hx g9 c9
          go_wp2_with (at_builtin; refine wpList_append_list (enc := Value.int .i64) (e := 3) rfl (.tmp 24) (.tmp 28) 25 rfl BB i0 (.int .i64 0) 8 Try.underlying25 hi0 hz0 hz1 hz2 rfl (.slice ra k rc) r rfl (has_alloc HR9.out.row_.has _) (.slice (some ⟨W9.heap.size, 0, none⟩) 1 1) [x] rfl (lies_lit1 (enc := Value.int .i64) _ rfl) (fun _ _ => rfl) (by rw [hRL.out]; simp only [List.length_cons, List.length_nil]; omega) (by rw [hRL.out]; simp only [List.length_cons, List.length_nil]; omega) (by have := HLE.out; simp; omega) ?_; intro v9 w9 hv9 hg9 hb9; have hg9' := grown_alloc hg9)
          have HR10 := Lib.hid (HR9.out.grow hv9 hg9' (fun k hk => (hb9 k hk).imp id (fun h => by simp at h; omega)))
          have hlo : ∀ k, (Value.slice ra k rc).ownBlock = some k → True := fun _ _ => trivial
          have HZ10 := Lib.hid (HZ9.out.grown hg9' (has_ne_c3 HR9.out.row_.has HZ9.out (by decide)))
          have HG10 := Lib.hid (grown_more HG9.out hg9' (fun k hk => .inr (by have := (HR9.out.row_.has.lt k hk).1; have := HNUM.out; omega)))
          have HS10 := Lib.hid (HS9.out.other hg9' (fun k hk => by have := (HR9.out.row_.has.lt k hk).1; have := HNUM.out; omega))
          have HRL : Hid ((r ++ [x]).length = k + 1) := by show _ = _; rw [List.length_append, hRL.out]; rfl
          clear hv9 hg9 hb9 hg9' HR9 HZ9 HG9 HS9 hlo
          go_wp2
          go_roundw
          case rel => exact ⟨k + 1, r ++ [x], w9.heap.size, by omega, by go_num, HRL, HR10, HZ10, HG10, HS10⟩
          case measure => simp [intOf]; omega
        case neg =>
          obtain rfl : b = k := by omega
          have d1 := hRG.out.cells.c1
          have d2 := (hRG.out.cells.alloc (.cells #[Value.slice ra b rc] 25)).c1
          have hpl := hRG.out.cells.lt
          have HNP := Lib.hid (has_ne_c3 hRG.out.top hRG.out.cells (by decide))
          have HNZ := Lib.hid (has_ne_c3 hRG.out.top hZ.out (by decide))
          have HLO8 := Lib.hid (show BB ≤ W8.heap.size from Nat.le_trans hRG.out.lo hRG.out.le)
          have HUL : Hid (us.length = i) := by show _ = _; rw [hRG.out.len, hL.out.1]
          go_wp2_with (at_builtin; refine wpList_append_list (enc := id) (e := 25) rfl (.tmp 31) (.tmp 33) 24 rfl BB i2 (.slice none 0 0) 24 Try.underlying24 hi2 hz20 hz21 hz22 rfl (.slice na i nc) us rfl (has_alloc hRG.out.top _) (.slice (some ⟨W8.heap.size, 0, none⟩) 1 1) [.slice ra b rc] rfl (lies_lit1v _ rfl) (fun y hy => by simp at hy; subst hy; rfl) (by rw [HUL.out]; simp only [List.length_cons, List.length_nil]; omega) (by rw [HUL.out]; simp only [List.length_cons, List.length_nil]; omega) (by have := HLO8.out; simp; omega) ?_; intro v' w2 hv' hg2 _; obtain ⟨a3, c3, hvf, _⟩ := hv'.form; rw [show (us ++ [Value.slice ra b rc]).length = i + 1 from by rw [List.length_append, HUL.out]; rfl] at hvf; subst hvf; have hg3 := grown_alloc hg2; have hc2 := hRG.out.cells.grown hg3 HNP.out; have d3 := hc2.c1; have df := hc2.f)
          obtain ⟨l3, hl3⟩ : ∃ l, l = i + 1 := ⟨_, rfl⟩
          rw [← hl3] at hv' ⊢
          have HM5 := Lib.hid (hRG.out.done hv' hg3)
          have hne1 : (p : Nat) ≠ z := by have := HNUM.out; omega
          have hne2 : p ≠ c := by have := HNUM.out; omega
          have HZ5 := Lib.hid ((hZ.out.grown hg3 HNZ.out).other (a := ⟨p, 1, none⟩) hne1 (.slice a3 l3 c3))
          have hg5 := grown_more hG.out hg3 (fun k hk => .inr (by have := (hRG.out.top.lt k hk).1; have := HNUM.out; omega))
          have HG5 : Hid (w.grownBy (w2.setCell ⟨p, 1, none⟩ (.slice a3 l3 c3)) (some c)) := grown_set hg5 (by have := HNUM.out; omega) _
          have hs5 := hS.out.other hg3 (fun k hk => by have := (hRG.out.top.lt k hk).1; have := HNUM.out; omega)
          have HS5 : Hid (Stands W (w2.setCell ⟨p, 1, none⟩ (.slice a3 l3 c3)) c a len cap) := hs5.other (Cursor.grown_setCell w2 p 1 _) (fun k hk => by cases hk; have := HNUM.out; omega)
          have HG6 : Hid (BB ≤ (w2.setCell ⟨p, 1, none⟩ (.slice a3 l3 c3)).heap.size) := by show _ ≤ _; rw [size_setCell']; exact Nat.le_trans HLO8.out hg3.size
          obtain ⟨W5, hW5⟩ : ∃ W, W = w2.setCell ⟨p, 1, none⟩ (.slice a3 l3 c3) := ⟨_, rfl⟩
          rw [← hW5] at HM5 HZ5 HG5 HS5 HG6 ⊢
          have HW5 := Lib.hid (show w2.heap.size = W5.heap.size by rw [hW5, size_setCell'])
          rw [HW5.out] at HM5
          clear hv' hg2 hg3 hc2 d1 d2 d3 df hpl hRG hZ hG hS hW5 hl3 HNP HNZ HLO8 HW5 hs5 hg5
          have HCC : Hid (c < BB ∧ c ≠ p ∧ c ≠ z) := by have := HNUM.out; exact ⟨by omega, by omega, by omega⟩
          have d1 := HM5.out.cells.c2
          have hpl := HM5.out.cells.lt
          go_region_law (first
            | (go_simp; go_at_call 30; (with_reducible refine (HB.out _ 2 (by decide) (by decide) HS5.out.drew).mono ?_); rintro e w1 ⟨x1, ⟨hx0, hx1⟩, rfl, g1, c1'⟩; have G1 := Lib.hid (Plain.grown_drew g1); have HM6 := Lib.hid (HM5.out.moved G1.out HCC.out.1 HCC.out.2.1); have HS6 := Lib.hid (HS5.out.drew.next g1 c1'); have d2 := HM6.out.cells.c2)
            | (go_simp; go_at_call 30; (with_reducible refine (HB.out _ (IntKind.i64.wrap (2 + x1)) (by rw [IntKind.wrap_i64]; omega) (by rw [IntKind.wrap_i64]; omega) HS6.out).mono ?_); rintro e w3 ⟨x2, hx2, rfl, g2, c2'⟩; have HM7 := Lib.hid (HM6.out.moved g2 HCC.out.1 HCC.out.2.1); have G2 := Lib.hid g2; have HS7 := Lib.hid (HS6.out.next g2 c2'); have HVO := Lib.hid HM7.out.terms; have HNO := Lib.hid (has_ne_c3 HVO.out.has HM7.out.cells (by decide)); have d3 := HM7.out.cells.c2; have d4 := (HM7.out.cells.alloc (.cells #[Value.int .i64 x2] 3)).c2; have hpl3 := HM7.out.cells.lt)
            | (refine step_append_at_list (enc := Value.int .i64) (e := 3) rfl (.tmp 37) (.tmp 43) 25 rfl BB i0 (.int .i64 0) 8 Try.underlying25 hi0 hz0 hz1 hz2 rfl (.slice oa i oc) out rfl (by repeat (first | with_reducible exact HVO.out.has | with_reducible apply has_drew | with_reducible apply has_alloc)) (Value.slice (some ⟨_, 0, none⟩) 1 1) [x2] rfl (by repeat (first | with_reducible apply lies_drew | (with_reducible refine lies_lit1 (enc := Value.int .i64) _ rfl) | with_reducible apply lies_alloc)) (fun _ _ => rfl) (by rw [hL.out.2.1]; simp only [List.length_cons, List.length_nil]; omega) (by rw [hL.out.2.1]; simp only [List.length_cons, List.length_nil]; omega) (by have := Nat.le_trans HM7.out.lo HM7.out.le; simp; omega) ?_; intro vt w6 ho6 hg6 hb6; obtain ⟨a6, c6, hvf, _⟩ := ho6.form; rw [show (out ++ [x2]).length = i + 1 from by rw [List.length_append, hL.out.2.1]; rfl] at hvf; subst hvf; have hg7 := grown_alloc hg6; have hc7 := HM7.out.cells.grown hg7 HNO.out; have r1 := hc7.c2; have r3 := hc7.f))
          all_goals
            have HM8 := Lib.hid (HM7.out.term ho6 hg7 (fun k hk => (hb6 k hk).imp id (fun h => by simp at h; omega)))
            have hz8 := (((HZ5.out.grown G1.out (by have := HCC.out; simp; omega)).grown G2.out (by have := HCC.out; simp; omega)).grown hg7 (has_ne_c3 HVO.out.has ((HZ5.out.grown G1.out (by have := HCC.out; simp; omega)).grown G2.out (by have := HCC.out; simp; omega)) (by decide))).other (a := ⟨p, 2, none⟩) hne1 (.slice a6 (i + 1) c6)
            have HZ8 := Lib.hid hz8
            have hg8 := grown_more (grown_more (grown_more HG5.out G1.out (fun k hk => .inl (Option.some.inj hk).symm)) G2.out (fun k hk => .inl (Option.some.inj hk).symm)) hg7 (fun k hk => .inr (by have := (HVO.out.has.lt k hk).1; have := HNUM.out; omega))
            have HG8 : Hid (w.grownBy (w6.setCell ⟨p, 2, none⟩ (.slice a6 (i + 1) c6)) (some c)) := grown_set hg8 (by have := HNUM.out; omega) _
            have hs8 := HS7.out.other hg7 (fun k hk => by have := (HVO.out.has.lt k hk).1; have := HNUM.out; omega)
            have HS8 : Hid (Stands W (w6.setCell ⟨p, 2, none⟩ (.slice a6 (i + 1) c6)) c a len cap) := hs8.other (Cursor.grown_setCell w6 p 2 _) (fun k hk => by cases hk; have := HNUM.out; omega)
            have HL8 : Hid ((rows ++ [r]).length = i + 1 ∧ (out ++ [x2]).length = i + 1 ∧ ∀ q ∈ rows ++ [r], q.length = b) := by
              refine ⟨by rw [List.length_append, hL.out.1]; rfl, by rw [List.length_append, hL.out.2.1]; rfl, fun q hq => ?_⟩
              rcases List.mem_append.1 hq with h1 | h1
              · exact hL.out.2.2 q h1
              · rw [List.mem_singleton.1 h1]; exact hRL.out
            clear ho6 hb6 hg6 hg7 hc7 r1 r3 d1 d2 d3 d4 hpl hpl3 HM5 HM6 HM7 HVO HNO HZ5 HG5 HS5 HS6 HS7 G1 G2 g1 g2 c1' c2' hz8 hg8 hs8 hx2 hx0 hx1
            go_wp2
            go_roundw
            case rel => exact ⟨i + 1, _, _, _, _, _, w6.heap.size, by omega, by go_num, HL8, HM8, HZ8, HG8, HS8⟩
            case measure => simp [intOf]; omega
end Cursor
end Go.Proofs.Ytodnkkofammhbaa
/- The sequences that the model names: each is a literal, the call's own. No conditions beyond those that each states. -/
namespace Go.Proofs.Ytodnkkofammhbaa
open Go.ChangeShapes Go.WideShapes Go.ChangeAt Go.RowKit
open Go.PlainAid Plain
set_option linter.unusedVariables false
namespace Cursor
open Ints Digits
theorem chain_row {W : World} {lo : Nat} {us : List Value} {rows : List (List Int)} (h : OwnRows W lo W.heap.size us rows) (hlo : lo ≤ W.heap.size) (xs : List Int) (hx : xs.length ≤ 100) :
    OwnRows (W.alloc (.cells (xs.map (Value.int .i64)).toArray 3)) lo (W.alloc (.cells (xs.map (Value.int .i64)).toArray 3)).heap.size (us ++ [.slice (some ⟨W.heap.size, 0, none⟩) xs.length xs.length]) (rows ++ [xs]) := by
  have hb : Below W.heap.size W (W.alloc (.cells (xs.map (Value.int .i64)).toArray 3)) := (Below.refl _ _).alloc (Nat.le_refl _) _
  have h1 : Has (Value.int .i64) 3 (W.alloc (.cells (xs.map (Value.int .i64)).toArray 3)) W.heap.size (.slice (some ⟨W.heap.size, 0, none⟩) xs.length xs.length) xs := Has.lit (enc := Value.int .i64) (e := 3) W xs (Nat.le_refl _) (by omega)
  exact (h.below hb).snoc ⟨h1, fun k hk => (h1.lt k hk).2, Nat.le_refl _⟩ hlo hb.size
theorem chain_top {W : World} {lo : Nat} {us : List Value} {rows : List (List Int)} (h : OwnRows W lo W.heap.size us rows) (hlo : lo ≤ W.heap.size) (hu : us.length ≤ 100) :
    OwnR (W.alloc (.cells us.toArray 25)) lo (W.alloc (.cells us.toArray 25)).heap.size (.slice (some ⟨W.heap.size, 0, none⟩) us.length us.length) us rows := by
  have hb : Below W.heap.size W (W.alloc (.cells us.toArray 25)) := (Below.refl _ _).alloc (Nat.le_refl _) _
  have h1 : Has id 25 (W.alloc (.cells (us.map id).toArray 25)) lo (.slice (some ⟨W.heap.size, 0, none⟩) us.length us.length) us := Has.lit (enc := id) (e := 25) W us hlo (by omega)
  rw [List.map_id] at h1
  exact ⟨h1, fun k hk => (h1.lt k hk).2, Nat.le_refl _, (h.below hb).mono hb.size (Nat.le_refl _)⟩
theorem chain_out {W : World} {lo base : Nat} {vn : Value} {us : List Value} {b : Int} {rows : List (List Int)} (h : OwnR W lo W.heap.size vn us rows) (hb : base ≤ lo) (hlo : lo ≤ W.heap.size) (xs : List Int) (hx : xs.length ≤ 100) :
    OwnS (W.alloc (.cells (xs.map (Value.int .i64)).toArray 3)) base (W.alloc (.cells (xs.map (Value.int .i64)).toArray 3)).heap.size (.agg #[.int .i64 b, vn, .slice (some ⟨W.heap.size, 0, none⟩) xs.length xs.length]) b rows xs := by
  have hbb : Below W.heap.size W (W.alloc (.cells (xs.map (Value.int .i64)).toArray 3)) := (Below.refl _ _).alloc (Nat.le_refl _) _
  have h1 : Has (Value.int .i64) 3 (W.alloc (.cells (xs.map (Value.int .i64)).toArray 3)) W.heap.size (.slice (some ⟨W.heap.size, 0, none⟩) xs.length xs.length) xs := Has.lit (enc := Value.int .i64) (e := 3) W xs (Nat.le_refl _) (by omega)
  exact OwnS.make (h.below hbb) ⟨h1, fun k hk => (h1.lt k hk).2, Nat.le_refl _⟩ hb hlo hbb.size
def SomeNamed (w : World) (e : Ending) (w' : World) : Prop := ∃ v b rows out, SeqOk rows out ∧ e = .returned (.tuple #[v, .bool true]) ∧ OwnS w' w.heap.size w'.heap.size v b rows out ∧ Below w.heap.size w w'
set_option maxHeartbeats 1000000 in
theorem named_thue (w : World) : Calls Try.prog 75 #[.string ⟨#[116, 104, 117, 101]⟩] w (SomeNamed w) := by
  have HZ := Lib.hid (Cells3.new w 27 (.int .i64 0) (.slice none 0 0) (.slice none 0 0))
  have HO := Lib.hid (chain_out (base := w.heap.size) (b := 2) (chain_top (chain_row (chain_row (OwnRows.nil (w.alloc (.cells #[.int .i64 2, Value.slice (some ⟨w.heap.size + 1 + 1 + 1, 0, none⟩) 2 2, Value.slice (some ⟨w.heap.size + 1 + 1 + 1 + 1, 0, none⟩) 2 2] 27)) (w.alloc (.cells #[.int .i64 2, Value.slice (some ⟨w.heap.size + 1 + 1 + 1, 0, none⟩) 2 2, Value.slice (some ⟨w.heap.size + 1 + 1 + 1 + 1, 0, none⟩) 2 2] 27)).heap.size (w.alloc (.cells #[.int .i64 2, Value.slice (some ⟨w.heap.size + 1 + 1 + 1, 0, none⟩) 2 2, Value.slice (some ⟨w.heap.size + 1 + 1 + 1 + 1, 0, none⟩) 2 2] 27)).heap.size) (by simp only [size_alloc'] <;> omega) [0, 1] (by decide)) (by simp only [size_alloc'] <;> omega) [1, 0] (by decide)) (by simp only [size_alloc'] <;> omega) (by simp)) (by simp only [size_alloc'] <;> omega) (by simp only [size_alloc'] <;> omega) [0, 1] (by decide))
  go_enter Try.func75, Try.ntmps75
  go_wp2_with fail
  have hC := (((((Cells3.new w 27 (.int .i64 2) (Value.slice (some ⟨w.heap.size + 1 + 1 + 1, 0, none⟩) 2 2) (Value.slice (some ⟨w.heap.size + 1 + 1 + 1 + 1, 0, none⟩) 2 2)).alloc (.cells #[Value.int .i64 0, Value.int .i64 1] 3)).alloc (.cells #[Value.int .i64 1, Value.int .i64 0] 3)).alloc (.cells #[Value.slice (some ⟨w.heap.size + 1, 0, none⟩) 2 2, Value.slice (some ⟨w.heap.size + 1 + 1, 0, none⟩) 2 2] 25)).alloc (.cells #[Value.int .i64 0, Value.int .i64 1] 3))
  refine bodyPost_ret (v := .tuple #[.agg #[.int .i64 2, Value.slice (some ⟨w.heap.size + 1 + 1 + 1, 0, none⟩) 2 2, Value.slice (some ⟨w.heap.size + 1 + 1 + 1 + 1, 0, none⟩) 2 2], .bool true]) (by simp [results, Try.results75, go_sem, hC.c0, hC.c1, hC.c2]) rfl ⟨_, 2, [[0, 1], [1, 0]], [0, 1], by unfold SeqOk; decide, rfl, ?_, ?_⟩
  · have h := HO.out
    simp only [size_alloc', List.nil_append, List.cons_append, List.length_cons, List.length_nil, List.map_cons, List.map_nil] at h ⊢
    exact h
  · exact ((((((Below.refl w.heap.size w).alloc (Nat.le_refl _) _).alloc (by simp only [size_alloc'] <;> omega) _).alloc (by simp only [size_alloc'] <;> omega) _).alloc (by simp only [size_alloc'] <;> omega) _).alloc (by simp only [size_alloc'] <;> omega) _)
set_option maxHeartbeats 1000000 in
theorem named_rudin (w : World) : Calls Try.prog 75 #[.string ⟨#[114, 117, 100, 105, 110]⟩] w (SomeNamed w) := by
  have HZ := Lib.hid (Cells3.new w 27 (.int .i64 0) (.slice none 0 0) (.slice none 0 0))
  have HO := Lib.hid (chain_out (base := w.heap.size) (b := 2) (chain_top (chain_row (chain_row (chain_row (chain_row (OwnRows.nil (w.alloc (.cells #[.int .i64 2, Value.slice (some ⟨w.heap.size + 1 + 1 + 1 + 1 + 1, 0, none⟩) 4 4, Value.slice (some ⟨w.heap.size + 1 + 1 + 1 + 1 + 1 + 1, 0, none⟩) 4 4] 27)) (w.alloc (.cells #[.int .i64 2, Value.slice (some ⟨w.heap.size + 1 + 1 + 1 + 1 + 1, 0, none⟩) 4 4, Value.slice (some ⟨w.heap.size + 1 + 1 + 1 + 1 + 1 + 1, 0, none⟩) 4 4] 27)).heap.size (w.alloc (.cells #[.int .i64 2, Value.slice (some ⟨w.heap.size + 1 + 1 + 1 + 1 + 1, 0, none⟩) 4 4, Value.slice (some ⟨w.heap.size + 1 + 1 + 1 + 1 + 1 + 1, 0, none⟩) 4 4] 27)).heap.size) (by simp only [size_alloc'] <;> omega) [0, 1] (by decide)) (by simp only [size_alloc'] <;> omega) [0, 2] (by decide)) (by simp only [size_alloc'] <;> omega) [3, 1] (by decide)) (by simp only [size_alloc'] <;> omega) [3, 2] (by decide)) (by simp only [size_alloc'] <;> omega) (by simp)) (by simp only [size_alloc'] <;> omega) (by simp only [size_alloc'] <;> omega) [0, 0, 1, 1] (by decide))
  go_enter Try.func75, Try.ntmps75
  go_wp2_with fail
  have hC := (((((((Cells3.new w 27 (.int .i64 2) (Value.slice (some ⟨w.heap.size + 1 + 1 + 1 + 1 + 1, 0, none⟩) 4 4) (Value.slice (some ⟨w.heap.size + 1 + 1 + 1 + 1 + 1 + 1, 0, none⟩) 4 4)).alloc (.cells #[Value.int .i64 0, Value.int .i64 1] 3)).alloc (.cells #[Value.int .i64 0, Value.int .i64 2] 3)).alloc (.cells #[Value.int .i64 3, Value.int .i64 1] 3)).alloc (.cells #[Value.int .i64 3, Value.int .i64 2] 3)).alloc (.cells #[Value.slice (some ⟨w.heap.size + 1, 0, none⟩) 2 2, Value.slice (some ⟨w.heap.size + 1 + 1, 0, none⟩) 2 2, Value.slice (some ⟨w.heap.size + 1 + 1 + 1, 0, none⟩) 2 2, Value.slice (some ⟨w.heap.size + 1 + 1 + 1 + 1, 0, none⟩) 2 2] 25)).alloc (.cells #[Value.int .i64 0, Value.int .i64 0, Value.int .i64 1, Value.int .i64 1] 3))
  refine bodyPost_ret (v := .tuple #[.agg #[.int .i64 2, Value.slice (some ⟨w.heap.size + 1 + 1 + 1 + 1 + 1, 0, none⟩) 4 4, Value.slice (some ⟨w.heap.size + 1 + 1 + 1 + 1 + 1 + 1, 0, none⟩) 4 4], .bool true]) (by simp [results, Try.results75, go_sem, hC.c0, hC.c1, hC.c2]) rfl ⟨_, 2, [[0, 1], [0, 2], [3, 1], [3, 2]], [0, 0, 1, 1], by unfold SeqOk; decide, rfl, ?_, ?_⟩
  · have h := HO.out
    simp only [size_alloc', List.nil_append, List.cons_append, List.length_cons, List.length_nil, List.map_cons, List.map_nil] at h ⊢
    exact h
  · exact ((((((((Below.refl w.heap.size w).alloc (Nat.le_refl _) _).alloc (by simp only [size_alloc'] <;> omega) _).alloc (by simp only [size_alloc'] <;> omega) _).alloc (by simp only [size_alloc'] <;> omega) _).alloc (by simp only [size_alloc'] <;> omega) _).alloc (by simp only [size_alloc'] <;> omega) _).alloc (by simp only [size_alloc'] <;> omega) _)
set_option maxHeartbeats 1000000 in
theorem named_period (w : World) : Calls Try.prog 75 #[.string ⟨#[112, 101, 114, 105, 111, 100]⟩] w (SomeNamed w) := by
  have HZ := Lib.hid (Cells3.new w 27 (.int .i64 0) (.slice none 0 0) (.slice none 0 0))
  have HO := Lib.hid (chain_out (base := w.heap.size) (b := 2) (chain_top (chain_row (chain_row (chain_row (chain_row (OwnRows.nil (w.alloc (.cells #[.int .i64 2, Value.slice (some ⟨w.heap.size + 1 + 1 + 1 + 1 + 1, 0, none⟩) 4 4, Value.slice (some ⟨w.heap.size + 1 + 1 + 1 + 1 + 1 + 1, 0, none⟩) 4 4] 27)) (w.alloc (.cells #[.int .i64 2, Value.slice (some ⟨w.heap.size + 1 + 1 + 1 + 1 + 1, 0, none⟩) 4 4, Value.slice (some ⟨w.heap.size + 1 + 1 + 1 + 1 + 1 + 1, 0, none⟩) 4 4] 27)).heap.size (w.alloc (.cells #[.int .i64 2, Value.slice (some ⟨w.heap.size + 1 + 1 + 1 + 1 + 1, 0, none⟩) 4 4, Value.slice (some ⟨w.heap.size + 1 + 1 + 1 + 1 + 1 + 1, 0, none⟩) 4 4] 27)).heap.size) (by simp only [size_alloc'] <;> omega) [0, 1] (by decide)) (by simp only [size_alloc'] <;> omega) [2, 3] (by decide)) (by simp only [size_alloc'] <;> omega) [0, 1] (by decide)) (by simp only [size_alloc'] <;> omega) [2, 3] (by decide)) (by simp only [size_alloc'] <;> omega) (by simp)) (by simp only [size_alloc'] <;> omega) (by simp only [size_alloc'] <;> omega) [0, 0, 1, 1] (by decide))
  go_enter Try.func75, Try.ntmps75
  go_wp2_with fail
  have hC := (((((((Cells3.new w 27 (.int .i64 2) (Value.slice (some ⟨w.heap.size + 1 + 1 + 1 + 1 + 1, 0, none⟩) 4 4) (Value.slice (some ⟨w.heap.size + 1 + 1 + 1 + 1 + 1 + 1, 0, none⟩) 4 4)).alloc (.cells #[Value.int .i64 0, Value.int .i64 1] 3)).alloc (.cells #[Value.int .i64 2, Value.int .i64 3] 3)).alloc (.cells #[Value.int .i64 0, Value.int .i64 1] 3)).alloc (.cells #[Value.int .i64 2, Value.int .i64 3] 3)).alloc (.cells #[Value.slice (some ⟨w.heap.size + 1, 0, none⟩) 2 2, Value.slice (some ⟨w.heap.size + 1 + 1, 0, none⟩) 2 2, Value.slice (some ⟨w.heap.size + 1 + 1 + 1, 0, none⟩) 2 2, Value.slice (some ⟨w.heap.size + 1 + 1 + 1 + 1, 0, none⟩) 2 2] 25)).alloc (.cells #[Value.int .i64 0, Value.int .i64 0, Value.int .i64 1, Value.int .i64 1] 3))
  refine bodyPost_ret (v := .tuple #[.agg #[.int .i64 2, Value.slice (some ⟨w.heap.size + 1 + 1 + 1 + 1 + 1, 0, none⟩) 4 4, Value.slice (some ⟨w.heap.size + 1 + 1 + 1 + 1 + 1 + 1, 0, none⟩) 4 4], .bool true]) (by simp [results, Try.results75, go_sem, hC.c0, hC.c1, hC.c2]) rfl ⟨_, 2, [[0, 1], [2, 3], [0, 1], [2, 3]], [0, 0, 1, 1], by unfold SeqOk; decide, rfl, ?_, ?_⟩
  · have h := HO.out
    simp only [size_alloc', List.nil_append, List.cons_append, List.length_cons, List.length_nil, List.map_cons, List.map_nil] at h ⊢
    exact h
  · exact ((((((((Below.refl w.heap.size w).alloc (Nat.le_refl _) _).alloc (by simp only [size_alloc'] <;> omega) _).alloc (by simp only [size_alloc'] <;> omega) _).alloc (by simp only [size_alloc'] <;> omega) _).alloc (by simp only [size_alloc'] <;> omega) _).alloc (by simp only [size_alloc'] <;> omega) _).alloc (by simp only [size_alloc'] <;> omega) _)
set_option maxHeartbeats 1000000 in
theorem named_powers (w : World) : Calls Try.prog 75 #[.string ⟨#[112, 111, 119, 101, 114, 115]⟩] w (SomeNamed w) := by
  have HZ := Lib.hid (Cells3.new w 27 (.int .i64 0) (.slice none 0 0) (.slice none 0 0))
  have HO := Lib.hid (chain_out (base := w.heap.size) (b := 2) (chain_top (chain_row (chain_row (chain_row (OwnRows.nil (w.alloc (.cells #[.int .i64 2, Value.slice (some ⟨w.heap.size + 1 + 1 + 1 + 1, 0, none⟩) 3 3, Value.slice (some ⟨w.heap.size + 1 + 1 + 1 + 1 + 1, 0, none⟩) 3 3] 27)) (w.alloc (.cells #[.int .i64 2, Value.slice (some ⟨w.heap.size + 1 + 1 + 1 + 1, 0, none⟩) 3 3, Value.slice (some ⟨w.heap.size + 1 + 1 + 1 + 1 + 1, 0, none⟩) 3 3] 27)).heap.size (w.alloc (.cells #[.int .i64 2, Value.slice (some ⟨w.heap.size + 1 + 1 + 1 + 1, 0, none⟩) 3 3, Value.slice (some ⟨w.heap.size + 1 + 1 + 1 + 1 + 1, 0, none⟩) 3 3] 27)).heap.size) (by simp only [size_alloc'] <;> omega) [0, 1] (by decide)) (by simp only [size_alloc'] <;> omega) [1, 2] (by decide)) (by simp only [size_alloc'] <;> omega) [2, 2] (by decide)) (by simp only [size_alloc'] <;> omega) (by simp)) (by simp only [size_alloc'] <;> omega) (by simp only [size_alloc'] <;> omega) [0, 1, 0] (by decide))
  go_enter Try.func75, Try.ntmps75
  go_wp2_with fail
  have hC := ((((((Cells3.new w 27 (.int .i64 2) (Value.slice (some ⟨w.heap.size + 1 + 1 + 1 + 1, 0, none⟩) 3 3) (Value.slice (some ⟨w.heap.size + 1 + 1 + 1 + 1 + 1, 0, none⟩) 3 3)).alloc (.cells #[Value.int .i64 0, Value.int .i64 1] 3)).alloc (.cells #[Value.int .i64 1, Value.int .i64 2] 3)).alloc (.cells #[Value.int .i64 2, Value.int .i64 2] 3)).alloc (.cells #[Value.slice (some ⟨w.heap.size + 1, 0, none⟩) 2 2, Value.slice (some ⟨w.heap.size + 1 + 1, 0, none⟩) 2 2, Value.slice (some ⟨w.heap.size + 1 + 1 + 1, 0, none⟩) 2 2] 25)).alloc (.cells #[Value.int .i64 0, Value.int .i64 1, Value.int .i64 0] 3))
  refine bodyPost_ret (v := .tuple #[.agg #[.int .i64 2, Value.slice (some ⟨w.heap.size + 1 + 1 + 1 + 1, 0, none⟩) 3 3, Value.slice (some ⟨w.heap.size + 1 + 1 + 1 + 1 + 1, 0, none⟩) 3 3], .bool true]) (by simp [results, Try.results75, go_sem, hC.c0, hC.c1, hC.c2]) rfl ⟨_, 2, [[0, 1], [1, 2], [2, 2]], [0, 1, 0], by unfold SeqOk; decide, rfl, ?_, ?_⟩
  · have h := HO.out
    simp only [size_alloc', List.nil_append, List.cons_append, List.length_cons, List.length_nil, List.map_cons, List.map_nil] at h ⊢
    exact h
  · exact (((((((Below.refl w.heap.size w).alloc (Nat.le_refl _) _).alloc (by simp only [size_alloc'] <;> omega) _).alloc (by simp only [size_alloc'] <;> omega) _).alloc (by simp only [size_alloc'] <;> omega) _).alloc (by simp only [size_alloc'] <;> omega) _).alloc (by simp only [size_alloc'] <;> omega) _)
set_option maxHeartbeats 1000000 in
theorem named_cantor (w : World) : Calls Try.prog 75 #[.string ⟨#[99, 97, 110, 116, 111, 114]⟩] w (SomeNamed w) := by
  have HZ := Lib.hid (Cells3.new w 27 (.int .i64 0) (.slice none 0 0) (.slice none 0 0))
  have HO := Lib.hid (chain_out (base := w.heap.size) (b := 3) (chain_top (chain_row (chain_row (OwnRows.nil (w.alloc (.cells #[.int .i64 3, Value.slice (some ⟨w.heap.size + 1 + 1 + 1, 0, none⟩) 2 2, Value.slice (some ⟨w.heap.size + 1 + 1 + 1 + 1, 0, none⟩) 2 2] 27)) (w.alloc (.cells #[.int .i64 3, Value.slice (some ⟨w.heap.size + 1 + 1 + 1, 0, none⟩) 2 2, Value.slice (some ⟨w.heap.size + 1 + 1 + 1 + 1, 0, none⟩) 2 2] 27)).heap.size (w.alloc (.cells #[.int .i64 3, Value.slice (some ⟨w.heap.size + 1 + 1 + 1, 0, none⟩) 2 2, Value.slice (some ⟨w.heap.size + 1 + 1 + 1 + 1, 0, none⟩) 2 2] 27)).heap.size) (by simp only [size_alloc'] <;> omega) [0, 1, 0] (by decide)) (by simp only [size_alloc'] <;> omega) [1, 1, 1] (by decide)) (by simp only [size_alloc'] <;> omega) (by simp)) (by simp only [size_alloc'] <;> omega) (by simp only [size_alloc'] <;> omega) [1, 0] (by decide))
  go_enter Try.func75, Try.ntmps75
  go_wp2_with fail
  have hC := (((((Cells3.new w 27 (.int .i64 3) (Value.slice (some ⟨w.heap.size + 1 + 1 + 1, 0, none⟩) 2 2) (Value.slice (some ⟨w.heap.size + 1 + 1 + 1 + 1, 0, none⟩) 2 2)).alloc (.cells #[Value.int .i64 0, Value.int .i64 1, Value.int .i64 0] 3)).alloc (.cells #[Value.int .i64 1, Value.int .i64 1, Value.int .i64 1] 3)).alloc (.cells #[Value.slice (some ⟨w.heap.size + 1, 0, none⟩) 3 3, Value.slice (some ⟨w.heap.size + 1 + 1, 0, none⟩) 3 3] 25)).alloc (.cells #[Value.int .i64 1, Value.int .i64 0] 3))
  refine bodyPost_ret (v := .tuple #[.agg #[.int .i64 3, Value.slice (some ⟨w.heap.size + 1 + 1 + 1, 0, none⟩) 2 2, Value.slice (some ⟨w.heap.size + 1 + 1 + 1 + 1, 0, none⟩) 2 2], .bool true]) (by simp [results, Try.results75, go_sem, hC.c0, hC.c1, hC.c2]) rfl ⟨_, 3, [[0, 1, 0], [1, 1, 1]], [1, 0], by unfold SeqOk; decide, rfl, ?_, ?_⟩
  · have h := HO.out
    simp only [size_alloc', List.nil_append, List.cons_append, List.length_cons, List.length_nil, List.map_cons, List.map_nil] at h ⊢
    exact h
  · exact ((((((Below.refl w.heap.size w).alloc (Nat.le_refl _) _).alloc (by simp only [size_alloc'] <;> omega) _).alloc (by simp only [size_alloc'] <;> omega) _).alloc (by simp only [size_alloc'] <;> omega) _).alloc (by simp only [size_alloc'] <;> omega) _)
set_option maxHeartbeats 1000000 in
theorem named_mod (w : World) : Calls Try.prog 75 #[.string ⟨#[109, 111, 100]⟩] w (SomeNamed w) := by
  have HZ := Lib.hid (Cells3.new w 27 (.int .i64 0) (.slice none 0 0) (.slice none 0 0))
  have HO := Lib.hid (chain_out (base := w.heap.size) (b := 2) (chain_top (chain_row (chain_row (chain_row (OwnRows.nil (w.alloc (.cells #[.int .i64 2, Value.slice (some ⟨w.heap.size + 1 + 1 + 1 + 1, 0, none⟩) 3 3, Value.slice (some ⟨w.heap.size + 1 + 1 + 1 + 1 + 1, 0, none⟩) 3 3] 27)) (w.alloc (.cells #[.int .i64 2, Value.slice (some ⟨w.heap.size + 1 + 1 + 1 + 1, 0, none⟩) 3 3, Value.slice (some ⟨w.heap.size + 1 + 1 + 1 + 1 + 1, 0, none⟩) 3 3] 27)).heap.size (w.alloc (.cells #[.int .i64 2, Value.slice (some ⟨w.heap.size + 1 + 1 + 1 + 1, 0, none⟩) 3 3, Value.slice (some ⟨w.heap.size + 1 + 1 + 1 + 1 + 1, 0, none⟩) 3 3] 27)).heap.size) (by simp only [size_alloc'] <;> omega) [0, 1] (by decide)) (by simp only [size_alloc'] <;> omega) [2, 0] (by decide)) (by simp only [size_alloc'] <;> omega) [1, 2] (by decide)) (by simp only [size_alloc'] <;> omega) (by simp)) (by simp only [size_alloc'] <;> omega) (by simp only [size_alloc'] <;> omega) [0, 1, 2] (by decide))
  go_enter Try.func75, Try.ntmps75
  go_wp2_with fail
  have hC := ((((((Cells3.new w 27 (.int .i64 2) (Value.slice (some ⟨w.heap.size + 1 + 1 + 1 + 1, 0, none⟩) 3 3) (Value.slice (some ⟨w.heap.size + 1 + 1 + 1 + 1 + 1, 0, none⟩) 3 3)).alloc (.cells #[Value.int .i64 0, Value.int .i64 1] 3)).alloc (.cells #[Value.int .i64 2, Value.int .i64 0] 3)).alloc (.cells #[Value.int .i64 1, Value.int .i64 2] 3)).alloc (.cells #[Value.slice (some ⟨w.heap.size + 1, 0, none⟩) 2 2, Value.slice (some ⟨w.heap.size + 1 + 1, 0, none⟩) 2 2, Value.slice (some ⟨w.heap.size + 1 + 1 + 1, 0, none⟩) 2 2] 25)).alloc (.cells #[Value.int .i64 0, Value.int .i64 1, Value.int .i64 2] 3))
  refine bodyPost_ret (v := .tuple #[.agg #[.int .i64 2, Value.slice (some ⟨w.heap.size + 1 + 1 + 1 + 1, 0, none⟩) 3 3, Value.slice (some ⟨w.heap.size + 1 + 1 + 1 + 1 + 1, 0, none⟩) 3 3], .bool true]) (by simp [results, Try.results75, go_sem, hC.c0, hC.c1, hC.c2]) rfl ⟨_, 2, [[0, 1], [2, 0], [1, 2]], [0, 1, 2], by unfold SeqOk; decide, rfl, ?_, ?_⟩
  · have h := HO.out
    simp only [size_alloc', List.nil_append, List.cons_append, List.length_cons, List.length_nil, List.map_cons, List.map_nil] at h ⊢
    exact h
  · exact (((((((Below.refl w.heap.size w).alloc (Nat.le_refl _) _).alloc (by simp only [size_alloc'] <;> omega) _).alloc (by simp only [size_alloc'] <;> omega) _).alloc (by simp only [size_alloc'] <;> omega) _).alloc (by simp only [size_alloc'] <;> omega) _).alloc (by simp only [size_alloc'] <;> omega) _)
/-- A list of strings that lies in block q, each with P. -/
def StrsIn (w : World) (q n : Nat) (P : ByteArray → Prop) : Prop := ∀ j, j < n → ∃ s, P s ∧ w.cell? ⟨q, j, none⟩ = some (.string s)
def SomeStr (P : ByteArray → Prop) (Q : World → Prop) (e : Ending) (w' : World) : Prop := ∃ s, P s ∧ e = .returned (.string s) ∧ Q w'
theorem pick (W w : World) (p : Nat) (a : Option Addr) (len cap q n c : Nat) (P : ByteArray → Prop) (hn : 1 ≤ n) (hn2 : n ≤ 256) (hq : q ≠ p) (hlist : StrsIn w q n P) (hlen : len ≤ 1048576) (hcode : CodeIs W W.heap.size a len) (hs : Stands W w p a len cap) :
    Calls Try.prog 76 #[.pointer (some ⟨p, 0, none⟩), .slice (some ⟨q, 0, none⟩) n c] w (SomeStr P (fun w' => w.grownBy w' (some p) ∧ CurIs w' p a len cap)) := by
  have H := Lib.hid (below W w p a len cap n (by omega) (by omega) hlen hcode hs)
  have HL := Lib.hid hlist
  clear hcode hs hlist
  go_enter Try.func76, Try.ntmps76
  go_wp2_with fail
  refine H.out.mono ?_
  rintro e w1 ⟨x, ⟨hx0, hx1⟩, rfl, hg, hc⟩
  obtain ⟨k, rfl⟩ := Int.eq_ofNat_of_zero_le hx0
  have hkn : k < n := by omega
  obtain ⟨v, hv0, hcv⟩ := HL.out k hkn
  have hcell : w1.cell? ⟨q, k, none⟩ = some (.string v) := hg.cell hcv (by simp [hq])
  have HV : Hid (P v) := hv0
  clear hcv hv0
  go_wp2
  go_ret
  exact ⟨v, HV.out, rfl, hg, hc⟩
def Named6 (s : ByteArray) : Prop := s = ⟨#[116, 104, 117, 101]⟩ ∨ s = ⟨#[114, 117, 100, 105, 110]⟩ ∨ s = ⟨#[112, 101, 114, 105, 111, 100]⟩ ∨ s = ⟨#[112, 111, 119, 101, 114, 115]⟩ ∨ s = ⟨#[99, 97, 110, 116, 111, 114]⟩ ∨ s = ⟨#[109, 111, 100]⟩
theorem named (w : World) (s : ByteArray) (h : Named6 s) : Calls Try.prog 75 #[.string s] w (SomeNamed w) := by
  rcases h with rfl | rfl | rfl | rfl | rfl | rfl
  · exact named_thue w
  · exact named_rudin w
  · exact named_period w
  · exact named_powers w
  · exact named_cantor w
  · exact named_mod w
theorem strs6 (w : World) (T : TypeId) : StrsIn (w.alloc (.cells #[.string ⟨#[116, 104, 117, 101]⟩, .string ⟨#[114, 117, 100, 105, 110]⟩, .string ⟨#[112, 101, 114, 105, 111, 100]⟩, .string ⟨#[112, 111, 119, 101, 114, 115]⟩, .string ⟨#[99, 97, 110, 116, 111, 114]⟩, .string ⟨#[109, 111, 100]⟩] T)) w.heap.size 6 Named6 := by
  intro j hj
  have hc := fun j => cell_of_row _ w.heap.size j _ T (0, 0) (heap_alloc_new w (.cells #[.string ⟨#[116, 104, 117, 101]⟩, .string ⟨#[114, 117, 100, 105, 110]⟩, .string ⟨#[112, 101, 114, 105, 111, 100]⟩, .string ⟨#[112, 111, 119, 101, 114, 115]⟩, .string ⟨#[99, 97, 110, 116, 111, 114]⟩, .string ⟨#[109, 111, 100]⟩] T))
  match j, hj with
  | 0, _ => exact ⟨_, .inl rfl, hc 0⟩
  | 1, _ => exact ⟨_, .inr (.inl rfl), hc 1⟩
  | 2, _ => exact ⟨_, .inr (.inr (.inl rfl)), hc 2⟩
  | 3, _ => exact ⟨_, .inr (.inr (.inr (.inl rfl))), hc 3⟩
  | 4, _ => exact ⟨_, .inr (.inr (.inr (.inr (.inl rfl)))), hc 4⟩
  | 5, _ => exact ⟨_, .inr (.inr (.inr (.inr (.inr rfl)))), hc 5⟩
theorem randomI (W w : World) (c : Nat) (a : Option Addr) (len cap : Nat) (b n : Int) (hb1 : 1 ≤ b) (hb4 : b ≤ 4) (hn1 : 1 ≤ n) (hn16 : n ≤ 16) (hlen : len ≤ 1048576) (hcode : CodeIs W W.heap.size a len) (hs : Stands W w c a len cap) :
    Calls Try.prog 55 #[.pointer (some ⟨c, 0, none⟩), .int .i64 b, .int .i64 n] w (SomeSeq w (fun w' => w.grownBy w' (some c) ∧ CurIs w' c a len cap)) := by
  obtain ⟨bn, rfl⟩ := Int.eq_ofNat_of_zero_le (show 0 ≤ b by omega)
  obtain ⟨nn, rfl⟩ := Int.eq_ofNat_of_zero_le (show 0 ≤ n by omega)
  exact random W w c a len cap bn nn (by omega) (by omega) (by omega) (by omega) hlen hcode hs
theorem own_within {w : World} {lo hi hi' : Nat} {v : Value} {b : Int} {rows : List (List Int)} {out : List Int} (h : OwnS w lo hi v b rows out) (h1 : hi ≤ hi') (h2 : hi' ≤ w.heap.size) : OwnS w lo hi' v b rows out := by
  obtain ⟨vn, vo, us, rfl, hr, ho⟩ := h
  exact ⟨vn, vo, us, rfl, ⟨hr.top, fun k hk => Nat.lt_of_lt_of_le (hr.lt k hk) h1, h2, hr.rows.mono h1 h2⟩, ho.mono h1 h2⟩
set_option maxHeartbeats 1000000 in
theorem draw3 (W w : World) (c : Nat) (a : Option Addr) (len cap : Nat) (hlen : len ≤ 1048576) (hcode : CodeIs W W.heap.size a len) (hs : Stands W w c a len cap) :
    Calls Try.prog 69 #[.pointer (some ⟨c, 0, none⟩)] w (SomeSeq w (fun w' => w.grownBy w' (some c) ∧ CurIs w' c a len cap)) := by
  have HO := Lib.hid (fun (w : World) (hs : Stands W w c a len cap) => once W w c a len cap 3 (by decide) (by decide) hlen hcode hs)
  have HB := Lib.hid (fun (w : World) (n : Int) (hn0 : 1 ≤ n) (hn1 : n ≤ 9223372036854775807) (hs : Stands W w c a len cap) => below W w c a len cap n hn0 hn1 hlen hcode hs)
  have HR := Lib.hid (fun (w : World) (b n : Int) (h1 : 1 ≤ b) (h2 : b ≤ 4) (h3 : 1 ≤ n) (h4 : n ≤ 16) (hs : Stands W w c a len cap) => randomI W w c a len cap b n h1 h2 h3 h4 hlen hcode hs)
  have HP := Lib.hid (fun (w : World) (q : Nat) (hq : q ≠ c) (hl : StrsIn w q 6 Named6) (hs : Stands W w c a len cap) => pick W w c a len cap q 6 6 Named6 (by decide) (by decide) hq hl hlen hcode hs)
  have hcw := hs.lt
  have hown := hs.own
  have HG1 : Hid (w.grownBy (w.alloc (Obj.cells #[Value.int .i64 0, Value.slice none 0 0, Value.slice none 0 0] 27)) (some c)) := grown_new (grown_self w c) _
  have HS1 := Lib.hid (hs.alloc (Obj.cells #[Value.int .i64 0, Value.slice none 0 0, Value.slice none 0 0] 27))
  have HZ1 := Lib.hid (Cells3.new w 27 (.int .i64 0) (.slice none 0 0) (.slice none 0 0))
  clear hcode hs
  go_enter Try.func69, Try.ntmps69
  go_wp2_with fail
  refine (HO.out _ HS1.out).mono ?_
  rintro e w1 ⟨t, rfl, g1, c1⟩
  have HG2 := Lib.hid (grown_more HG1.out g1 (fun k hk => .inl (Option.some.inj hk).symm))
  have HS2 := Lib.hid (HS1.out.next g1 c1)
  have HZ2 := Lib.hid (HZ1.out.grown g1 (by simp; omega))
  clear HG1 HS1 HZ1 g1 c1
  cases t with
  | true =>
    have HS3 := Lib.hid (HS2.out.alloc (.cells #[.string ⟨#[116, 104, 117, 101]⟩, .string ⟨#[114, 117, 100, 105, 110]⟩, .string ⟨#[112, 101, 114, 105, 111, 100]⟩, .string ⟨#[112, 111, 119, 101, 114, 115]⟩, .string ⟨#[99, 97, 110, 116, 111, 114]⟩, .string ⟨#[109, 111, 100]⟩] 9))
    have HG3 := Lib.hid (grown_new HG2.out (.cells #[.string ⟨#[116, 104, 117, 101]⟩, .string ⟨#[114, 117, 100, 105, 110]⟩, .string ⟨#[112, 101, 114, 105, 111, 100]⟩, .string ⟨#[112, 111, 119, 101, 114, 115]⟩, .string ⟨#[99, 97, 110, 116, 111, 114]⟩, .string ⟨#[109, 111, 100]⟩] 9))
    have HZ3 := Lib.hid (HZ2.out.alloc (.cells #[.string ⟨#[116, 104, 117, 101]⟩, .string ⟨#[114, 117, 100, 105, 110]⟩, .string ⟨#[112, 101, 114, 105, 111, 100]⟩, .string ⟨#[112, 111, 119, 101, 114, 115]⟩, .string ⟨#[99, 97, 110, 116, 111, 114]⟩, .string ⟨#[109, 111, 100]⟩] 9))
    have hlt := HS2.out.lt
    have hP := Lib.hid (HP.out _ w1.heap.size (by omega) (strs6 w1 _) HS3.out)
    go_wp2_with fail
    refine hP.out.mono ?_
    rintro e w2 ⟨s, hs6, rfl, g2, c2⟩
    have HN := Lib.hid (named w2 s hs6)
    have HG4 := Lib.hid (grown_more HG3.out g2 (fun k hk => .inl (Option.some.inj hk).symm))
    have HS4 := Lib.hid (HS3.out.next g2 c2)
    have HZ4 := Lib.hid (HZ3.out.grown g2 (by simp; omega))
    clear HG2 HS2 HZ2 HG3 HS3 HZ3 hP g2 c2 hs6
    go_wp2_with fail
    refine HN.out.mono ?_
    rintro e w3 ⟨v, b, rows, out, hok, rfl, hv, b3⟩
    obtain ⟨an, cn, ao, co, rfl⟩ := hv.form
    have HOK := Lib.hid hok
    have HV := Lib.hid (own_within (hv.below ((Below.refl w3.heap.size w3).alloc (Nat.le_refl _) (Obj.cells #[Value.int .i64 b, .slice an rows.length cn, .slice ao out.length co] 27))) (by simp) (Nat.le_refl _))
    have g3 := grown_of_below b3
    have HLO : Hid (w.heap.size + 1 ≤ w2.heap.size) := HZ4.out.lt
    have HG5 := Lib.hid (grown_new (grown_more HG4.out g3 (fun k hk => by cases hk)) (Obj.cells #[Value.int .i64 b, .slice an rows.length cn, .slice ao out.length co] 27))
    have HS5 := Lib.hid ((HS4.out.other g3 (fun k hk => by cases hk)).alloc (Obj.cells #[Value.int .i64 b, .slice an rows.length cn, .slice ao out.length co] 27))
    have HZ5 := Lib.hid ((HZ4.out.below b3).alloc (Obj.cells #[Value.int .i64 b, .slice an rows.length cn, .slice ao out.length co] 27))
    have HX := Lib.hid (Cells3.new w3 27 (.int .i64 b) (.slice an rows.length cn) (.slice ao out.length co))
    have x0 := HX.out.c0
    have x1 := HX.out.c1
    have x2 := HX.out.c2
    clear HG4 HS4 HZ4 hok hv g3 b3
    have z0 := HZ5.out.c0
    have z1 := HZ5.out.c1
    have z2 := HZ5.out.c2
    have z3 := HZ5.out.f
    go_wp2
    have hZ3 := (((HZ5.out.set0 (.int .i64 b)).set1 (.slice an rows.length cn)).set2 (.slice ao out.length co))
    have n0 := hZ3.c0
    have n1 := hZ3.c1
    have n2 := hZ3.c2
    have hcc : w.heap.size ≠ c := by omega
    have hcW : W.heap.size ≤ w.heap.size := by omega
    refine bodyPost_ret (v := .agg #[.int .i64 b, .slice an rows.length cn, .slice ao out.length co]) (by simp [results, Try.results69, go_sem, n0, n1, n2]) rfl ⟨_, b, _, _, HOK.out, rfl, ?_, ?_, ?_⟩
    · have T0 : Plain.Touch w.heap.size (w.heap.size + 1) (w3.alloc (Obj.cells #[Value.int .i64 b, .slice an rows.length cn, .slice ao out.length co] 27)) ((((w3.alloc (Obj.cells #[Value.int .i64 b, .slice an rows.length cn, .slice ao out.length co] 27)).setCell ⟨w.heap.size, 0, none⟩ (.int .i64 b)).setCell ⟨w.heap.size, 1, none⟩ (.slice an rows.length cn)).setCell ⟨w.heap.size, 2, none⟩ (.slice ao out.length co)) :=
        ((Plain.Touch.of_set _ (by show w.heap.size ≤ w.heap.size; exact Nat.le_refl _) (by show w.heap.size < w.heap.size + 1; omega)).trans (Plain.Touch.of_set _ (by show w.heap.size ≤ w.heap.size; exact Nat.le_refl _) (by show w.heap.size < w.heap.size + 1; omega))).trans (Plain.Touch.of_set _ (by show w.heap.size ≤ w.heap.size; exact Nat.le_refl _) (by show w.heap.size < w.heap.size + 1; omega))
      have := (HV.out.touch T0 (.inr HLO.out)).lower (Nat.le_trans (Nat.le_succ _) HLO.out)
      simpa only [size_setCell'] using this
    · exact grown_set (grown_set (grown_set HG5.out (Nat.le_refl _) _) (Nat.le_refl _) _) (Nat.le_refl _) _
    · exact (((HS5.out.other (Cursor.grown_setCell _ w.heap.size 0 _) (fun k hk => by cases hk; exact ⟨hcc, hcW⟩)).other (Cursor.grown_setCell _ w.heap.size 1 _) (fun k hk => by cases hk; exact ⟨hcc, hcW⟩)).other (Cursor.grown_setCell _ w.heap.size 2 _) (fun k hk => by cases hk; exact ⟨hcc, hcW⟩)).cur
  | false =>
    go_wp2_with fail
    refine (HB.out _ 2 (by decide) (by decide) HS2.out).mono ?_
    rintro e w2 ⟨x, ⟨hx0, hx1⟩, rfl, g2, c2⟩
    have HG3 := Lib.hid (grown_more HG2.out g2 (fun k hk => .inl (Option.some.inj hk).symm))
    have HS3 := Lib.hid (HS2.out.next g2 c2)
    have HZ3 := Lib.hid (HZ2.out.grown g2 (by simp; omega))
    clear HG2 HS2 HZ2 g2 c2
    go_wp2_with fail
    refine (HB.out _ 5 (by decide) (by decide) HS3.out).mono ?_
    rintro e w3 ⟨y, ⟨hy0, hy1⟩, rfl, g3, c3⟩
    have HG4 := Lib.hid (grown_more HG3.out g3 (fun k hk => .inl (Option.some.inj hk).symm))
    have HS4 := Lib.hid (HS3.out.next g3 c3)
    have HZ4 := Lib.hid (HZ3.out.grown g3 (by simp; omega))
    clear HG3 HS3 HZ3 g3 c3
    go_wp2_with fail
    refine (HR.out _ (2 + x) (1 + y) (by omega) (by omega) (by omega) (by omega) HS4.out).mono ?_
    rintro e w4 ⟨v, b, rows, out, hok, rfl, hv, g4, c4⟩
    obtain ⟨an, cn, ao, co, rfl⟩ := hv.form
    have HOK := Lib.hid hok
    have HV := Lib.hid hv
    have HLO : Hid (w.heap.size + 1 ≤ w3.heap.size) := HZ4.out.lt
    have HG5 := Lib.hid (grown_more HG4.out g4 (fun k hk => .inl (Option.some.inj hk).symm))
    have HS5 := Lib.hid (HS4.out.next g4 c4)
    have HZ5 := Lib.hid (HZ4.out.grown g4 (by simp; omega))
    clear HG4 HS4 HZ4 g4 c4 hok hv
    have z0 := HZ5.out.c0
    have z1 := HZ5.out.c1
    have z2 := HZ5.out.c2
    have z3 := HZ5.out.f
    go_wp2
    have hZ3 := (((HZ5.out.set0 (.int .i64 b)).set1 (.slice an rows.length cn)).set2 (.slice ao out.length co))
    have n0 := hZ3.c0
    have n1 := hZ3.c1
    have n2 := hZ3.c2
    have hcc : w.heap.size ≠ c := by omega
    have hcW : W.heap.size ≤ w.heap.size := by omega
    refine bodyPost_ret (v := .agg #[.int .i64 b, .slice an rows.length cn, .slice ao out.length co]) (by simp [results, Try.results69, go_sem, n0, n1, n2]) rfl ⟨_, b, _, _, HOK.out, rfl, ?_, ?_, ?_⟩
    · have T0 : Plain.Touch w.heap.size (w.heap.size + 1) w4 (((w4.setCell ⟨w.heap.size, 0, none⟩ (.int .i64 b)).setCell ⟨w.heap.size, 1, none⟩ (.slice an rows.length cn)).setCell ⟨w.heap.size, 2, none⟩ (.slice ao out.length co)) :=
        ((Plain.Touch.of_set _ (by show w.heap.size ≤ w.heap.size; exact Nat.le_refl _) (by show w.heap.size < w.heap.size + 1; omega)).trans (Plain.Touch.of_set _ (by show w.heap.size ≤ w.heap.size; exact Nat.le_refl _) (by show w.heap.size < w.heap.size + 1; omega))).trans (Plain.Touch.of_set _ (by show w.heap.size ≤ w.heap.size; exact Nat.le_refl _) (by show w.heap.size < w.heap.size + 1; omega))
      have := (HV.out.touch T0 (.inr HLO.out)).lower (Nat.le_trans (Nat.le_succ _) HLO.out)
      simpa only [size_setCell'] using this
    · exact grown_set (grown_set (grown_set HG5.out (Nat.le_refl _) _) (Nat.le_refl _) _) (Nat.le_refl _) _
    · exact (((HS5.out.other (Cursor.grown_setCell _ w.heap.size 0 _) (fun k hk => by cases hk; exact ⟨hcc, hcW⟩)).other (Cursor.grown_setCell _ w.heap.size 1 _) (fun k hk => by cases hk; exact ⟨hcc, hcW⟩)).other (Cursor.grown_setCell _ w.heap.size 2 _) (fun k hk => by cases hk; exact ⟨hcc, hcW⟩)).cur
end Cursor
end Go.Proofs.Ytodnkkofammhbaa
/- The drawing of sequences of any kind: some sequence, sometimes with a number that does not fit. No conditions beyond those that each states. -/
namespace Go.Proofs.Ytodnkkofammhbaa
open Go.ChangeShapes Go.WideShapes Go.ChangeAt Go.RowKit
open Go.PlainAid Plain
set_option linter.unusedVariables false
namespace Cursor
open Ints Digits
theorem own_moved {w w' : World} {lo hi c : Nat} {v : Value} {b : Int} {rows : List (List Int)} {out : List Int} (h : OwnS w lo hi v b rows out) (hg : w.grownBy w' (some c)) (hc : c < lo) : OwnS w' lo hi v b rows out := by
  obtain ⟨vn, vo, us, rfl, hr, ho⟩ := h
  exact ⟨vn, vo, us, rfl, ⟨hr.top.moved hg hc, hr.lt, Nat.le_trans hr.le hg.size, hr.rows.moved hg hc⟩, ho.moved hg hc⟩
theorem own_based {w : World} {lo hi : Nat} {vn vo : Value} {b b' : Int} {rows : List (List Int)} {out : List Int} (h : OwnS w lo hi (.agg #[.int .i64 b, vn, vo]) b rows out) : OwnS w lo hi (.agg #[.int .i64 b', vn, vo]) b' rows out := by
  obtain ⟨vn', vo', us, hv, hr, ho⟩ := h
  simp at hv
  obtain ⟨rfl, rfl⟩ := hv
  exact ⟨_, _, us, rfl, hr, ho⟩
/-- The first cell of the terms, and what a write into it makes of the sequence. -/
theorem own_out0 {w : World} {lo hi : Nat} {vn : Value} {ao : Option Addr} {co : Nat} {b : Int} {rows : List (List Int)} {out : List Int} (h : OwnS w lo hi (.agg #[.int .i64 b, vn, .slice ao out.length co]) b rows out) (h0 : 0 < out.length) :
    ∃ g, ao = some ⟨g, 0, none⟩ ∧ lo ≤ g ∧ g < hi ∧ w.frozen? ⟨g, 0, none⟩ = false ∧ (∃ y, w.cell? ⟨g, 0, none⟩ = some y) ∧ ∀ x : Int, OwnS (w.setCell ⟨g, 0, none⟩ (.int .i64 x)) lo hi (.agg #[.int .i64 b, vn, .slice ao out.length co]) b rows (out.set 0 x) := by
  obtain ⟨vn', vo', us, hv, hr, ho⟩ := h
  simp at hv
  obtain ⟨rfl, rfl⟩ := hv
  have hI := ho.last
  obtain ⟨g, c, hg, hl, _⟩ := own_at hI.has h0
  injection hg with h1 _ h3
  subst h1; subst h3
  have hO : w.ownsRow lo 3 1 (.slice (some ⟨g, 0, none⟩) out.length co) out.length (out.map (Value.int .i64)) := hI.has
  refine ⟨g, rfl, hl, hI.lt g rfl, hO.frozenAt 0, ?_, fun x => ?_⟩
  · have y3 := hO.cellAt 0 (by omega)
    rw [List.getElem?_map, List.getElem?_eq_getElem h0, Option.map_some] at y3
    exact ⟨_, y3⟩
  · have hu : (us ++ [Value.slice (some ⟨g, 0, none⟩) out.length co])[us.length]? = some (.slice (some ⟨g, 0, none⟩) out.length co) := by simp
    have hq : (rows ++ [out])[us.length]? = some out := by rw [hr.rows.len]; simp
    have h2 := ho.write hu hq 0 x
    rw [hr.rows.len, List.set_append_right _ _ (Nat.le_refl _), Nat.sub_self, List.set_cons_zero] at h2
    have ht : vn.ownBlock ≠ some g := by
      rcases hr.top.ne_top hI.has with e | e
      · rw [e]; simp
      · exact e
    have hne : ∀ u ∈ us, u.ownBlock ≠ some g := fun u hu e => by
      obtain ⟨i, hi'⟩ := List.getElem?_of_mem hu
      have hlt := (List.getElem?_eq_some_iff.1 hi').1
      rcases ho.apart i us.length u (.slice (some ⟨g, 0, none⟩) out.length co) (by rw [List.getElem?_append_left hlt]; exact hi') (by simp) (by omega) with e' | e'
      · rw [e] at e'; cases e'
      · exact e' e
    exact ⟨vn, _, us, rfl, ⟨hr.top.set (a := ⟨g, 0, none⟩) ht _, hr.lt, by rw [size_setCell']; exact hr.le, hr.rows.set (a := ⟨g, 0, none⟩) hne _⟩, h2⟩
/-- The first cell of the first row, and what a write into it makes of the sequence. -/
theorem own_row0 {w : World} {lo hi : Nat} {an : Option Addr} {cn : Nat} {vo : Value} {b : Int} {rows : List (List Int)} {out : List Int} (h : OwnS w lo hi (.agg #[.int .i64 b, .slice an rows.length cn, vo]) b rows out) (h0 : 0 < rows.length) (h1 : ∀ r ∈ rows, 1 ≤ r.length) :
    ∃ tq ts g m c, an = some ⟨tq, ts, none⟩ ∧ w.cell? ⟨tq, ts, none⟩ = some (.slice (some ⟨g, 0, none⟩) m c) ∧ 0 < m ∧ lo ≤ g ∧ g < hi ∧ w.frozen? ⟨g, 0, none⟩ = false ∧ (∃ y, w.cell? ⟨g, 0, none⟩ = some y) ∧ lo ≤ tq ∧ tq < hi ∧
      ∀ x : Int, ∃ rows', rows'.length = rows.length ∧ (∀ r ∈ rows', ∃ r0 ∈ rows, r.length = r0.length) ∧ OwnS (w.setCell ⟨g, 0, none⟩ (.int .i64 x)) lo hi (.agg #[.int .i64 b, .slice an rows.length cn, vo]) b rows' out := by
  obtain ⟨vn', vo', us, hv, hr, ho⟩ := h
  simp at hv
  obtain ⟨rfl, rfl⟩ := hv
  obtain ⟨u0, hu0⟩ : ∃ u, us[0]? = some u := ⟨_, List.getElem?_eq_getElem (by rw [hr.rows.len]; exact h0)⟩
  obtain ⟨r0, hr0⟩ : ∃ r, rows[0]? = some r := ⟨_, List.getElem?_eq_getElem h0⟩
  have hI := hr.rows.row 0 u0 r0 hu0 hr0
  have hl0 := h1 r0 (List.mem_of_getElem? hr0)
  obtain ⟨g, c, hg, hl, _⟩ := own_at hI.has (by omega)
  subst hg
  have hO : w.ownsRow lo 3 1 (.slice (some ⟨g, 0, none⟩) r0.length c) r0.length (r0.map (Value.int .i64)) := hI.has
  obtain ⟨_, ta, tc, htv, _, hct⟩ := hr.top.lies
  obtain ⟨tq, ts, hta, y2⟩ := hct 0 _ hu0
  have hna : an = some ⟨tq, ts, none⟩ := by
    injection htv with h1
    rw [h1, hta]
  subst hna
  refine ⟨tq, ts, g, r0.length, c, rfl, y2, hl0, hl, hI.lt g rfl, hO.frozenAt 0, ?_, (hr.top.lt tq rfl).1, hr.lt tq rfl, fun x => ⟨rows.set 0 (r0.set 0 x), by rw [List.length_set], fun r hm => ?_, ?_⟩⟩
  · have y3 := hO.cellAt 0 (by omega)
    rw [List.getElem?_map, List.getElem?_eq_getElem (by omega), Option.map_some] at y3
    exact ⟨_, y3⟩
  · rcases List.mem_or_eq_of_mem_set hm with e | e
    · exact ⟨r, e, rfl⟩
    · exact ⟨r0, List.mem_of_getElem? hr0, by rw [e, List.length_set]⟩
  · have hlu : 0 < us.length := by rw [hr.rows.len]; exact h0
    have h2 := ho.write (i := 0) (by rw [List.getElem?_append_left hlu]; exact hu0) (by rw [List.getElem?_append_left h0]; exact hr0) 0 x
    rw [List.set_append_left _ _ h0] at h2
    have ht : (Value.slice (some ⟨tq, ts, none⟩) rows.length cn).ownBlock ≠ some g := by
      rcases hr.top.ne_top hI.has with e | e
      · rw [e]; simp
      · exact e
    exact ⟨_, vo, us, rfl, ⟨hr.top.set (a := ⟨g, 0, none⟩) ht _, hr.lt, by rw [size_setCell']; exact hr.le, hr.rows.write hu0 hr0 0 x⟩, h2⟩
theorem same_row {w : World} {tq ts g m cc tq2 ts2 g2 m2 cc2 : Nat} (h : (some ⟨tq, ts, none⟩ : Option Addr) = some ⟨tq2, ts2, none⟩) (h1 : w.cell? ⟨tq, ts, none⟩ = some (.slice (some ⟨g, 0, none⟩) m cc)) (h2 : w.cell? ⟨tq2, ts2, none⟩ = some (.slice (some ⟨g2, 0, none⟩) m2 cc2)) : tq = tq2 ∧ ts = ts2 ∧ g = g2 ∧ m = m2 ∧ cc = cc2 := by
  injection h with h
  injection h with ha hb
  subst ha; subst hb
  rw [h1] at h2
  injection h2 with h2
  injection h2 with h3 h4 h5
  injection h3 with h3
  injection h3 with h3
  exact ⟨rfl, rfl, h3, h4, h5⟩
def nums16a : List Int := [0, 1, 5, 3]
theorem nums16a_ok : ∀ v ∈ nums16a, I64 v := by unfold nums16a I64; simp
def nums16b : List Int := [-1, 4]
theorem nums16b_ok : ∀ v ∈ nums16b, I64 v := by unfold nums16b I64; simp
def nums16c : List Int := [-1, 9, 16]
theorem nums16c_ok : ∀ v ∈ nums16c, I64 v := by unfold nums16c I64; simp
set_option maxHeartbeats 2000000 in
theorem any3 (W w : World) (c : Nat) (a : Option Addr) (len cap : Nat) (hlen : len ≤ 1048576) (hcode : CodeIs W W.heap.size a len) (hs : Stands W w c a len cap) :
    Calls Try.prog 45 #[.pointer (some ⟨c, 0, none⟩)] w (SomeSeq w (fun w' => w.grownBy w' (some c) ∧ CurIs w' c a len cap)) := by
  have HD := Lib.hid (fun (w : World) (hs : Stands W w c a len cap) => draw3 W w c a len cap hlen hcode hs)
  have HB := Lib.hid (fun (w : World) (n : Int) (hn0 : 1 ≤ n) (hn1 : n ≤ 9223372036854775807) (hs : Stands W w c a len cap) => below W w c a len cap n hn0 hn1 hlen hcode hs)
  have HP := Lib.hid (fun (w : World) (q n : Nat) (hn : 1 ≤ n) (hn2 : n ≤ 256) (hq : q ≠ c) (hqs : q < w.heap.size) (hl : ListIs w q n) (hs : Stands W w c a len cap) => pickInt W w c a len cap q n n hn hn2 hq hqs hl hlen hcode hs)
  have hcw := hs.lt
  have hown := hs.own
  have HG1 : Hid (w.grownBy (w.alloc (Obj.cells #[Value.int .i64 0, Value.slice none 0 0, Value.slice none 0 0] 27)) (some c)) := grown_new (grown_self w c) _
  have HS1 := Lib.hid (hs.alloc (Obj.cells #[Value.int .i64 0, Value.slice none 0 0, Value.slice none 0 0] 27))
  have HZ1 := Lib.hid (Cells3.new w 27 (.int .i64 0) (.slice none 0 0) (.slice none 0 0))
  clear hcode hs
  go_enter Try.func45, Try.ntmps45
  go_wp2_with fail
  refine (HD.out _ HS1.out).mono ?_
  rintro e w1 ⟨v, b, rows, out, hok, rfl, hv, g1, c1⟩
  obtain ⟨an, cn, ao, co, rfl⟩ := hv.form
  have HOK := Lib.hid hok
  rw [size_alloc'] at hv
  have hv2 := hv.below ((Below.refl w1.heap.size w1).alloc (Nat.le_refl _) (Obj.cells #[Value.int .i64 b, .slice an rows.length cn, .slice ao out.length co] 27))
  have hg2 := grown_new (grown_more HG1.out g1 (fun k hk => .inl (Option.some.inj hk).symm)) (Obj.cells #[Value.int .i64 b, .slice an rows.length cn, .slice ao out.length co] 27)
  have hs2 := (HS1.out.next g1 c1).alloc (Obj.cells #[Value.int .i64 b, .slice an rows.length cn, .slice ao out.length co] 27)
  have hz2 := (HZ1.out.grown g1 (by simp; omega)).alloc (Obj.cells #[Value.int .i64 b, .slice an rows.length cn, .slice ao out.length co] 27)
  have hx2 := Cells3.new w1 27 (.int .i64 b) (.slice an rows.length cn) (.slice ao out.length co)
  have hw1 : w.heap.size + 1 ≤ w1.heap.size := by have := g1.size; simpa using this
  obtain ⟨q, hq⟩ : ∃ q, q = w1.heap.size := ⟨_, rfl⟩
  obtain ⟨W2, hW2⟩ : ∃ W, W = w1.alloc (Obj.cells #[Value.int .i64 b, .slice an rows.length cn, .slice ao out.length co] 27) := ⟨_, rfl⟩
  have HQ := Lib.hid (show w.heap.size + 1 ≤ q ∧ q < W2.heap.size ∧ W2.heap.size = q + 1 from by rw [hW2, size_alloc', hq]; omega)
  have HN := Lib.hid (show c < w.heap.size ∧ W.heap.size ≤ c from ⟨hcw, hown⟩)
  rw [← hW2] at hv2 hg2 hs2 hz2 hx2
  rw [← hq] at hx2 hv2
  clear hok hv g1 c1 HG1 HS1 HZ1 hcw hown hw1
  have HS2 := Lib.hid hs2
  clear hs2
  go_wp2_with fail
  rw [← hW2, ← hq]
  clear hW2 hq
  refine (HB.out _ 16 (by decide) (by decide) HS2.out).mono ?_
  rintro e W3 ⟨x, ⟨hx0, hx1⟩, rfl, g3, c3⟩
  have HV3 := Lib.hid (own_moved hv2 g3 (by have := HN.out; omega))
  have HG3 := Lib.hid (grown_more hg2 g3 (fun k hk => .inl (Option.some.inj hk).symm))
  have HS3 := Lib.hid (HS2.out.next g3 c3)
  have HZ3 := Lib.hid (hz2.grown g3 (by have := HN.out; simp; omega))
  have HX3 := Lib.hid (hx2.grown g3 (by have := HN.out; have := HQ.out; simp; omega))
  have HLE := Lib.hid g3.size
  clear hv2 hg2 HS2 hz2 hx2 g3 c3
  have HLO : Hid (w.heap.size + 1 ≤ w.heap.size + 1) := Nat.le_refl _
  have hcw : c < w.heap.size := HN.out.1
  have hown : W.heap.size ≤ c := HN.out.2
  have hlt3 := HS3.out.lt
  by_cases h0 : x = 0
  · subst h0
    clear hx0 hx1
    have HL := Lib.hid (list_lit W3 nums16a 3 nums16a_ok)
    have HPI := Lib.hid (HP.out _ W3.heap.size 4 (by decide) (by decide) (by omega) (by simp) HL.out (HS3.out.alloc _))
    go_wp2_with fail
    refine HPI.out.mono ?_
    rintro e W4 ⟨y, hy, rfl, g4, c4⟩
    have G4 := Lib.hid (grown_alloc g4)
    have HS4 := Lib.hid ((HS3.out.alloc _).next g4 c4)
    have HV4 := Lib.hid (own_moved HV3.out G4.out (by have := HN.out; omega))
    have HG4 := Lib.hid (grown_more HG3.out G4.out (fun k hk => .inl (Option.some.inj hk).symm))
    have HZ4 := Lib.hid (HZ3.out.grown G4.out (by have := HN.out; simp; omega))
    have HX4 := Lib.hid (HX3.out.grown G4.out (by have := HN.out; have := HQ.out; simp; omega))
    have HLE4 := Lib.hid (Nat.le_trans HLE.out G4.out.size)
    clear HV3 HG3 HZ3 HX3 g4 c4
    have hx4 := HX4.out.set0 (.int .i64 y)
    have HX5 := Lib.hid hx4
    have HZ5 := Lib.hid (HZ4.out.other (a := ⟨q, 0, none⟩) (by have := HQ.out; show q ≠ _; omega) (.int .i64 y))
    have HG5 : Hid (w.grownBy (W4.setCell ⟨q, 0, none⟩ (.int .i64 y)) (some c)) := grown_set HG4.out (by have := HQ.out; omega) _
    have HS5 : Hid (Stands W (W4.setCell ⟨q, 0, none⟩ (.int .i64 y)) c a len cap) := HS4.out.other (Cursor.grown_setCell W4 q 0 _) (fun k hk => by cases hk; have := HQ.out; omega)
    have hT : Plain.Touch q (q + 1) W4 (W4.setCell ⟨q, 0, none⟩ (.int .i64 y)) := Plain.Touch.of_set _ (by show q ≤ q; exact Nat.le_refl _) (by show q < q + 1; omega)
    have HV5 := Lib.hid (own_based (b' := y) (own_within (hi' := (W4.setCell ⟨q, 0, none⟩ (.int .i64 y)).heap.size) (HV4.out.touch hT (.inl (Nat.le_refl _))) (by rw [size_setCell']; have := HLE4.out; have := HQ.out; omega) (Nat.le_refl _)))
    have x3 := HX4.out.f
    have x4 := HX4.out.c0
    have x0 := HX5.out.c0
    have x1 := HX5.out.c1
    have x2 := HX5.out.c2
    clear hT hx4 hy HV4 HX4 HZ4 HG4 HS4 HPI HL HS3
    have z0 := HZ5.out.c0
    have z1 := HZ5.out.c1
    have z2 := HZ5.out.c2
    have z3 := HZ5.out.f
    go_wp2
    have hZ3 := (((HZ5.out.set0 (.int .i64 y)).set1 (.slice an rows.length cn)).set2 (.slice ao out.length co))
    have n0 := hZ3.c0
    have n1 := hZ3.c1
    have n2 := hZ3.c2
    have hcc : w.heap.size ≠ c := by omega
    have hcW : W.heap.size ≤ w.heap.size := by omega
    refine bodyPost_ret (v := .agg #[.int .i64 y, .slice an rows.length cn, .slice ao out.length co]) (by simp [results, Try.results45, go_sem, n0, n1, n2]) rfl ⟨_, y, _, _, HOK.out, rfl, ?_, ?_, ?_⟩
    · have T0 : Plain.Touch w.heap.size (w.heap.size + 1) (W4.setCell ⟨q, 0, none⟩ (.int .i64 y)) ((((W4.setCell ⟨q, 0, none⟩ (.int .i64 y)).setCell ⟨w.heap.size, 0, none⟩ (.int .i64 y)).setCell ⟨w.heap.size, 1, none⟩ (.slice an rows.length cn)).setCell ⟨w.heap.size, 2, none⟩ (.slice ao out.length co)) :=
        ((Plain.Touch.of_set _ (by show w.heap.size ≤ w.heap.size; exact Nat.le_refl _) (by show w.heap.size < w.heap.size + 1; omega)).trans (Plain.Touch.of_set _ (by show w.heap.size ≤ w.heap.size; exact Nat.le_refl _) (by show w.heap.size < w.heap.size + 1; omega))).trans (Plain.Touch.of_set _ (by show w.heap.size ≤ w.heap.size; exact Nat.le_refl _) (by show w.heap.size < w.heap.size + 1; omega))
      have := (HV5.out.touch T0 (.inr HLO.out)).lower (Nat.le_trans (Nat.le_succ _) HLO.out)
      simpa only [size_setCell'] using this
    · exact grown_set (grown_set (grown_set HG5.out (Nat.le_refl _) _) (Nat.le_refl _) _) (Nat.le_refl _) _
    · exact (((HS5.out.other (Cursor.grown_setCell _ w.heap.size 0 _) (fun k hk => by cases hk; exact ⟨hcc, hcW⟩)).other (Cursor.grown_setCell _ w.heap.size 1 _) (fun k hk => by cases hk; exact ⟨hcc, hcW⟩)).other (Cursor.grown_setCell _ w.heap.size 2 _) (fun k hk => by cases hk; exact ⟨hcc, hcW⟩)).cur
  have e0 : (x == 0) = false := by simpa using h0
  by_cases h1 : x = 1
  · subst h1
    clear hx0 hx1 h0 e0
    have HL := Lib.hid (list_lit W3.drew nums16b 3 nums16b_ok)
    have HPI := Lib.hid (HP.out _ W3.heap.size 2 (by decide) (by decide) (by omega) (by show _ < (W3.drew.alloc _).heap.size; rw [size_alloc']; exact Nat.lt_succ_self _) HL.out (HS3.out.drew.alloc _))
    have h0o : 0 < out.length := by have := HOK.out; unfold SeqOk at this; omega
    obtain ⟨g, hgo, hgl, hgh, _, _, _⟩ := own_out0 HV3.out h0o
    subst hgo
    have d1 := HX3.out.c2
    have d2 := (HX3.out.alloc (.cells (nums16b.map (Value.int .i64)).toArray 3)).c2
    have hq3 := HX3.out.lt
    go_wp2_with fail
    go_region_law (first
      | (go_simp; go_at_call 52; (refine HPI.out.mono ?_); rintro e W4 ⟨y, hy, rfl, g4, c4⟩; have G4 := Lib.hid (Plain.grown_drew (grown_alloc g4)); have HX4 := Lib.hid (HX3.out.grown G4.out (by have := HN.out; have := HQ.out; simp; omega)); have d3 := HX4.out.c2; have HV4 := Lib.hid (own_moved HV3.out G4.out (Nat.lt_succ_of_lt hcw)); obtain ⟨g2, hg2, _, _, hf2, ⟨yy, hy2⟩, hw2⟩ := own_out0 HV4.out h0o; obtain rfl : g = g2 := (Option.some.inj hg2 |> fun e => congrArg Addr.block e)))
    all_goals
      have HV5' := Lib.hid (hw2 y)
      have HS4 := Lib.hid ((HS3.out.drew.alloc (.cells (nums16b.map (Value.int .i64)).toArray 3)).next g4 c4)
      have HG4 := Lib.hid (grown_more HG3.out G4.out (fun k hk => .inl (Option.some.inj hk).symm))
      have HZ4 := Lib.hid (HZ3.out.grown G4.out (by simp; omega))
      have HLE4 := Lib.hid (Nat.le_trans HLE.out G4.out.size)
      have HX5 := Lib.hid (HX4.out.other (a := ⟨g, 0, none⟩) (by show g ≠ q; omega) (.int .i64 y))
      have HZ5 := Lib.hid (HZ4.out.other (a := ⟨g, 0, none⟩) (by show g ≠ _; omega) (.int .i64 y))
      have HG5 : Hid (w.grownBy (W4.setCell ⟨g, 0, none⟩ (.int .i64 y)) (some c)) := grown_set HG4.out (by omega) _
      have HS5 : Hid (Stands W (W4.setCell ⟨g, 0, none⟩ (.int .i64 y)) c a len cap) := HS4.out.other (Cursor.grown_setCell W4 g 0 _) (fun k hk => by cases hk; omega)
      have HV5 := Lib.hid (own_within (hi' := (W4.setCell ⟨g, 0, none⟩ (.int .i64 y)).heap.size) HV5'.out (by rw [size_setCell']; have := HLE4.out; have := HQ.out; omega) (Nat.le_refl _))
      have HOK2 : Hid (SeqOk rows (out.set 0 y)) := ⟨HOK.out.1, HOK.out.2.1, by rw [List.length_set]; exact HOK.out.2.2.1, HOK.out.2.2.2⟩
      have x0 := HX5.out.c0
      have x1 := HX5.out.c1
      have x2 := HX5.out.c2
      clear hw2 hg2 hf2 hy2 hy d1 d2 d3 g4 c4 G4 HV4 HX4 HZ4 HG4 HS4 HPI HL HS3 HX3 HZ3 HG3 HV3 HV5' hq3
      have z0 := HZ5.out.c0
      have z1 := HZ5.out.c1
      have z2 := HZ5.out.c2
      have z3 := HZ5.out.f
      go_wp2
      have hZ3 := (((HZ5.out.set0 (.int .i64 b)).set1 (.slice an rows.length cn)).set2 (.slice (some ⟨g, 0, none⟩) out.length co))
      have n0 := hZ3.c0
      have n1 := hZ3.c1
      have n2 := hZ3.c2
      have hcc : w.heap.size ≠ c := by omega
      have hcW : W.heap.size ≤ w.heap.size := by omega
      refine bodyPost_ret (v := .agg #[.int .i64 b, .slice an rows.length cn, .slice (some ⟨g, 0, none⟩) out.length co]) (by simp [results, Try.results45, go_sem, n0, n1, n2]) rfl ⟨_, b, _, _, HOK2.out, rfl, ?_, ?_, ?_⟩
      · have T0 : Plain.Touch w.heap.size (w.heap.size + 1) (W4.setCell ⟨g, 0, none⟩ (.int .i64 y)) ((((W4.setCell ⟨g, 0, none⟩ (.int .i64 y)).setCell ⟨w.heap.size, 0, none⟩ (.int .i64 b)).setCell ⟨w.heap.size, 1, none⟩ (.slice an rows.length cn)).setCell ⟨w.heap.size, 2, none⟩ (.slice (some ⟨g, 0, none⟩) out.length co)) :=
          ((Plain.Touch.of_set _ (by show w.heap.size ≤ w.heap.size; exact Nat.le_refl _) (by show w.heap.size < w.heap.size + 1; omega)).trans (Plain.Touch.of_set _ (by show w.heap.size ≤ w.heap.size; exact Nat.le_refl _) (by show w.heap.size < w.heap.size + 1; omega))).trans (Plain.Touch.of_set _ (by show w.heap.size ≤ w.heap.size; exact Nat.le_refl _) (by show w.heap.size < w.heap.size + 1; omega))
        have := (HV5.out.touch T0 (.inr HLO.out)).lower (Nat.le_trans (Nat.le_succ _) HLO.out)
        simpa only [size_setCell'] using this
      · exact grown_set (grown_set (grown_set HG5.out (Nat.le_refl _) _) (Nat.le_refl _) _) (Nat.le_refl _) _
      · exact (((HS5.out.other (Cursor.grown_setCell _ w.heap.size 0 _) (fun k hk => by cases hk; exact ⟨hcc, hcW⟩)).other (Cursor.grown_setCell _ w.heap.size 1 _) (fun k hk => by cases hk; exact ⟨hcc, hcW⟩)).other (Cursor.grown_setCell _ w.heap.size 2 _) (fun k hk => by cases hk; exact ⟨hcc, hcW⟩)).cur
  have e1 : (x == 1) = false := by simpa using h1
  by_cases h2 : x = 2
  · subst h2
    clear hx0 hx1 h0 e0 h1 e1
    have HL := Lib.hid (list_lit W3.drew nums16c 3 nums16c_ok)
    have HPI := Lib.hid (HP.out _ W3.heap.size 3 (by decide) (by decide) (by omega) (by show _ < (W3.drew.alloc _).heap.size; rw [size_alloc']; exact Nat.lt_succ_self _) HL.out (HS3.out.drew.alloc _))
    have h0o : 0 < rows.length := by have := HOK.out; unfold SeqOk at this; omega
    have HR0 := Lib.hid (fun r (hr : r ∈ rows) => (HOK.out.2.2.2 r hr).1)
    obtain ⟨tq, ts, g, m, cc, hna, y1, hm0, hgl, hgh, _, _, htl, hth, _⟩ := own_row0 HV3.out h0o HR0.out
    subst hna
    have d1 := HX3.out.c1
    have d2 := (HX3.out.alloc (.cells #[Value.int .i64 (-1), Value.int .i64 9, Value.int .i64 16] 3)).c1
    have hq3 := HX3.out.lt
    have y1a := (((Below.refl W3.heap.size W3).alloc (Nat.le_refl _) (.cells #[Value.int .i64 (-1), Value.int .i64 9, Value.int .i64 16] 3)).cell (p := ⟨tq, ts, none⟩) (by show tq < W3.heap.size; omega)).trans y1
    go_wp2_with fail
    go_region_law (first
      | (go_simp; go_at_call 52; (refine HPI.out.mono ?_); rintro e W4 ⟨y, hy, rfl, g4, c4⟩; have G4 := Lib.hid (Plain.grown_drew (grown_alloc g4)); have HX4 := Lib.hid (HX3.out.grown G4.out (by have := HN.out; have := HQ.out; simp; omega)); have d3 := HX4.out.c1; have HV4 := Lib.hid (own_moved HV3.out G4.out (Nat.lt_succ_of_lt hcw)); obtain ⟨tq2, ts2, g2, m2, cc2, hg2, y2, _, _, _, hf2, ⟨yy, hy2⟩, _, _, hw2⟩ := own_row0 HV4.out h0o HR0.out; obtain ⟨rfl, rfl, rfl, rfl, rfl⟩ := same_row hg2 (G4.out.cell y1 (by show some tq ≠ some c; simp; omega)) y2))
    all_goals
      obtain ⟨rows', hrl, hrr, hv5⟩ := hw2 y
      have HV5' := Lib.hid hv5
      have HOK2 : Hid (SeqOk rows' out) := by
        refine ⟨by rw [hrl]; exact HOK.out.1, by rw [hrl]; exact HOK.out.2.1, by rw [hrl]; exact HOK.out.2.2.1, fun r hr => ?_⟩
        obtain ⟨r0, h1, h2⟩ := hrr r hr
        rw [h2]
        exact HOK.out.2.2.2 r0 h1
      have HS4 := Lib.hid ((HS3.out.drew.alloc (.cells (nums16c.map (Value.int .i64)).toArray 3)).next g4 c4)
      have HG4 := Lib.hid (grown_more HG3.out G4.out (fun k hk => .inl (Option.some.inj hk).symm))
      have HZ4 := Lib.hid (HZ3.out.grown G4.out (by simp; omega))
      have HLE4 := Lib.hid (Nat.le_trans HLE.out G4.out.size)
      have HX5 := Lib.hid (HX4.out.other (a := ⟨g, 0, none⟩) (by show g ≠ q; omega) (.int .i64 y))
      have HZ5 := Lib.hid (HZ4.out.other (a := ⟨g, 0, none⟩) (by show g ≠ _; omega) (.int .i64 y))
      have HG5 : Hid (w.grownBy (W4.setCell ⟨g, 0, none⟩ (.int .i64 y)) (some c)) := grown_set HG4.out (by omega) _
      have HS5 : Hid (Stands W (W4.setCell ⟨g, 0, none⟩ (.int .i64 y)) c a len cap) := HS4.out.other (Cursor.grown_setCell W4 g 0 _) (fun k hk => by cases hk; omega)
      have HV5 := Lib.hid (own_within (hi' := (W4.setCell ⟨g, 0, none⟩ (.int .i64 y)).heap.size) HV5'.out (by rw [size_setCell']; have := HLE4.out; have := HQ.out; omega) (Nat.le_refl _))
      have x0 := HX5.out.c0
      have x1 := HX5.out.c1
      have x2 := HX5.out.c2
      clear hw2 hg2 hf2 hy2 hy d1 d2 d3 g4 c4 G4 HV4 HX4 HZ4 HG4 HS4 HPI HL HS3 HX3 HZ3 HG3 HV3 HV5' hq3 y1 y1a y2 hv5 hrr hrl
      have z0 := HZ5.out.c0
      have z1 := HZ5.out.c1
      have z2 := HZ5.out.c2
      have z3 := HZ5.out.f
      go_wp2
      have hZ3 := (((HZ5.out.set0 (.int .i64 b)).set1 (.slice (some ⟨tq, ts, none⟩) rows.length cn)).set2 (.slice ao out.length co))
      have n0 := hZ3.c0
      have n1 := hZ3.c1
      have n2 := hZ3.c2
      have hcc : w.heap.size ≠ c := by omega
      have hcW : W.heap.size ≤ w.heap.size := by omega
      refine bodyPost_ret (v := .agg #[.int .i64 b, .slice (some ⟨tq, ts, none⟩) rows.length cn, .slice ao out.length co]) (by simp [results, Try.results45, go_sem, n0, n1, n2]) rfl ⟨_, b, _, _, HOK2.out, rfl, ?_, ?_, ?_⟩
      · have T0 : Plain.Touch w.heap.size (w.heap.size + 1) (W4.setCell ⟨g, 0, none⟩ (.int .i64 y)) ((((W4.setCell ⟨g, 0, none⟩ (.int .i64 y)).setCell ⟨w.heap.size, 0, none⟩ (.int .i64 b)).setCell ⟨w.heap.size, 1, none⟩ (.slice (some ⟨tq, ts, none⟩) rows.length cn)).setCell ⟨w.heap.size, 2, none⟩ (.slice ao out.length co)) :=
          ((Plain.Touch.of_set _ (by show w.heap.size ≤ w.heap.size; exact Nat.le_refl _) (by show w.heap.size < w.heap.size + 1; omega)).trans (Plain.Touch.of_set _ (by show w.heap.size ≤ w.heap.size; exact Nat.le_refl _) (by show w.heap.size < w.heap.size + 1; omega))).trans (Plain.Touch.of_set _ (by show w.heap.size ≤ w.heap.size; exact Nat.le_refl _) (by show w.heap.size < w.heap.size + 1; omega))
        have := (HV5.out.touch T0 (.inr HLO.out)).lower (Nat.le_trans (Nat.le_succ _) HLO.out)
        simpa only [size_setCell'] using this
      · exact grown_set (grown_set (grown_set HG5.out (Nat.le_refl _) _) (Nat.le_refl _) _) (Nat.le_refl _) _
      · exact (((HS5.out.other (Cursor.grown_setCell _ w.heap.size 0 _) (fun k hk => by cases hk; exact ⟨hcc, hcW⟩)).other (Cursor.grown_setCell _ w.heap.size 1 _) (fun k hk => by cases hk; exact ⟨hcc, hcW⟩)).other (Cursor.grown_setCell _ w.heap.size 2 _) (fun k hk => by cases hk; exact ⟨hcc, hcW⟩)).cur
  · have e2 : (x == 2) = false := by simpa using h2
    have x0 := HX3.out.c0
    have x1 := HX3.out.c1
    have x2 := HX3.out.c2
    have HV5 := Lib.hid (own_within (hi' := W3.heap.size) HV3.out (by have := HLE.out; have := HQ.out; omega) (Nat.le_refl _))
    clear HV3 HX3 h0 h1 h2
    have z0 := HZ3.out.c0
    have z1 := HZ3.out.c1
    have z2 := HZ3.out.c2
    have z3 := HZ3.out.f
    go_wp2
    have hZ3 := (((HZ3.out.set0 (.int .i64 b)).set1 (.slice an rows.length cn)).set2 (.slice ao out.length co))
    have n0 := hZ3.c0
    have n1 := hZ3.c1
    have n2 := hZ3.c2
    have hcc : w.heap.size ≠ c := by omega
    have hcW : W.heap.size ≤ w.heap.size := by omega
    refine bodyPost_ret (v := .agg #[.int .i64 b, .slice an rows.length cn, .slice ao out.length co]) (by simp [results, Try.results45, go_sem, n0, n1, n2]) rfl ⟨_, b, _, _, HOK.out, rfl, ?_, ?_, ?_⟩
    · have T0 : Plain.Touch w.heap.size (w.heap.size + 1) W3 (((W3.setCell ⟨w.heap.size, 0, none⟩ (.int .i64 b)).setCell ⟨w.heap.size, 1, none⟩ (.slice an rows.length cn)).setCell ⟨w.heap.size, 2, none⟩ (.slice ao out.length co)) :=
        ((Plain.Touch.of_set _ (by show w.heap.size ≤ w.heap.size; exact Nat.le_refl _) (by show w.heap.size < w.heap.size + 1; omega)).trans (Plain.Touch.of_set _ (by show w.heap.size ≤ w.heap.size; exact Nat.le_refl _) (by show w.heap.size < w.heap.size + 1; omega))).trans (Plain.Touch.of_set _ (by show w.heap.size ≤ w.heap.size; exact Nat.le_refl _) (by show w.heap.size < w.heap.size + 1; omega))
      have := (HV5.out.touch T0 (.inr HLO.out)).lower (Nat.le_trans (Nat.le_succ _) HLO.out)
      simpa only [size_setCell'] using this
    · exact grown_set (grown_set (grown_set HG3.out (Nat.le_refl _) _) (Nat.le_refl _) _) (Nat.le_refl _) _
    · exact (((HS3.out.other (Cursor.grown_setCell _ w.heap.size 0 _) (fun k hk => by cases hk; exact ⟨hcc, hcW⟩)).other (Cursor.grown_setCell _ w.heap.size 1 _) (fun k hk => by cases hk; exact ⟨hcc, hcW⟩)).other (Cursor.grown_setCell _ w.heap.size 2 _) (fun k hk => by cases hk; exact ⟨hcc, hcW⟩)).cur
end Cursor
end Go.Proofs.Ytodnkkofammhbaa
/- The draws of chapters 3 and 4 that hand back one sequence. No conditions beyond those that each states. -/
namespace Go.Proofs.Ytodnkkofammhbaa
open Go.ChangeShapes Go.WideShapes Go.ChangeAt Go.RowKit
open Go.PlainAid Plain
set_option linter.unusedVariables false
namespace Cursor
open Ints Digits
def DrawnSeq (w : World) : Ending → World → Prop := SomeSeq w (fun w' => Below w.heap.size w w')
end Cursor
end Go.Proofs.Ytodnkkofammhbaa
/- The draws of the law on kernels. No conditions beyond those that each states. -/
namespace Go.Proofs.Ytodnkkofammhbaa
open Go.ChangeShapes Go.WideShapes Go.ChangeAt Go.RowKit
open Go.PlainAid Plain
set_option linter.unusedVariables false
namespace Cursor
open Ints Digits
/-- A sequence and a number. -/
def SeqNum (w : World) (P : Int → Prop) (e : Ending) (w' : World) : Prop := ∃ v b rows out n, SeqOk rows out ∧ P n ∧ e = .returned (.tuple #[v, .int .i64 n]) ∧ OwnS w' w.heap.size w'.heap.size v b rows out ∧ Below w.heap.size w w'
/-- The laws' at: some byte. -/
theorem at_byte (w : World) (a : Option Addr) (len cap : Nat) (i : Nat) (hi : i < 100) (hlen : len ≤ 1048576) (hcode : CodeIs w w.heap.size a len) :
    Calls Try.prog 9 #[.slice a len cap, .int .i64 i] w fun e w' => (∃ x : Int, (0 ≤ x ∧ x ≤ 255) ∧ e = .returned (.int .i64 x)) ∧ w = w' := by
  by_cases h : i < len
  · obtain ⟨x, b, off, hx0, hx1, rfl, hcell⟩ : ∃ x : Int, ∃ b off, 0 ≤ x ∧ x ≤ 255 ∧ a = some ⟨b, off, none⟩ ∧ w.cell? ⟨b, off + i, none⟩ = some (.int .u8 x) := by
      rcases hcode with h0 | ⟨b, off, h1, _, h2⟩
      · omega
      · obtain ⟨x, hx0, hx1, hc⟩ := h2 i h
        exact ⟨x, b, off, hx0, hx1, h1, hc⟩
    have hlt : (i : Int) < (len : Int) := by omega
    have h0 : (0 : Int) ≤ (i : Int) := by omega
    have hd := decide_eq_true hlt
    go_enter Try.func9, Try.ntmps9
    go_wp2
    go_ret
    exact ⟨⟨x, ⟨hx0, hx1⟩, by go_num⟩, rfl⟩
  · have hd := decide_eq_false (show ¬ (i : Int) < (len : Int) by omega)
    go_enter Try.func9, Try.ntmps9
    go_wp2
    go_ret
    exact ⟨⟨((i : Int) * 37 + (len : Int) * 11) % 256, ⟨by omega, by omega⟩, by simp⟩, rfl⟩
end Cursor
end Go.Proofs.Ytodnkkofammhbaa
