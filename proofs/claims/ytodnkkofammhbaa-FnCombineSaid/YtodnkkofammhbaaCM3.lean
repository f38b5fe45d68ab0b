/- Several texts of this proof, one behind the other: each says ahead of it what it shows and under which conditions. -/
import Derived.Test.YtodnkkofammhbaaCM2
import Derived.OwnWalk
import Derived.Test.YtodnkkofammhbaaCM1
import Derived.Outline
import Derived.BigQuiet
import Derived.Deep.RegionHeld3
import Derived.WalkKit
/- The draws of the law on combinations. No conditions beyond those that each states. -/
namespace Go.Proofs.Ytodnkkofammhbaa
open Go.ChangeShapes Go.WideShapes Go.ChangeAt Go.RowKit
open Go.PlainAid Plain
set_option linter.unusedVariables false
namespace Cursor
open Ints Digits
set_option maxHeartbeats 1000000 in
theorem drawShift (w : World) (a : Option Addr) (len cap : Nat) (hlen : len ≤ 1048576) (hcode : CodeIs w w.heap.size a len) :
    Calls Try.prog 13 #[.slice a len cap] w (DrawnSeq w) := by
  have hb1 : Below w.heap.size w (w.alloc (Obj.cells #[Value.int .i64 0, Value.slice none 0 0, Value.slice none 0 0] 27)) := (Below.refl _ _).alloc (Nat.le_refl _) _
  have HN := Lib.hid (new w (w.alloc (Obj.cells #[Value.int .i64 0, Value.slice none 0 0, Value.slice none 0 0] 27)) a len cap hlen hcode hb1)
  have HA := Lib.hid (fun (W : World) (c : Nat) (hs : Stands w W c a len cap) => any3 w W c a len cap hlen hcode hs)
  have HB1 := Lib.hid hb1
  have HZ1 := Lib.hid (Cells3.new w 27 (.int .i64 0) (.slice none 0 0) (.slice none 0 0))
  clear hcode hb1
  go_enter Try.func13, Try.ntmps13
  go_wp2_with fail
  refine HN.out.mono ?_
  rintro e w1 ⟨c, rfl, hc, g1, c1⟩
  rw [size_alloc'] at hc
  have HS1 : Hid (Stands w w1 c a len cap) := ⟨HB1.out.trans ((Below.refl _ _).grown g1 (Nat.le_refl _) (fun k hk => by cases hk) |>.mono HB1.out.size), by omega, c1⟩
  have HZ2 := Lib.hid (HZ1.out.grown g1 (by simp))
  have hcw : w.heap.size + 1 ≤ c := hc
  clear HN HB1 HZ1 g1 c1 hc
  go_wp2_with fail
  refine (HA.out _ _ HS1.out).mono ?_
  rintro e w4 ⟨v, b, rows, out, hok, rfl, hv, g4, c4⟩
  obtain ⟨an, cn, ao, co, rfl⟩ := hv.form
  have HOK := Lib.hid hok
  have HV := Lib.hid hv
  have HLO : Hid (w.heap.size + 1 ≤ w1.heap.size) := HZ2.out.lt
  have HS5 := Lib.hid (HS1.out.next g4 c4)
  have HBW := Lib.hid HS5.out.below
  have HZ5 := Lib.hid (HZ2.out.grown g4 (by simp; omega))
  clear HS1 HZ2 g4 c4 hok hv
  have z0 := HZ5.out.c0
  have z1 := HZ5.out.c1
  have z2 := HZ5.out.c2
  have z3 := HZ5.out.f
  go_wp2
  have hZ3 := (((HZ5.out.set0 (.int .i64 b)).set1 (.slice an rows.length cn)).set2 (.slice ao out.length co))
  have n0 := hZ3.c0
  have n1 := hZ3.c1
  have n2 := hZ3.c2
  refine bodyPost_ret (v := .agg #[.int .i64 b, .slice an rows.length cn, .slice ao out.length co]) (by simp [results, Try.results13, go_sem, n0, n1, n2]) rfl ⟨_, b, _, _, HOK.out, rfl, ?_, ?_⟩
  · have T0 : Plain.Touch w.heap.size (w.heap.size + 1) w4 (((w4.setCell ⟨w.heap.size, 0, none⟩ (.int .i64 b)).setCell ⟨w.heap.size, 1, none⟩ (.slice an rows.length cn)).setCell ⟨w.heap.size, 2, none⟩ (.slice ao out.length co)) :=
      ((Plain.Touch.of_set _ (by show w.heap.size ≤ w.heap.size; exact Nat.le_refl _) (by show w.heap.size < w.heap.size + 1; omega)).trans (Plain.Touch.of_set _ (by show w.heap.size ≤ w.heap.size; exact Nat.le_refl _) (by show w.heap.size < w.heap.size + 1; omega))).trans (Plain.Touch.of_set _ (by show w.heap.size ≤ w.heap.size; exact Nat.le_refl _) (by show w.heap.size < w.heap.size + 1; omega))
    have := (HV.out.touch T0 (.inr HLO.out)).lower (Nat.le_trans (Nat.le_succ _) HLO.out)
    simpa only [size_setCell'] using this
  · exact ((HBW.out.setCell (Nat.le_refl _) _).setCell (Nat.le_refl _) _).setCell (Nat.le_refl _) _
theorem grown_more' {w w1 w2 : World} {c : Nat} (h : w.grownBy w1 (some c)) (g : w1.grownBy w2 (some c)) : w.grownBy w2 (some c) := grown_more h g (fun k hk => .inl (Option.some.inj hk).symm)
theorem drawConst (W w : World) (a : Option Addr) (len cap : Nat) (hlen : len ≤ 1048576) (hcode : CodeIs W W.heap.size a len) (hb : Below W.heap.size W w) :
    Calls Try.prog 23 #[.slice a len cap] w (SomePair (fun n m => 1 ≤ n ∧ n ≤ 5 ∧ -1 ≤ m ∧ m ≤ 4) (fun w' => Below W.heap.size W w')) := by
  have HN := Lib.hid (new W w a len cap hlen hcode hb)
  have HB := Lib.hid (fun (w : World) (p : Nat) (n : Int) (h1 : 1 ≤ n) (h2 : n ≤ 9223372036854775807) (hs : Stands W w p a len cap) => below W w p a len cap n h1 h2 hlen hcode hs)
  clear hcode
  go_enter Try.func23, Try.ntmps23
  go_wp2_with fail
  refine HN.out.mono ?_
  rintro e w1 ⟨p, rfl, hp, hg, hc⟩
  have hs := new_stands hb hp hg hc
  clear hg hc
  go_wp2_with fail
  refine (HB.out w1 p 5 (by decide) (by decide) hs).mono ?_
  rintro e w2 ⟨x, ⟨hx0, hx1⟩, rfl, hg2, hc2⟩
  have hs2 := hs.next hg2 hc2
  clear hg2 hc2
  go_wp2_with fail
  refine (HB.out w2 p 6 (by decide) (by decide) hs2).mono ?_
  rintro e w3 ⟨y, ⟨hy0, hy1⟩, rfl, hg3, hc3⟩
  have hs3 := hs2.next hg3 hc3
  go_wp2
  go_ret2
  exact ⟨1 + x, y - 1, ⟨by omega, by omega, by omega, by omega⟩, rfl, hs3.below⟩
theorem drawDigSeq (W w : World) (a : Option Addr) (len cap : Nat) (hlen : len ≤ 1048576) (hcode : CodeIs W W.heap.size a len) (hb : Below W.heap.size W w) :
    Calls Try.prog 16 #[.slice a len cap] w (SomePair (fun n m => 1 ≤ n ∧ n ≤ 5 ∧ 0 ≤ m ∧ m ≤ 6) (fun w' => Below W.heap.size W w')) := by
  have HN := Lib.hid (new W w a len cap hlen hcode hb)
  have HB := Lib.hid (fun (w : World) (p : Nat) (n : Int) (h1 : 1 ≤ n) (h2 : n ≤ 9223372036854775807) (hs : Stands W w p a len cap) => below W w p a len cap n h1 h2 hlen hcode hs)
  clear hcode
  go_enter Try.func16, Try.ntmps16
  go_wp2_with fail
  refine HN.out.mono ?_
  rintro e w1 ⟨p, rfl, hp, hg, hc⟩
  have hs := new_stands hb hp hg hc
  clear hg hc
  go_wp2_with fail
  refine (HB.out w1 p 5 (by decide) (by decide) hs).mono ?_
  rintro e w2 ⟨x, ⟨hx0, hx1⟩, rfl, hg2, hc2⟩
  have hs2 := hs.next hg2 hc2
  clear hg2 hc2
  go_wp2_with fail
  refine (HB.out w2 p 7 (by decide) (by decide) hs2).mono ?_
  rintro e w3 ⟨y, ⟨hy0, hy1⟩, rfl, hg3, hc3⟩
  have hs3 := hs2.next hg3 hc3
  go_wp2
  go_ret2
  exact ⟨1 + x, y, ⟨by omega, by omega, by omega, by omega⟩, rfl, hs3.below⟩
def SomeTrip (P : Int → Int → Int → Prop) (Q : World → Prop) (e : Ending) (w' : World) : Prop := ∃ x y z : Int, P x y z ∧ e = .returned (.tuple #[.int .i64 x, .int .i64 y, .int .i64 z]) ∧ Q w'
theorem drawCombV (W w : World) (a : Option Addr) (len cap : Nat) (hlen : len ≤ 1048576) (hcode : CodeIs W W.heap.size a len) (hb : Below W.heap.size W w) :
    Calls Try.prog 26 #[.slice a len cap] w (SomeTrip (fun x y z => -1 ≤ x ∧ x ≤ 4 ∧ 0 ≤ y ∧ y ≤ 4 ∧ 0 ≤ z ∧ z ≤ 5) (fun w' => Below W.heap.size W w')) := by
  have HN := Lib.hid (new W w a len cap hlen hcode hb)
  have HB := Lib.hid (fun (w : World) (p : Nat) (n : Int) (h1 : 1 ≤ n) (h2 : n ≤ 9223372036854775807) (hs : Stands W w p a len cap) => below W w p a len cap n h1 h2 hlen hcode hs)
  clear hcode
  go_enter Try.func26, Try.ntmps26
  go_wp2_with fail
  refine HN.out.mono ?_
  rintro e w1 ⟨p, rfl, hp, hg, hc⟩
  have hs := new_stands hb hp hg hc
  clear hg hc
  go_wp2_with fail
  refine (HB.out w1 p 6 (by decide) (by decide) hs).mono ?_
  rintro e w2 ⟨x, ⟨hx0, hx1⟩, rfl, hg2, hc2⟩
  have hs2 := hs.next hg2 hc2
  clear hg2 hc2
  go_wp2_with fail
  refine (HB.out w2 p 5 (by decide) (by decide) hs2).mono ?_
  rintro e w3 ⟨y, ⟨hy0, hy1⟩, rfl, hg3, hc3⟩
  have hs3 := hs2.next hg3 hc3
  clear hg3 hc3
  go_wp2_with fail
  refine (HB.out w3 p 6 (by decide) (by decide) hs3).mono ?_
  rintro e w4 ⟨z, ⟨hz0, hz1⟩, rfl, hg4, hc4⟩
  have hs4 := hs3.next hg4 hc4
  go_wp2
  go_ret3
  exact ⟨x - 1, y, z, ⟨by omega, by omega, by omega, by omega, by omega, by omega⟩, rfl, hs4.below⟩
/-- Two sequences of the call's own. -/
def TwoOk (w : World) (Q : World → Prop) (e : Ending) (w' : World) : Prop := ∃ v1 b1 rows1 out1 v2 b2 rows2 out2, SeqOk rows1 out1 ∧ SeqOk rows2 out2 ∧ e = .returned (.tuple #[v1, v2]) ∧ OwnS w' w.heap.size w'.heap.size v1 b1 rows1 out1 ∧ OwnS w' w.heap.size w'.heap.size v2 b2 rows2 out2 ∧ Q w'
set_option maxHeartbeats 4000000 in
theorem two5 (W w : World) (c : Nat) (a : Option Addr) (len cap : Nat) (hlen : len ≤ 1048576) (hcode : CodeIs W W.heap.size a len) (hs : Stands W w c a len cap) :
    Calls Try.prog 29 #[.pointer (some ⟨c, 0, none⟩)] w (TwoOk w (fun w' => w.grownBy w' (some c) ∧ CurIs w' c a len cap)) := by
  have HA := Lib.hid (fun (w : World) (hs : Stands W w c a len cap) => any3 W w c a len cap hlen hcode hs)
  have HO := Lib.hid (fun (w : World) (hs : Stands W w c a len cap) => once W w c a len cap 3 (by decide) (by decide) hlen hcode hs)
  have HBL := Lib.hid (fun (w : World) (hs : Stands W w c a len cap) => below W w c a len cap 3 (by decide) (by decide) hlen hcode hs)
  have HR := Lib.hid (fun (w : World) (b n : Int) (h1 : 1 ≤ b) (h2 : b ≤ 4) (h3 : 1 ≤ n) (h4 : n ≤ 16) (hs : Stands W w c a len cap) => randomI W w c a len cap b n h1 h2 h3 h4 hlen hcode hs)
  have hcw := hs.lt
  have hown := hs.own
  have HG0 : Hid (w.grownBy ((w.alloc (Obj.cells #[Value.int .i64 0, Value.slice none 0 0, Value.slice none 0 0] 27)).alloc (Obj.cells #[Value.int .i64 0, Value.slice none 0 0, Value.slice none 0 0] 27)) (some c)) := grown_new (grown_new (grown_self w c) _) _
  have HS0 := Lib.hid ((hs.alloc (Obj.cells #[Value.int .i64 0, Value.slice none 0 0, Value.slice none 0 0] 27)).alloc (Obj.cells #[Value.int .i64 0, Value.slice none 0 0, Value.slice none 0 0] 27))
  have HY0 := Lib.hid ((Cells3.new w 27 (.int .i64 0) (.slice none 0 0) (.slice none 0 0)).alloc (Obj.cells #[Value.int .i64 0, Value.slice none 0 0, Value.slice none 0 0] 27))
  have hz1 := Cells3.new (w.alloc (Obj.cells #[Value.int .i64 0, Value.slice none 0 0, Value.slice none 0 0] 27)) 27 (.int .i64 0) (.slice none 0 0) (.slice none 0 0)
  rw [size_alloc'] at hz1
  have HZ0 := Lib.hid hz1
  clear hcode hs hz1
  go_enter Try.func29, Try.ntmps29
  go_wp2_with fail
  refine (HA.out _ HS0.out).mono ?_
  rintro e w1 ⟨v, b, rows, out, hok, rfl, hv, g1, c1⟩
  obtain ⟨an, cn, ao, co, rfl⟩ := hv.form
  rw [size_alloc', size_alloc'] at hv
  have HOK := Lib.hid hok
  have hle1 : w.heap.size + 2 ≤ w1.heap.size := by have := g1.size; simp at this; omega
  have hv2 := hv.below ((Below.refl w1.heap.size w1).alloc (Nat.le_refl _) (Obj.cells #[Value.int .i64 b, .slice an rows.length cn, .slice ao out.length co] 27))
  have hg2 := grown_new (grown_more HG0.out g1 (fun k hk => .inl (Option.some.inj hk).symm)) (Obj.cells #[Value.int .i64 b, .slice an rows.length cn, .slice ao out.length co] 27)
  have hs2 := (HS0.out.next g1 c1).alloc (Obj.cells #[Value.int .i64 b, .slice an rows.length cn, .slice ao out.length co] 27)
  have hy2 := (HY0.out.grown g1 (by simp; omega)).alloc (Obj.cells #[Value.int .i64 b, .slice an rows.length cn, .slice ao out.length co] 27)
  have hz2 := (HZ0.out.grown g1 (by simp; omega)).alloc (Obj.cells #[Value.int .i64 b, .slice an rows.length cn, .slice ao out.length co] 27)
  have hx2 := Cells3.new w1 27 (.int .i64 b) (.slice an rows.length cn) (.slice ao out.length co)
  have HLO1 := Lib.hid hle1
  have HC1 : Hid (c < w.heap.size + 2) := by show c < _; omega
  obtain ⟨q, hq⟩ : ∃ q, q = w1.heap.size := ⟨_, rfl⟩
  obtain ⟨W2, hW2⟩ : ∃ W, W = w1.alloc (Obj.cells #[Value.int .i64 b, .slice an rows.length cn, .slice ao out.length co] 27) := ⟨_, rfl⟩
  have HQ := Lib.hid (show w.heap.size + 2 ≤ q ∧ W2.heap.size = q + 1 from by rw [hW2, size_alloc', hq]; omega)
  rw [← hW2] at hv2 hg2 hs2 hy2 hz2 hx2
  rw [← hq] at hx2 hv2
  clear hok hv g1 c1 HG0 HS0 HY0 HZ0
  have HS2 := Lib.hid hs2
  clear hs2
  go_wp2_with fail
  rw [← hW2, ← hq]
  clear hW2 hq
  refine (HO.out _ HS2.out).mono ?_
  rintro e W3 ⟨t, rfl, g3, c3⟩
  have HV3 := Lib.hid (own_moved hv2 g3 (by have := HC1.out; omega))
  have HG3 := Lib.hid (grown_more hg2 g3 (fun k hk => .inl (Option.some.inj hk).symm))
  have HS3 := Lib.hid (HS2.out.next g3 c3)
  have HY3 := Lib.hid (hy2.grown g3 (by simp; omega))
  have HZ3 := Lib.hid (hz2.grown g3 (by simp; omega))
  have HX3 := Lib.hid (hx2.grown g3 (by have := HQ.out; simp; omega))
  have HLE3 := Lib.hid (show w.heap.size + 2 ≤ W3.heap.size from by have := g3.size; have := HQ.out; omega)
  have hqc : c ≠ q := by have := HQ.out; omega
  have hyc : c ≠ w.heap.size := by omega
  have hzc : c ≠ w.heap.size + 1 := by omega
  clear hv2 hg2 HS2 hy2 hz2 hx2 g3 c3
  cases t with
  | true =>
    have HAI := Lib.hid (HA.out _ HS3.out.drew)
    have x0 := HX3.out.c0
    have x1 := HX3.out.c1
    have x2 := HX3.out.c2
    have y0 := HY3.out.c0
    have y1 := HY3.out.c1
    have y2 := HY3.out.c2
    have y3 := HY3.out.f
    have z0 := HZ3.out.c0
    have z1 := HZ3.out.c1
    have z2 := HZ3.out.c2
    have z3 := HZ3.out.f
    go_wp2_with fail
    go_region_law (first
      | (go_simp; go_at_call 45; (refine HAI.out.mono ?_); rintro e W5 ⟨v5, b5, rows5, out5, hok5, rfl, hv5, g5, c5⟩; obtain ⟨an5, cn5, ao5, co5, rfl⟩ := hv5.form; have G5 := Lib.hid (Plain.grown_drew g5); have HX5 := Lib.hid (HX3.out.grown G5.out (fun e => hqc (Option.some.inj e))); have HY5 := Lib.hid (HY3.out.grown G5.out (fun e => hyc (Option.some.inj e))); have HZ5 := Lib.hid (HZ3.out.grown G5.out (fun e => hzc (Option.some.inj e))); have x5 := HX5.out.c0; have x6 := HX5.out.c1; have x7 := HX5.out.c2; have y5 := HY5.out.c0; have y6 := HY5.out.c1; have y7 := HY5.out.c2; have y8 := HY5.out.f; have z5 := HZ5.out.c0; have z6 := HZ5.out.c1; have z7 := HZ5.out.c2; have z8 := HZ5.out.f))
    all_goals
      have HG5 := Lib.hid (grown_more HG3.out G5.out (fun k hk => .inl (Option.some.inj hk).symm))
      have HS5 := Lib.hid (HS3.out.drew.next g5 c5)
      have HCS : Hid True := trivial
      have HLO5 : Hid (w.heap.size + 2 ≤ W3.drew.heap.size) := HLE3.out
      clear g5 c5 x0 x1 x2 y0 y1 y2 y3 z0 z1 z2 z3 x5 x6 x7 y5 y6 y7 y8 z5 z6 z7 z8
      have hl1 : w.heap.size + 2 ≤ w1.heap.size := HLO1.out
      have hn1 : w.heap.size ≠ w.heap.size + 1 := by omega
      have hn2 : w.heap.size + 1 ≠ w.heap.size := by omega
      have HV5 := Lib.hid (own_moved HV3.out G5.out HC1.out)
      have HW5 := Lib.hid hv5
      have HOK5 := Lib.hid hok5
      have HY6 := Lib.hid ((((((HY5.out.set0 (.int .i64 b)).set1 (.slice an rows.length cn)).set2 (.slice ao out.length co)).other (a := ⟨w.heap.size + 1, 0, none⟩) hn2 (.int .i64 b5)).other (a := ⟨w.heap.size + 1, 1, none⟩) hn2 (.slice an5 rows5.length cn5)).other (a := ⟨w.heap.size + 1, 2, none⟩) hn2 (.slice ao5 out5.length co5))
      have HZ6 := Lib.hid ((((((HZ5.out.other (a := ⟨w.heap.size, 0, none⟩) hn1 (.int .i64 b)).other (a := ⟨w.heap.size, 1, none⟩) hn1 (.slice an rows.length cn)).other (a := ⟨w.heap.size, 2, none⟩) hn1 (.slice ao out.length co)).set0 (.int .i64 b5)).set1 (.slice an5 rows5.length cn5)).set2 (.slice ao5 out5.length co5))
      have T0 := Lib.hid ((((((Plain.Touch.of_set (lo := w.heap.size) (hi := w.heap.size + 2) (w := W5) (a := ⟨w.heap.size, 0, none⟩) (.int .i64 b) (by show w.heap.size ≤ w.heap.size; exact Nat.le_refl _) (by show w.heap.size < w.heap.size + 2; omega)).trans (Plain.Touch.of_set (a := ⟨w.heap.size, 1, none⟩) (.slice an rows.length cn) (by show w.heap.size ≤ w.heap.size; exact Nat.le_refl _) (by show w.heap.size < w.heap.size + 2; omega))).trans (Plain.Touch.of_set (a := ⟨w.heap.size, 2, none⟩) (.slice ao out.length co) (by show w.heap.size ≤ w.heap.size; exact Nat.le_refl _) (by show w.heap.size < w.heap.size + 2; omega))).trans (Plain.Touch.of_set (a := ⟨w.heap.size + 1, 0, none⟩) (.int .i64 b5) (by show w.heap.size ≤ w.heap.size + 1; omega) (by show w.heap.size + 1 < w.heap.size + 2; omega))).trans (Plain.Touch.of_set (a := ⟨w.heap.size + 1, 1, none⟩) (.slice an5 rows5.length cn5) (by show w.heap.size ≤ w.heap.size + 1; omega) (by show w.heap.size + 1 < w.heap.size + 2; omega))).trans (Plain.Touch.of_set (a := ⟨w.heap.size + 1, 2, none⟩) (.slice ao5 out5.length co5) (by show w.heap.size ≤ w.heap.size + 1; omega) (by show w.heap.size + 1 < w.heap.size + 2; omega)))
      have h0 := HY6.out.c0
      have h1 := HY6.out.c1
      have h2 := HY6.out.c2
      have h3 := HZ6.out.c0
      have h4 := HZ6.out.c1
      have h5 := HZ6.out.c2
      clear hok5 hv5
      go_wp2
      have hcs := HCS.out
      refine bodyPost_ret (v := .tuple #[.agg #[.int .i64 b, .slice an rows.length cn, .slice ao out.length co], (.agg #[.int .i64 b5, .slice an5 rows5.length cn5, .slice ao5 out5.length co5])]) (by simp [results, Try.results29, go_sem, h0, h1, h2, h3, h4, h5]) rfl ⟨_, b, _, _, _, b5, _, _, HOK.out, HOK5.out, rfl, (own_within (HV5.out.touch T0.out (.inr (by omega))) (by simp only [size_setCell']; exact HV5.out.le) (Nat.le_refl _)).lower (by omega), (own_within (HW5.out.touch T0.out (.inr HLO5.out)) (by simp only [size_setCell']; exact Nat.le_refl _) (Nat.le_refl _)).lower (by have := HLO5.out; omega), ?_, ?_⟩
      · exact grown_set (grown_set (grown_set (grown_set (grown_set (grown_set HG5.out (Nat.le_refl _) _) (Nat.le_refl _) _) (Nat.le_refl _) _) (Nat.le_succ _) _) (Nat.le_succ _) _) (Nat.le_succ _) _
      · have e1 : ∀ k, some w.heap.size = some k → k ≠ c ∧ W.heap.size ≤ k := fun k hk => by cases hk; exact ⟨by omega, by omega⟩
        have e2 : ∀ k, some (w.heap.size + 1) = some k → k ≠ c ∧ W.heap.size ≤ k := fun k hk => by cases hk; exact ⟨by omega, by omega⟩
        exact ((((((HS5.out.other (Cursor.grown_setCell _ w.heap.size 0 _) e1).other (Cursor.grown_setCell _ w.heap.size 1 _) e1).other (Cursor.grown_setCell _ w.heap.size 2 _) e1).other (Cursor.grown_setCell _ (w.heap.size + 1) 0 _) e2).other (Cursor.grown_setCell _ (w.heap.size + 1) 1 _) e2).other (Cursor.grown_setCell _ (w.heap.size + 1) 2 _) e2).cur
  | false =>
    have HBI := Lib.hid (HBL.out _ HS3.out.drew)
    have x0 := HX3.out.c0
    have x1 := HX3.out.c1
    have x2 := HX3.out.c2
    have y0 := HY3.out.c0
    have y1 := HY3.out.c1
    have y2 := HY3.out.c2
    have y3 := HY3.out.f
    have z0 := HZ3.out.c0
    have z1 := HZ3.out.c1
    have z2 := HZ3.out.c2
    have z3 := HZ3.out.f
    go_wp2_with fail
    go_region_law (first
      | (go_simp; go_at_call 30; (refine HBI.out.mono ?_); rintro e W4 ⟨y, ⟨hy0, hy1⟩, rfl, g4, c4⟩; have G4 := Lib.hid (Plain.grown_drew g4); have HX4 := Lib.hid (HX3.out.grown G4.out (fun e => hqc (Option.some.inj e))); have HY4 := Lib.hid (HY3.out.grown G4.out (fun e => hyc (Option.some.inj e))); have HZ4 := Lib.hid (HZ3.out.grown G4.out (fun e => hzc (Option.some.inj e))); have HS4 := Lib.hid (HS3.out.drew.next g4 c4); have k0 := HX4.out.c0; have k1 := HX4.out.c1; have k2 := HX4.out.c2; have hwr : IntKind.i64.wrap (1 + y) = 1 + y := by rw [IntKind.wrap_i64]; omega)
      | (go_simp; go_at_call 55; (try rw [hwr]); (with_reducible refine (HR.out _ (max 2 (min 4 b)) (1 + y) (by omega) (by omega) (by omega) (by omega) HS4.out).mono ?_); rintro e W5 ⟨v5, b5, rows5, out5, hok5, rfl, hv5, g5, c5⟩; obtain ⟨an5, cn5, ao5, co5, rfl⟩ := hv5.form; have G5 := Lib.hid (grown_more' G4.out g5); have HX5 := Lib.hid (HX3.out.grown G5.out (fun e => hqc (Option.some.inj e))); have HY5 := Lib.hid (HY3.out.grown G5.out (fun e => hyc (Option.some.inj e))); have HZ5 := Lib.hid (HZ3.out.grown G5.out (fun e => hzc (Option.some.inj e))); have x5 := HX5.out.c0; have x6 := HX5.out.c1; have x7 := HX5.out.c2; have y5 := HY5.out.c0; have y6 := HY5.out.c1; have y7 := HY5.out.c2; have y8 := HY5.out.f; have z5 := HZ5.out.c0; have z6 := HZ5.out.c1; have z7 := HZ5.out.c2; have z8 := HZ5.out.f))
    all_goals
      have HG5 := Lib.hid (grown_more HG3.out G5.out (fun k hk => .inl (Option.some.inj hk).symm))
      have HS5 := Lib.hid (HS4.out.next g5 c5)
      have HCS : Hid True := trivial
      have HLO5 : Hid (w.heap.size + 2 ≤ W4.heap.size) := Nat.le_trans HLE3.out G4.out.size
      clear g4 c4 g5 c5 k0 k1 k2 x0 x1 x2 y0 y1 y2 y3 z0 z1 z2 z3 x5 x6 x7 y5 y6 y7 y8 z5 z6 z7 z8
      have hl1 : w.heap.size + 2 ≤ w1.heap.size := HLO1.out
      have hn1 : w.heap.size ≠ w.heap.size + 1 := by omega
      have hn2 : w.heap.size + 1 ≠ w.heap.size := by omega
      have HV5 := Lib.hid (own_moved HV3.out G5.out HC1.out)
      have HW5 := Lib.hid hv5
      have HOK5 := Lib.hid hok5
      have HY6 := Lib.hid ((((((HY5.out.set0 (.int .i64 b)).set1 (.slice an rows.length cn)).set2 (.slice ao out.length co)).other (a := ⟨w.heap.size + 1, 0, none⟩) hn2 (.int .i64 b5)).other (a := ⟨w.heap.size + 1, 1, none⟩) hn2 (.slice an5 rows5.length cn5)).other (a := ⟨w.heap.size + 1, 2, none⟩) hn2 (.slice ao5 out5.length co5))
      have HZ6 := Lib.hid ((((((HZ5.out.other (a := ⟨w.heap.size, 0, none⟩) hn1 (.int .i64 b)).other (a := ⟨w.heap.size, 1, none⟩) hn1 (.slice an rows.length cn)).other (a := ⟨w.heap.size, 2, none⟩) hn1 (.slice ao out.length co)).set0 (.int .i64 b5)).set1 (.slice an5 rows5.length cn5)).set2 (.slice ao5 out5.length co5))
      have T0 := Lib.hid ((((((Plain.Touch.of_set (lo := w.heap.size) (hi := w.heap.size + 2) (w := W5) (a := ⟨w.heap.size, 0, none⟩) (.int .i64 b) (by show w.heap.size ≤ w.heap.size; exact Nat.le_refl _) (by show w.heap.size < w.heap.size + 2; omega)).trans (Plain.Touch.of_set (a := ⟨w.heap.size, 1, none⟩) (.slice an rows.length cn) (by show w.heap.size ≤ w.heap.size; exact Nat.le_refl _) (by show w.heap.size < w.heap.size + 2; omega))).trans (Plain.Touch.of_set (a := ⟨w.heap.size, 2, none⟩) (.slice ao out.length co) (by show w.heap.size ≤ w.heap.size; exact Nat.le_refl _) (by show w.heap.size < w.heap.size + 2; omega))).trans (Plain.Touch.of_set (a := ⟨w.heap.size + 1, 0, none⟩) (.int .i64 b5) (by show w.heap.size ≤ w.heap.size + 1; omega) (by show w.heap.size + 1 < w.heap.size + 2; omega))).trans (Plain.Touch.of_set (a := ⟨w.heap.size + 1, 1, none⟩) (.slice an5 rows5.length cn5) (by show w.heap.size ≤ w.heap.size + 1; omega) (by show w.heap.size + 1 < w.heap.size + 2; omega))).trans (Plain.Touch.of_set (a := ⟨w.heap.size + 1, 2, none⟩) (.slice ao5 out5.length co5) (by show w.heap.size ≤ w.heap.size + 1; omega) (by show w.heap.size + 1 < w.heap.size + 2; omega)))
      have h0 := HY6.out.c0
      have h1 := HY6.out.c1
      have h2 := HY6.out.c2
      have h3 := HZ6.out.c0
      have h4 := HZ6.out.c1
      have h5 := HZ6.out.c2
      clear hok5 hv5
      go_wp2
      have hcs := HCS.out
      refine bodyPost_ret (v := .tuple #[.agg #[.int .i64 b, .slice an rows.length cn, .slice ao out.length co], (.agg #[.int .i64 b5, .slice an5 rows5.length cn5, .slice ao5 out5.length co5])]) (by simp [results, Try.results29, go_sem, h0, h1, h2, h3, h4, h5]) rfl ⟨_, b, _, _, _, b5, _, _, HOK.out, HOK5.out, rfl, (own_within (HV5.out.touch T0.out (.inr (by omega))) (by simp only [size_setCell']; exact HV5.out.le) (Nat.le_refl _)).lower (by omega), (own_within (HW5.out.touch T0.out (.inr HLO5.out)) (by simp only [size_setCell']; exact Nat.le_refl _) (Nat.le_refl _)).lower (by have := HLO5.out; omega), ?_, ?_⟩
      · exact grown_set (grown_set (grown_set (grown_set (grown_set (grown_set HG5.out (Nat.le_refl _) _) (Nat.le_refl _) _) (Nat.le_refl _) _) (Nat.le_succ _) _) (Nat.le_succ _) _) (Nat.le_succ _) _
      · have e1 : ∀ k, some w.heap.size = some k → k ≠ c ∧ W.heap.size ≤ k := fun k hk => by cases hk; exact ⟨by omega, by omega⟩
        have e2 : ∀ k, some (w.heap.size + 1) = some k → k ≠ c ∧ W.heap.size ≤ k := fun k hk => by cases hk; exact ⟨by omega, by omega⟩
        exact ((((((HS5.out.other (Cursor.grown_setCell _ w.heap.size 0 _) e1).other (Cursor.grown_setCell _ w.heap.size 1 _) e1).other (Cursor.grown_setCell _ w.heap.size 2 _) e1).other (Cursor.grown_setCell _ (w.heap.size + 1) 0 _) e2).other (Cursor.grown_setCell _ (w.heap.size + 1) 1 _) e2).other (Cursor.grown_setCell _ (w.heap.size + 1) 2 _) e2).cur
def TwoNum (w : World) (e : Ending) (w' : World) : Prop := ∃ v1 b1 rows1 out1 v2 b2 rows2 out2 n, SeqOk rows1 out1 ∧ SeqOk rows2 out2 ∧ (0 ≤ n ∧ n ≤ 5) ∧ e = .returned (.tuple #[v1, v2, .int .i64 n]) ∧ OwnS w' w.heap.size w'.heap.size v1 b1 rows1 out1 ∧ OwnS w' w.heap.size w'.heap.size v2 b2 rows2 out2 ∧ Below w.heap.size w w'
set_option maxHeartbeats 4000000 in
theorem drawCombT (w : World) (a : Option Addr) (len cap : Nat) (hlen : len ≤ 1048576) (hcode : CodeIs w w.heap.size a len) :
    Calls Try.prog 5 #[.slice a len cap] w (TwoNum w) := by
  have hb1 : Below w.heap.size w ((w.alloc (Obj.cells #[Value.int .i64 0, Value.slice none 0 0, Value.slice none 0 0] 27)).alloc (Obj.cells #[Value.int .i64 0, Value.slice none 0 0, Value.slice none 0 0] 27)) := ((Below.refl _ _).alloc (Nat.le_refl _) _).alloc (by simp only [size_alloc'] <;> omega) _
  have HN := Lib.hid (new w ((w.alloc (Obj.cells #[Value.int .i64 0, Value.slice none 0 0, Value.slice none 0 0] 27)).alloc (Obj.cells #[Value.int .i64 0, Value.slice none 0 0, Value.slice none 0 0] 27)) a len cap hlen hcode hb1)
  have HT := Lib.hid (fun (W : World) (c : Nat) (hs : Stands w W c a len cap) => two5 w W c a len cap hlen hcode hs)
  have HBL := Lib.hid (fun (W : World) (c : Nat) (hs : Stands w W c a len cap) => below w W c a len cap 6 (by decide) (by decide) hlen hcode hs)
  have HB1 := Lib.hid hb1
  have HY1 := Lib.hid ((Cells3.new w 27 (.int .i64 0) (.slice none 0 0) (.slice none 0 0)).alloc (Obj.cells #[Value.int .i64 0, Value.slice none 0 0, Value.slice none 0 0] 27))
  have hz1 := Cells3.new (w.alloc (Obj.cells #[Value.int .i64 0, Value.slice none 0 0, Value.slice none 0 0] 27)) 27 (.int .i64 0) (.slice none 0 0) (.slice none 0 0)
  rw [size_alloc'] at hz1
  have HZ1 := Lib.hid hz1
  clear hcode hb1 hz1
  go_enter Try.func5, Try.ntmps5
  go_wp2_with fail
  refine HN.out.mono ?_
  rintro e w1 ⟨c, rfl, hc, g1, c1⟩
  rw [size_alloc', size_alloc'] at hc
  have HS1 : Hid (Stands w w1 c a len cap) := ⟨HB1.out.trans ((Below.refl _ _).grown g1 (Nat.le_refl _) (fun k hk => by cases hk) |>.mono HB1.out.size), by omega, c1⟩
  have HY2 := Lib.hid (HY1.out.grown g1 (by simp))
  have HZ2 := Lib.hid (HZ1.out.grown g1 (by simp))
  have hcw : w.heap.size + 2 ≤ c := hc
  clear HN HB1 HZ1 HY1 g1 c1 hc
  go_wp2_with fail
  refine (HT.out _ _ HS1.out).mono ?_
  rintro e w4 ⟨v, b, rows, out, v5, b5, rows5, out5, hok, hok5, rfl, hv, hv5, g4, c4⟩
  obtain ⟨an, cn, ao, co, rfl⟩ := hv.form
  obtain ⟨an5, cn5, ao5, co5, rfl⟩ := hv5.form
  have HOK := Lib.hid hok
  have HOK5 := Lib.hid hok5
  have hlo : w.heap.size + 2 ≤ w1.heap.size := HZ2.out.lt
  have hc1 : c < w1.heap.size := HS1.out.lt
  have hle : w1.heap.size ≤ w4.heap.size := g4.size
  have hs5 := ((HS1.out.next g4 c4).alloc (Obj.cells #[Value.int .i64 b, .slice an rows.length cn, .slice ao out.length co] 27)).alloc (Obj.cells #[Value.int .i64 b5, Value.slice an5 rows5.length cn5, Value.slice ao5 out5.length co5] 27)
  have hy5 := ((HY2.out.grown g4 (by simp; omega)).alloc (Obj.cells #[Value.int .i64 b, .slice an rows.length cn, .slice ao out.length co] 27)).alloc (Obj.cells #[Value.int .i64 b5, Value.slice an5 rows5.length cn5, Value.slice ao5 out5.length co5] 27)
  have hz5 := ((HZ2.out.grown g4 (by simp; omega)).alloc (Obj.cells #[Value.int .i64 b, .slice an rows.length cn, .slice ao out.length co] 27)).alloc (Obj.cells #[Value.int .i64 b5, Value.slice an5 rows5.length cn5, Value.slice ao5 out5.length co5] 27)
  have hbx : Below w4.heap.size w4 ((w4.alloc (Obj.cells #[Value.int .i64 b, .slice an rows.length cn, .slice ao out.length co] 27)).alloc (Obj.cells #[Value.int .i64 b5, Value.slice an5 rows5.length cn5, Value.slice ao5 out5.length co5] 27)) := ((Below.refl _ _).alloc (Nat.le_refl _) _).alloc (by simp only [size_alloc'] <;> omega) _
  have hv6 := hv.below hbx
  have hv7 := hv5.below hbx
  have hx5 := (Cells3.new w4 27 (.int .i64 b) (.slice an rows.length cn) (.slice ao out.length co)).alloc (Obj.cells #[Value.int .i64 b5, Value.slice an5 rows5.length cn5, Value.slice ao5 out5.length co5] 27)
  have hu5 := Cells3.new (w4.alloc (Obj.cells #[Value.int .i64 b, .slice an rows.length cn, .slice ao out.length co] 27)) 27 (.int .i64 b5) (.slice an5 rows5.length cn5) (.slice ao5 out5.length co5)
  rw [size_alloc'] at hu5
  obtain ⟨q, hq⟩ : ∃ q, q = w4.heap.size := ⟨_, rfl⟩
  obtain ⟨W5, hW5⟩ : ∃ W, W = (w4.alloc (Obj.cells #[Value.int .i64 b, .slice an rows.length cn, .slice ao out.length co] 27)).alloc (Obj.cells #[Value.int .i64 b5, Value.slice an5 rows5.length cn5, Value.slice ao5 out5.length co5] 27) := ⟨_, rfl⟩
  have hsz : W5.heap.size = q + 2 := by rw [hW5, size_alloc', size_alloc', hq]
  rw [← hW5] at hs5 hy5 hz5 hv6 hv7 hx5 hu5
  rw [← hq] at hx5 hu5 hle hv6 hv7
  have HS5 := Lib.hid hs5
  have HY5 := Lib.hid hy5
  have HZ5 := Lib.hid hz5
  have HV6 := Lib.hid hv6
  have HV7 := Lib.hid hv7
  have HX5 := Lib.hid hx5
  have HU5 := Lib.hid hu5
  clear hok hok5 hv hv5 g4 c4 HS1 HY2 HZ2 hs5 hy5 hz5 hv6 hv7 hx5 hu5 hbx HT
  have HCI := Lib.hid (HBL.out _ _ HS5.out.drew)
  have d0 := HX5.out.c0
  have d1 := HX5.out.c1
  have d2 := HX5.out.c2
  have d3 := HU5.out.c0
  have d4 := HU5.out.c1
  have d5 := HU5.out.c2
  have y0 := HY5.out.c0
  have y1 := HY5.out.c1
  have y2 := HY5.out.c2
  have z0 := HZ5.out.c0
  have z1 := HZ5.out.c1
  have z2 := HZ5.out.c2
  go_wp2_with fail
  rw [← hW5, ← hq]
  clear hW5 hq
  go_region_law (first
    | (go_simp; go_at_call 30; (refine HCI.out.mono ?_); rintro e W6 ⟨y, hy, rfl, g6, c6⟩; have G6 := Lib.hid (Plain.grown_drew g6); have HX6 := Lib.hid (HX5.out.grown G6.out (by simp; omega)); have HU6 := Lib.hid (HU5.out.grown G6.out (by simp; omega)); have HY6 := Lib.hid (HY5.out.grown G6.out (by simp; omega)); have HZ6 := Lib.hid (HZ5.out.grown G6.out (by simp; omega)); have e0 := HX6.out.c0; have e1 := HX6.out.c1; have e2 := HX6.out.c2; have e3 := HU6.out.c0; have e4 := HU6.out.c1; have e5 := HU6.out.c2; have u0 := HY6.out.c0; have u1 := HY6.out.c1; have u2 := HY6.out.c2; have u3 := HY6.out.f; have r0 := HZ6.out.c0; have r1 := HZ6.out.c1; have r2 := HZ6.out.c2; have r3 := HZ6.out.f))
  all_goals
    have hbw := (HS5.out.drew.next g6 c6).below
    have hy' : 0 ≤ y ∧ y ≤ 5 := ⟨hy.1, by have := hy.2; omega⟩
    have hn1 : w.heap.size ≠ w.heap.size + 1 := by omega
    have hn2 : w.heap.size + 1 ≠ w.heap.size := by omega
    have hw6 := own_moved HV6.out G6.out hc1
    have hw7 := own_moved HV7.out G6.out hc1
    have HY7 := Lib.hid ((((((HY6.out.set0 (.int .i64 b)).set1 (.slice an rows.length cn)).set2 (.slice ao out.length co)).other (a := ⟨w.heap.size + 1, 0, none⟩) hn2 (.int .i64 b5)).other (a := ⟨w.heap.size + 1, 1, none⟩) hn2 (.slice an5 rows5.length cn5)).other (a := ⟨w.heap.size + 1, 2, none⟩) hn2 (.slice ao5 out5.length co5))
    have HZ7 := Lib.hid ((((((HZ6.out.other (a := ⟨w.heap.size, 0, none⟩) hn1 (.int .i64 b)).other (a := ⟨w.heap.size, 1, none⟩) hn1 (.slice an rows.length cn)).other (a := ⟨w.heap.size, 2, none⟩) hn1 (.slice ao out.length co)).set0 (.int .i64 b5)).set1 (.slice an5 rows5.length cn5)).set2 (.slice ao5 out5.length co5))
    have T0 := Lib.hid ((((((Plain.Touch.of_set (lo := w.heap.size) (hi := w.heap.size + 2) (w := W6) (a := ⟨w.heap.size, 0, none⟩) (.int .i64 b) (by show w.heap.size ≤ w.heap.size; exact Nat.le_refl _) (by show w.heap.size < w.heap.size + 2; omega)).trans (Plain.Touch.of_set (a := ⟨w.heap.size, 1, none⟩) (.slice an rows.length cn) (by show w.heap.size ≤ w.heap.size; exact Nat.le_refl _) (by show w.heap.size < w.heap.size + 2; omega))).trans (Plain.Touch.of_set (a := ⟨w.heap.size, 2, none⟩) (.slice ao out.length co) (by show w.heap.size ≤ w.heap.size; exact Nat.le_refl _) (by show w.heap.size < w.heap.size + 2; omega))).trans (Plain.Touch.of_set (a := ⟨w.heap.size + 1, 0, none⟩) (.int .i64 b5) (by show w.heap.size ≤ w.heap.size + 1; omega) (by show w.heap.size + 1 < w.heap.size + 2; omega))).trans (Plain.Touch.of_set (a := ⟨w.heap.size + 1, 1, none⟩) (.slice an5 rows5.length cn5) (by show w.heap.size ≤ w.heap.size + 1; omega) (by show w.heap.size + 1 < w.heap.size + 2; omega))).trans (Plain.Touch.of_set (a := ⟨w.heap.size + 1, 2, none⟩) (.slice ao5 out5.length co5) (by show w.heap.size ≤ w.heap.size + 1; omega) (by show w.heap.size + 1 < w.heap.size + 2; omega)))
    have h0 := HY7.out.c0
    have h1 := HY7.out.c1
    have h2 := HY7.out.c2
    have h3 := HZ7.out.c0
    have h4 := HZ7.out.c1
    have h5 := HZ7.out.c2
    have h9 := G6.out.size
    clear d0 d1 d2 d3 d4 d5 y0 y1 y2 z0 z1 z2 e0 e1 e2 e3 e4 e5
    go_wp2
    refine bodyPost_ret (v := .tuple #[.agg #[.int .i64 b, .slice an rows.length cn, .slice ao out.length co], (.agg #[.int .i64 b5, .slice an5 rows5.length cn5, .slice ao5 out5.length co5]), .int .i64 y]) (by simp [results, Try.results5, go_sem, h0, h1, h2, h3, h4, h5]) rfl ⟨_, b, _, _, _, b5, _, _, y, HOK.out, HOK5.out, hy', rfl, ?_, ?_, ?_⟩
    · exact (own_within (hw6.touch T0.out (.inr hlo)) (by simp only [size_setCell']; omega) (Nat.le_refl _)).lower (by omega)
    · exact (own_within (hw7.touch T0.out (.inr hlo)) (by simp only [size_setCell']; omega) (Nat.le_refl _)).lower (by omega)
    · exact (((((hbw.setCell (Nat.le_refl _) _).setCell (Nat.le_refl _) _).setCell (Nat.le_refl _) _).setCell (Nat.le_succ _) _).setCell (Nat.le_succ _) _).setCell (Nat.le_succ _) _
end Cursor
end Go.Proofs.Ytodnkkofammhbaa
/- The draw of a sequence and a table for the law on combinations. No conditions beyond those that it states. -/
namespace Go.Proofs.Ytodnkkofammhbaa
open Go.ChangeShapes Go.WideShapes Go.ChangeAt Go.RowKit
open Go.PlainAid Plain
set_option linter.unusedVariables false
namespace Cursor
open Ints Digits
/-- A sequence and a table of two to four numbers. -/
def SeqTab (w : World) (e : Ending) (w' : World) : Prop := ∃ v b rows out tv tab base, SeqOk rows out ∧ 2 ≤ tab.length ∧ tab.length ≤ 4 ∧ e = .returned (.tuple #[v, tv]) ∧ OwnS w' w.heap.size w'.heap.size v b rows out ∧ Has (Value.int .i64) 3 w' base tv tab ∧ Below w.heap.size w w'
set_option maxHeartbeats 1000000 in
theorem drawMap (w : World) (a : Option Addr) (len cap : Nat) (hlen : len ≤ 1048576) (hcode : CodeIs w w.heap.size a len) :
    Calls Try.prog 20 #[.slice a len cap] w (SeqTab w) := by
  obtain ⟨i0, hi0, hz0, hz1, hz2⟩ := info_parts Ints.infoI
  have hb1 : Below w.heap.size w (w.alloc (Obj.cells #[Value.int .i64 0, Value.slice none 0 0, Value.slice none 0 0] 27)) := (Below.refl _ _).alloc (Nat.le_refl _) _
  have HN := Lib.hid (new w (w.alloc (Obj.cells #[Value.int .i64 0, Value.slice none 0 0, Value.slice none 0 0] 27)) a len cap hlen hcode hb1)
  have HA := Lib.hid (fun (W : World) (c : Nat) (hs : Stands w W c a len cap) => any3 w W c a len cap hlen hcode hs)
  have HBL := Lib.hid (fun (W : World) (c : Nat) (n : Int) (hn0 : 1 ≤ n) (hn1 : n ≤ 9223372036854775807) (hs : Stands w W c a len cap) => below w W c a len cap n hn0 hn1 hlen hcode hs)
  have HO := Lib.hid (fun (W : World) (c : Nat) (hs : Stands w W c a len cap) => once w W c a len cap 12 (by decide) (by decide) hlen hcode hs)
  have HP := Lib.hid (fun (W : World) (p : Nat) (q : Nat) (hq : q ≠ p) (hqs : q < W.heap.size) (hl : ListIs W q 2) (hs : Stands w W p a len cap) => pickInt w W p a len cap q 2 2 (by decide) (by decide) hq hqs hl hlen hcode hs)
  have HB1 := Lib.hid hb1
  have HZ1 := Lib.hid (Cells3.new w 27 (.int .i64 0) (.slice none 0 0) (.slice none 0 0))
  clear hcode hb1
  go_enter Try.func20, Try.ntmps20
  go_wp2_with fail
  refine HN.out.mono ?_
  rintro e w1 ⟨c, rfl, hc, g1, c1⟩
  rw [size_alloc'] at hc
  have HS1 : Hid (Stands w w1 c a len cap) := ⟨HB1.out.trans ((Below.refl _ _).grown g1 (Nat.le_refl _) (fun k hk => by cases hk) |>.mono HB1.out.size), by omega, c1⟩
  have HZ2 := Lib.hid (HZ1.out.grown g1 (by simp))
  have hcw : w.heap.size + 1 ≤ c := hc
  clear HN HB1 HZ1 g1 c1 hc
  go_wp2_with fail
  refine (HA.out _ _ HS1.out).mono ?_
  rintro e w4 ⟨v, b, rows, out, hok, rfl, hv, g4, c4⟩
  obtain ⟨an, cn, ao, co, rfl⟩ := hv.form
  have HOK := Lib.hid hok
  have hlo : w.heap.size + 1 ≤ w1.heap.size := HZ2.out.lt
  have hc1 : c < w1.heap.size := HS1.out.lt
  have hle : w1.heap.size ≤ w4.heap.size := g4.size
  have hs5 := ((HS1.out.next g4 c4).alloc (Obj.cells #[Value.int .i64 b, .slice an rows.length cn, .slice ao out.length co] 27)).alloc (.cells #[] 3)
  have hz5 := ((HZ2.out.grown g4 (by simp; omega)).alloc (Obj.cells #[Value.int .i64 b, .slice an rows.length cn, .slice ao out.length co] 27)).alloc (.cells #[] 3)
  have hbx : Below w4.heap.size w4 ((w4.alloc (Obj.cells #[Value.int .i64 b, .slice an rows.length cn, .slice ao out.length co] 27)).alloc (.cells #[] 3)) := ((Below.refl _ _).alloc (Nat.le_refl _) _).alloc (by simp only [size_alloc'] <;> omega) _
  have hv5 := hv.below hbx
  have hx5 := (Cells3.new w4 27 (.int .i64 b) (.slice an rows.length cn) (.slice ao out.length co)).alloc (.cells #[] 3)
  have ht5 : Has (Value.int .i64) 3 ((w4.alloc (Obj.cells #[Value.int .i64 b, .slice an rows.length cn, .slice ao out.length co] 27)).alloc (.cells #[] 3)) (w4.heap.size + 1) (.slice (some ⟨w4.heap.size + 1, 0, none⟩) 0 0) [] := has_lit0 (by rw [size_alloc']) (Nat.le_refl _)
  obtain ⟨q, hq⟩ : ∃ q, q = w4.heap.size := ⟨_, rfl⟩
  obtain ⟨W5, hW5⟩ : ∃ W, W = (w4.alloc (Obj.cells #[Value.int .i64 b, .slice an rows.length cn, .slice ao out.length co] 27)).alloc (.cells #[] 3) := ⟨_, rfl⟩
  have hsz : W5.heap.size = q + 2 := by rw [hW5, size_alloc', size_alloc', hq]
  rw [← hW5] at hs5 hz5 hv5 hx5 ht5
  rw [← hq] at hx5 hle hv5 ht5
  have HS5 := Lib.hid hs5
  have HZ5 := Lib.hid hz5
  have HV5 := Lib.hid hv5
  have HX5 := Lib.hid hx5
  have HT5 := Lib.hid ht5
  have HNUM := Lib.hid (show w.heap.size + 1 ≤ c ∧ c < w1.heap.size ∧ w1.heap.size ≤ q ∧ q + 1 ≤ W5.heap.size from ⟨hcw, hc1, hle, by omega⟩)
  clear hok hv g4 c4 HS1 HZ2 hs5 hz5 hv5 hx5 ht5 hbx HA hcw hc1 hle hlo
  go_wp2_with fail
  rw [← hW5, ← hq]
  clear hW5 hq hsz
  go_loopw [6, 7] (fun t i wr => ∃ (n : Nat) (tab : List Int), n ≤ 4 ∧ i = .int .i64 n ∧ tab.length = n ∧ Hid (Has (Value.int .i64) 3 wr (q + 1) t tab) ∧ Hid (Stands w wr c a len cap) ∧ Hid (Cells3 wr w.heap.size 27 (.int .i64 0) (.slice none 0 0) (.slice none 0 0)) ∧ Hid (OwnS wr w1.heap.size q (.agg #[.int .i64 b, .slice an rows.length cn, .slice ao out.length co]) b rows out) ∧ Hid (Cells3 wr q 27 (.int .i64 b) (.slice an rows.length cn) (.slice ao out.length co)) ∧ Hid (q + 1 ≤ wr.heap.size)) (fun t i _ => 5 - (intOf i).toNat)
  case atStart => exact ⟨0, [], Nat.zero_le _, rfl, rfl, HT5, HS5, HZ5, HV5, HX5, HNUM.out.2.2.2⟩
  case round =>
    clear HT5 HS5 HZ5 HV5 HX5
    obtain ⟨n, tab, hn, rfl, hl, hT, hS, hZ, hV, hX, hQ⟩ := hrel
    subst hl
    obtain ⟨W6, rfl⟩ : ∃ W : World, W = wr := ⟨_, rfl⟩
    obtain ⟨ta, tc, rfl, _⟩ := hT.out.form
    go_wp2_with fail
    refine (HBL.out _ _ 3 (by decide) (by decide) hS.out).mono ?_
    rintro e W7 ⟨x, ⟨hx0, hx1⟩, rfl, g7, c7⟩
    have HT7 := Lib.hid (Has.moved (hT.out) g7 (by have := HNUM.out; omega))
    have HS7 := Lib.hid ((hS.out).next g7 c7)
    have HZ7 := Lib.hid ((hZ.out).grown g7 (by have := HNUM.out; simp; omega))
    have HV7 := Lib.hid (own_moved (hV.out) g7 (by have := HNUM.out; omega))
    have HX7 := Lib.hid ((hX.out).grown g7 (by have := HNUM.out; simp; omega))
    have HQ7 := Lib.hid (Nat.le_trans (hQ.out) g7.size)
    clear hT hS hZ hV hX hQ g7 c7
    by_cases hlt : (tab.length : Int) < 2 + x
    case pos =>
      go_wp2_with fail
      refine (HBL.out _ _ 4 (by decide) (by decide) HS7.out).mono ?_
      rintro e W8 ⟨y, ⟨hy0, hy1⟩, rfl, g8, c8⟩
      have HT8 := Lib.hid (Has.moved (HT7.out) g8 (by have := HNUM.out; omega))
      have HS8 := Lib.hid ((HS7.out).next g8 c8)
      have HZ8 := Lib.hid ((HZ7.out).grown g8 (by have := HNUM.out; simp; omega))
      have HV8 := Lib.hid (own_moved (HV7.out) g8 (by have := HNUM.out; omega))
      have HX8 := Lib.hid ((HX7.out).grown g8 (by have := HNUM.out; simp; omega))
      have HQ8 := Lib.hid (Nat.le_trans (HQ7.out) g8.size)
      clear HT7 HS7 HZ7 HV7 HX7 HQ7 g8 c8
      go_wp2_with (at_builtin; refine wpList_append_list (enc := Value.int .i64) (e := 3) rfl (.tmp 20) (.tmp 23) 25 rfl (q + 1) i0 (.int .i64 0) 8 Try.underlying25 hi0 hz0 hz1 hz2 rfl (.slice ta tab.length tc) tab rfl (has_alloc HT8.out _) (.slice (some ⟨W8.heap.size, 0, none⟩) 1 1) [y] rfl (lies_lit1 (enc := Value.int .i64) _ rfl) (fun _ _ => rfl) (by simp only [List.length_cons, List.length_nil]; omega) (by simp only [List.length_cons, List.length_nil]; omega) (by have := HQ8.out; simp; omega) ?_; intro v9 w9 hv9 hg9 hb9; have hg9' := grown_alloc hg9)
      have HS9 := Lib.hid (HS8.out.other hg9' (fun k hk => by have := (HT8.out.lt k hk).1; have := HNUM.out; omega))
      have HZ9 := Lib.hid (HZ8.out.grown hg9' (has_ne_c3 HT8.out HZ8.out (by decide)))
      have HX9 := Lib.hid (HX8.out.grown hg9' (has_ne_c3 HT8.out HX8.out (by decide)))
      have T9 : Plain.Touch (q + 1) W8.heap.size W8 w9 := Plain.Touch.of_wrote (Plain.Wrote.of_grown hg9') fun x hx k hk => by
        obtain rfl : x = _ := by simpa using hx
        exact HT8.out.lt k hk
      have HV9 := Lib.hid (HV8.out.touch T9 (.inl (Nat.le_succ _)))
      have HQ9 := Lib.hid (Nat.le_trans HQ8.out hg9'.size)
      have HT9 := Lib.hid hv9
      clear HT8 HS8 HZ8 HV8 HX8 HQ8 T9 hv9 hg9 hb9 hg9'
      go_wp2
      go_roundw
      case rel => exact ⟨tab.length + 1, tab ++ [y], by omega, by go_num, by simp, HT9, HS9, HZ9, HV9, HX9, HQ9⟩
      case measure => simp [intOf]; omega
    case neg =>
      go_wp2_with fail
      refine (HO.out _ _ HS7.out).mono ?_
      rintro e W8 ⟨t, rfl, g8, c8⟩
      have HT8 := Lib.hid (Has.moved (HT7.out) g8 (by have := HNUM.out; omega))
      have HS8 := Lib.hid ((HS7.out).next g8 c8)
      have HZ8 := Lib.hid ((HZ7.out).grown g8 (by have := HNUM.out; simp; omega))
      have HV8 := Lib.hid (own_moved (HV7.out) g8 (by have := HNUM.out; omega))
      have HX8 := Lib.hid ((HX7.out).grown g8 (by have := HNUM.out; simp; omega))
      have HQ8 := Lib.hid (Nat.le_trans (HQ7.out) g8.size)
      clear HT7 HS7 HZ7 HV7 HX7 HQ7 g8 c8
      have hl2 : 2 ≤ tab.length := by omega
      cases t with
      | false =>
        have x0 := HX8.out.c0
        have x1 := HX8.out.c1
        have x2 := HX8.out.c2
        have z0 := HZ8.out.c0
        have z1 := HZ8.out.c1
        have z2 := HZ8.out.c2
        have z3 := HZ8.out.f
        have hnum := HNUM.out
        have hlo : w.heap.size + 1 ≤ w1.heap.size := by omega
        have hbw := HS8.out.below
        have hqz : w.heap.size < q + 1 := by omega
        go_wp2
        have hZ9 := (((HZ8.out.set0 (.int .i64 b)).set1 (.slice an rows.length cn)).set2 (.slice ao out.length co))
        have n0 := hZ9.c0
        have n1 := hZ9.c1
        have n2 := hZ9.c2
        refine bodyPost_ret (v := .tuple #[(.agg #[.int .i64 b, .slice an rows.length cn, .slice ao out.length co]), .slice ta tab.length tc]) (by simp [results, Try.results20, go_sem, n0, n1, n2]) rfl ⟨_, b, _, _, _, tab, q + 1, HOK.out, by (try simp only [List.length_set]); omega, by (try simp only [List.length_set]); omega, rfl, ?_, ?_, ?_⟩
        · have T0 : Plain.Touch w.heap.size (w.heap.size + 1) W8 (((W8.setCell ⟨w.heap.size, 0, none⟩ (.int .i64 b)).setCell ⟨w.heap.size, 1, none⟩ (.slice an rows.length cn)).setCell ⟨w.heap.size, 2, none⟩ (.slice ao out.length co)) :=
            ((Plain.Touch.of_set _ (by show w.heap.size ≤ w.heap.size; exact Nat.le_refl _) (by show w.heap.size < w.heap.size + 1; omega)).trans (Plain.Touch.of_set _ (by show w.heap.size ≤ w.heap.size; exact Nat.le_refl _) (by show w.heap.size < w.heap.size + 1; omega))).trans (Plain.Touch.of_set _ (by show w.heap.size ≤ w.heap.size; exact Nat.le_refl _) (by show w.heap.size < w.heap.size + 1; omega))
          have h9 := HQ8.out
          exact (own_within (HV8.out.touch T0 (.inr hlo)) (by (try simp only [size_setCell'] at h9); simp only [size_setCell']; omega) (Nat.le_refl _)).lower (by omega)
        · exact Has.moved (Has.moved (Has.moved HT8.out (Cursor.grown_setCell _ _ _ _) hqz) (Cursor.grown_setCell _ _ _ _) hqz) (Cursor.grown_setCell _ _ _ _) hqz
        · exact ((hbw.setCell (Nat.le_refl _) _).setCell (Nat.le_refl _) _).setCell (Nat.le_refl _) _
      | true =>
        have hlt8 := HS8.out.lt
        have HPI := Lib.hid (HP.out _ _ W8.heap.size (by omega) (by simp) (list_lit W8 nums16b 3 nums16b_ok) (HS8.out.alloc _))
        obtain ⟨g, cg, hge, hgb, hgl⟩ := own_at HT8.out (by omega)
        injection hge with hge _ hgc
        subst hge; subst hgc
        go_wp2_with fail
        refine HPI.out.mono ?_
        rintro e W9 ⟨y, hy, rfl, g9, c9⟩
        have G9 := Lib.hid (grown_alloc g9)
        have HS9 := Lib.hid ((HS8.out.alloc _).next g9 c9)
        have HT9 := Lib.hid (Has.moved HT8.out G9.out (by have := HNUM.out; omega))
        have HZ9 := Lib.hid (HZ8.out.grown G9.out (by have := HNUM.out; simp; omega))
        have HV9 := Lib.hid (own_moved HV8.out G9.out (by have := HNUM.out; omega))
        have HX9 := Lib.hid (HX8.out.grown G9.out (by have := HNUM.out; simp; omega))
        have HQ9 := Lib.hid (Nat.le_trans HQ8.out G9.out.size)
        have hO : W9.ownsRow (q + 1) 3 1 (.slice (some ⟨g, 0, none⟩) tab.length tc) tab.length (tab.map (Value.int .i64)) := HT9.out
        have f0 := hO.frozenAt 0
        obtain ⟨u0, hu0⟩ : ∃ u, W9.cell? ⟨g, 0, none⟩ = some u := by
          have y3 := hO.cellAt 0 (by omega)
          rw [List.getElem?_map, List.getElem?_eq_getElem (by omega), Option.map_some] at y3
          exact ⟨_, y3⟩
        have hst := hO.stored 0 (.int .i64 y)
        have HT10 : Hid (Has (Value.int .i64) 3 (W9.setCell ⟨g, 0, none⟩ (.int .i64 y)) (q + 1) (.slice (some ⟨g, 0, none⟩) tab.length tc) (tab.set 0 y)) := by
          show World.ownsRow _ _ _ _ _ _ _
          rw [List.length_set, List.map_set]
          exact hst.1
        have HZ10 := Lib.hid (HZ9.out.other (a := ⟨g, 0, none⟩) (by have := HNUM.out; show g ≠ _; omega) (.int .i64 y))
        have HX10 := Lib.hid (HX9.out.other (a := ⟨g, 0, none⟩) (by have := HNUM.out; show g ≠ _; omega) (.int .i64 y))
        have HS10 : Hid (Stands w (W9.setCell ⟨g, 0, none⟩ (.int .i64 y)) c a len cap) := HS9.out.other (Cursor.grown_setCell W9 g 0 _) (fun k hk => by cases hk; have := HNUM.out; omega)
        have HV10 := Lib.hid (HV9.out.touch (Plain.Touch.of_set (lo := g) (hi := g + 1) (w := W9) (a := ⟨g, 0, none⟩) (.int .i64 y) (by show g ≤ g; omega) (by show g < g + 1; omega)) (.inl (by omega)))
        have HQ10 : Hid (q + 1 ≤ (W9.setCell ⟨g, 0, none⟩ (.int .i64 y)).heap.size) := by show _ ≤ _; rw [size_setCell']; exact HQ9.out
        have x3 := HX10.out.c0
        clear HT8 HS8 HZ8 HV8 HX8 HQ8 HT9 HZ9 HV9 HX9 HQ9 HS9 G9 g9 c9 hst hO hy x3 HPI
        have x0 := HX10.out.c0
        have x1 := HX10.out.c1
        have x2 := HX10.out.c2
        have z0 := HZ10.out.c0
        have z1 := HZ10.out.c1
        have z2 := HZ10.out.c2
        have z3 := HZ10.out.f
        have hnum := HNUM.out
        have hlo : w.heap.size + 1 ≤ w1.heap.size := by omega
        have hbw := HS10.out.below
        have hqz : w.heap.size < q + 1 := by omega
        go_wp2
        have hZ9 := (((HZ10.out.set0 (.int .i64 b)).set1 (.slice an rows.length cn)).set2 (.slice ao out.length co))
        have n0 := hZ9.c0
        have n1 := hZ9.c1
        have n2 := hZ9.c2
        refine bodyPost_ret (v := .tuple #[(.agg #[.int .i64 b, .slice an rows.length cn, .slice ao out.length co]), .slice (some ⟨g, 0, none⟩) tab.length tc]) (by simp [results, Try.results20, go_sem, n0, n1, n2]) rfl ⟨_, b, _, _, _, (tab.set 0 y), q + 1, HOK.out, by (try simp only [List.length_set]); omega, by (try simp only [List.length_set]); omega, rfl, ?_, ?_, ?_⟩
        · have T0 : Plain.Touch w.heap.size (w.heap.size + 1) (W9.setCell ⟨g, 0, none⟩ (.int .i64 y)) ((((W9.setCell ⟨g, 0, none⟩ (.int .i64 y)).setCell ⟨w.heap.size, 0, none⟩ (.int .i64 b)).setCell ⟨w.heap.size, 1, none⟩ (.slice an rows.length cn)).setCell ⟨w.heap.size, 2, none⟩ (.slice ao out.length co)) :=
            ((Plain.Touch.of_set _ (by show w.heap.size ≤ w.heap.size; exact Nat.le_refl _) (by show w.heap.size < w.heap.size + 1; omega)).trans (Plain.Touch.of_set _ (by show w.heap.size ≤ w.heap.size; exact Nat.le_refl _) (by show w.heap.size < w.heap.size + 1; omega))).trans (Plain.Touch.of_set _ (by show w.heap.size ≤ w.heap.size; exact Nat.le_refl _) (by show w.heap.size < w.heap.size + 1; omega))
          have h9 := HQ10.out
          exact (own_within (HV10.out.touch T0 (.inr hlo)) (by (try simp only [size_setCell'] at h9); simp only [size_setCell']; omega) (Nat.le_refl _)).lower (by omega)
        · exact Has.moved (Has.moved (Has.moved HT10.out (Cursor.grown_setCell _ _ _ _) hqz) (Cursor.grown_setCell _ _ _ _) hqz) (Cursor.grown_setCell _ _ _ _) hqz
        · exact ((hbw.setCell (Nat.le_refl _) _).setCell (Nat.le_refl _) _).setCell (Nat.le_refl _) _
end Cursor
end Go.Proofs.Ytodnkkofammhbaa
/- Contracts of IsSequence, of the model. No conditions beyond those that each states. -/
namespace Go.Proofs.Ytodnkkofammhbaa
open Go.ChangeShapes Go.WideShapes Go.ChangeAt Go.RowKit
open Go.PlainAid Plain
set_option linter.unusedVariables false
namespace Seqs
theorem ends {B : Nat} {w W W' : World} (h : ∀ n, Below B w (W.drewN n)) (he : (∃ n, W' = W.drewN n) ∨ (∃ n m, W' = (W.drewN n).drewN m) := by first | exact .inl ⟨_, rfl⟩ | exact .inr ⟨_, _, rfl⟩) : Below B w W' := by
  rcases he with ⟨n, rfl⟩ | ⟨n, m, rfl⟩
  · exact h n
  · rw [World.drewN_drewN]; exact h _
set_option maxHeartbeats 1000000 in
theorem spec_is (v : Value) (b : Int) (rows : List (List Int)) (out : List Int) (w : World) (h : LiesS w v b rows out) :
    Calls Try.prog 36 #[v] w fun e w' => e = .returned (.bool (seqB b rows out)) ∧ Below w.heap.size w w' := by
  obtain ⟨vn, vo, rfl, hn, ho⟩ := h
  have hB : Below w.heap.size w (w.alloc (Obj.cells #[Value.int .i64 b, vn, vo] 27)) := (Below.refl _ _).alloc (Nat.le_refl _) _
  have hC := Cells3.new w 27 (.int .i64 b) vn vo
  go_enter Try.func36, Try.ntmps36
  go_wp2_with fail
  obtain ⟨W, hW⟩ : ∃ W, W = w.alloc (Obj.cells #[Value.int .i64 b, vn, vo] 27) := ⟨_, rfl⟩
  rw [← hW] at hB hC ⊢
  obtain ⟨a, ca, rfl, hl, hc⟩ := (hn.below hB).row
  obtain ⟨hlo, ao, co, rfl, _, hco⟩ := ho.below hB
  have HC := Lib.hid hc
  have HO := Lib.hid hco
  have HB : Hid (∀ n, Below w.heap.size w (W.drewN n)) := fun n => below_drewN hB n
  have k0 := hC.c0
  have k1 := hC.c1
  have k2 := hC.c2
  clear hc hco hB hC hW hn ho
  obtain ⟨z, hz⟩ : ∃ z, z = w.heap.size := ⟨_, rfl⟩
  rw [← hz] at k0 k1 k2 ⊢
  have HZ := Lib.hid hz
  clear hz
  go_loopw [3] (fun i' wr => ∃ i : Nat, i ≤ rows.length ∧ i' = .int .i64 i ∧ Hid (∀ (j : Nat) (r : List Int), j < i → rows[j]? = some r → (r.length : Int) = b ∧ ∀ (k : Nat) (x : Int), r[k]? = some x → 0 ≤ x ∧ x < (rows.length : Int)) ∧ ∃ n, wr = W.drewN n) (fun i' _ => rows.length - (intOf i').toNat)
  case atStart => exact ⟨0, Nat.zero_le _, rfl, fun j r h => by omega, 0, rfl⟩
  case round =>
    obtain ⟨i, hi, rfl, HI, n, rfl⟩ := hrel
    by_cases hlt : i < rows.length
    · obtain ⟨r, hr⟩ : ∃ r, rows[i]? = some r := ⟨_, List.getElem?_eq_getElem hlt⟩
      obtain ⟨p, o, u, rfl, hx, hlx⟩ := HC.out i r hr
      obtain ⟨hrl, a', ca', rfl, _, hcr⟩ := hlx
      have HX := Lib.hid hcr
      have HR := Lib.hid hr
      clear hcr hr
      by_cases hb : (r.length : Int) = b
      · have HBE := Lib.hid hb
        have hd0 : ((r.length : Int) != b) = false := by rw [hb]; simp
        clear hb
        go_wp2
        go_quiet (fail)
        go_wp2
        go_loopw [4] (fun k' wr => ∃ k : Nat, k ≤ r.length ∧ k' = .int .i64 k ∧ Hid (∀ (j : Nat) (x : Int), j < k → r[j]? = some x → 0 ≤ x ∧ x < (rows.length : Int)) ∧ ∃ n, wr = W.drewN n) (fun k' _ => r.length - (intOf k').toNat)
        case atStart => exact ⟨0, Nat.zero_le _, rfl, fun j x h => by omega, _, World.drewN_drewN _ _ _⟩
        case round =>
          obtain ⟨k, hk, rfl, HK, m, rfl⟩ := hrel
          by_cases hlk : k < r.length
          · obtain ⟨x, hrx⟩ : ∃ x, r[k]? = some x := ⟨_, List.getElem?_eq_getElem hlk⟩
            obtain ⟨q, s, rfl, hcx⟩ := HX.out k x hrx
            have HXX := Lib.hid hrx
            clear hrx
            by_cases hx0 : x < 0
            · have hd := decide_eq_true hx0
              have HE := Lib.hid (not_seq_cell (b := b) (out := out) HR.out HXX.out (.inl hx0))
              go_wp2
              go_quiet (fail)
              go_wp2
              go_ret
              exact ⟨ret_b HE.out.symm, ends HB.out⟩
            · by_cases hx1 : (rows.length : Int) ≤ x
              · have hd := decide_eq_false hx0
                have hd1 := decide_eq_true hx1
                have HE := Lib.hid (not_seq_cell (b := b) (out := out) HR.out HXX.out (.inr hx1))
                go_wp2
                go_quiet (fail)
                go_wp2
                go_ret
                exact ⟨ret_b HE.out.symm, ends HB.out⟩
              · have hd := decide_eq_false hx0
                have hd1 := decide_eq_false hx1
                have HN : Hid (∀ (j : Nat) (x : Int), j < k + 1 → r[j]? = some x → 0 ≤ x ∧ x < (rows.length : Int)) := fun j y hj hy => by
                  by_cases e : j = k
                  · subst e
                    obtain rfl := Option.some.inj (HXX.out.symm.trans hy)
                    omega
                  · exact HK.out j y (by omega) hy
                go_wp2
                go_quiet (fail)
                go_wp2
                go_roundw
                case rel => exact ⟨k + 1, by omega, by go_num, HN, _, rfl⟩
                case measure => simp [intOf]; omega
          · have HN : Hid (∀ (j : Nat) (r : List Int), j < i + 1 → rows[j]? = some r → (r.length : Int) = b ∧ ∀ (k : Nat) (x : Int), r[k]? = some x → 0 ≤ x ∧ x < (rows.length : Int)) := fun j y hj hy => by
              by_cases e : j = i
              · subst e
                obtain rfl := Option.some.inj (HR.out.symm.trans hy)
                exact ⟨HBE.out, fun k' x hx => HK.out k' x (by have := (List.getElem?_eq_some_iff.1 hx).1; omega) hx⟩
              · exact HI.out j y (by omega) hy
            go_wp2
            go_roundw
            case rel => exact ⟨i + 1, by omega, by go_num, HN, _, rfl⟩
            case measure => simp [intOf]; omega
      · have HE := Lib.hid (not_seq_row (out := out) HR.out hb)
        have hd0 : ((r.length : Int) != b) = true := by simpa using hb
        clear hb
        go_wp2
        go_quiet (fail)
        go_wp2
        go_ret
        exact ⟨ret_b HE.out.symm, ends HB.out⟩
    · have HRR : Hid (∀ (j : Nat) (r : List Int), rows[j]? = some r → (r.length : Int) = b ∧ ∀ (k : Nat) (x : Int), r[k]? = some x → 0 ≤ x ∧ x < (rows.length : Int)) := fun j r hr => HI.out j r (by have := (List.getElem?_eq_some_iff.1 hr).1; omega) hr
      clear HI HC
      go_wp2
      go_loopw [5] (fun i' wr => ∃ i : Nat, i ≤ out.length ∧ i' = .int .i64 i ∧ Hid (∀ (j : Nat) (x : Int), j < i → out[j]? = some x → 0 ≤ x ∧ x ≤ 3) ∧ ∃ n, wr = W.drewN n) (fun i' _ => out.length - (intOf i').toNat)
      case atStart => exact ⟨0, Nat.zero_le _, rfl, fun j r h => by omega, _, rfl⟩
      case round =>
        obtain ⟨i, hi, rfl, HI, n, rfl⟩ := hrel
        by_cases hlt : i < out.length
        · obtain ⟨x, hox⟩ : ∃ x, out[i]? = some x := ⟨_, List.getElem?_eq_getElem hlt⟩
          obtain ⟨q, s, rfl, hcx⟩ := HO.out i x hox
          have HXX := Lib.hid hox
          clear hox
          by_cases hin : 0 ≤ x ∧ x ≤ 3
          · obtain ⟨hx0, hx3⟩ := hin
            have HN : Hid (∀ (j : Nat) (x : Int), j < i + 1 → out[j]? = some x → 0 ≤ x ∧ x ≤ 3) := fun j y hj hy => by
              by_cases e : j = i
              · subst e
                obtain rfl := Option.some.inj (HXX.out.symm.trans hy)
                omega
              · exact HI.out j y (by omega) hy
            go_wp2_with fail
            refine (l1In_yes _ _ _ _ hx0 hx3).mono ?_
            rintro e w' ⟨rfl, rfl⟩
            go_wp2
            go_roundw
            case rel => exact ⟨i + 1, by omega, by go_num, HN, _, rfl⟩
            case measure => simp [intOf]; omega
          · have hno : x < 0 ∨ 3 < x := by omega
            have HE := Lib.hid (not_seq_out (b := b) (rows := rows) HXX.out hno)
            have HNO := Lib.hid hno
            clear hin hno
            go_wp2_with fail
            refine (l1In_no _ _ _ _ HNO.out).mono ?_
            rintro e w' ⟨rfl, rfl⟩
            go_wp2
            go_ret
            exact ⟨ret_b HE.out.symm, ends HB.out⟩
        · have HOO : Hid (∀ (j : Nat) (x : Int), out[j]? = some x → 0 ≤ x ∧ x ≤ 3) := fun j r hr => HI.out j r (by have := (List.getElem?_eq_some_iff.1 hr).1; omega) hr
          clear HI HO
          by_cases hb : 2 ≤ b ∧ b ≤ 4
          · obtain ⟨hb1, hb2⟩ := hb
            by_cases hlen : 1 ≤ rows.length ∧ rows.length ≤ 16
            · obtain ⟨hl1, hl2⟩ := hlen
              by_cases heq : out.length = rows.length
              · have HE := Lib.hid (seqB_yes (isSeq_of hb1 hb2 hl1 hl2 heq HRR.out HOO.out))
                have hd : ((out.length : Int) == (rows.length : Int)) = true := by rw [heq]; simp
                clear heq
                go_wp2_with fail
                refine (l1In_yes _ _ _ _ hb1 hb2).mono ?_
                rintro e w' ⟨rfl, rfl⟩
                go_wp2_with fail
                refine (l1In_yes _ _ _ _ (by omega) (by omega)).mono ?_
                rintro e w' ⟨rfl, rfl⟩
                go_wp2
                go_ret
                exact ⟨ret_b HE.out.symm, ends HB.out⟩
              · have HE := Lib.hid (seqB_no (b := b) fun h => heq h.2.2.2.2.1)
                have hd : ((out.length : Int) == (rows.length : Int)) = false := by simp; omega
                clear heq
                go_wp2_with fail
                refine (l1In_yes _ _ _ _ hb1 hb2).mono ?_
                rintro e w' ⟨rfl, rfl⟩
                go_wp2_with fail
                refine (l1In_yes _ _ _ _ (by omega) (by omega)).mono ?_
                rintro e w' ⟨rfl, rfl⟩
                go_wp2
                go_ret
                exact ⟨ret_b HE.out.symm, ends HB.out⟩
            · have HE := Lib.hid (seqB_no (b := b) (out := out) fun h => hlen ⟨h.2.2.1, h.2.2.2.1⟩)
              have hno : (rows.length : Int) < 1 ∨ 16 < (rows.length : Int) := by omega
              have HNO := Lib.hid hno
              clear hlen hno
              go_wp2_with fail
              refine (l1In_yes _ _ _ _ hb1 hb2).mono ?_
              rintro e w' ⟨rfl, rfl⟩
              go_wp2_with fail
              refine (l1In_no _ _ _ _ HNO.out).mono ?_
              rintro e w' ⟨rfl, rfl⟩
              go_wp2
              go_ret
              exact ⟨ret_b HE.out.symm, ends HB.out⟩
          · have HE := Lib.hid (seqB_no (rows := rows) (out := out) fun h => hb ⟨h.1, h.2.1⟩)
            have hno : b < 2 ∨ 4 < b := by omega
            have HNO := Lib.hid hno
            clear hb hno
            go_wp2_with fail
            refine (l1In_no _ _ _ _ HNO.out).mono ?_
            rintro e w' ⟨rfl, rfl⟩
            go_wp2
            go_ret
            exact ⟨ret_b HE.out.symm, ends HB.out⟩
end Seqs
end Go.Proofs.Ytodnkkofammhbaa
/- Contracts of IsSequence, of the program. No conditions beyond those that each states. -/
namespace Go.Proofs.Ytodnkkofammhbaa
open Go.ChangeShapes Go.WideShapes Go.ChangeAt Go.RowKit
open Go.PlainAid Plain
set_option linter.unusedVariables false
namespace Seqs
theorem term_yes (x : Int) (w : World) (h1 : 0 ≤ x) (h2 : x ≤ 3) :
    Calls Try.prog 41 #[.int .i64 x] w fun e w' => e = .returned (.bool true) ∧ w = w' := by
  go_enter Try.func41, Try.ntmps41
  go_wp2
  go_ret
  exact ⟨rfl, rfl⟩
theorem term_no (x : Int) (w : World) (h : x < 0 ∨ 3 < x) :
    Calls Try.prog 41 #[.int .i64 x] w fun e w' => e = .returned (.bool false) ∧ w = w' := by
  by_cases h3 : 0 ≤ x
  · have h4 : decide (x ≤ 3) = false := decide_eq_false (by omega)
    clear h
    go_enter Try.func41, Try.ntmps41
    go_wp2
    go_ret
    exact ⟨rfl, rfl⟩
  · clear h
    go_enter Try.func41, Try.ntmps41
    go_wp2
    go_ret
    exact ⟨rfl, rfl⟩
theorem term_q {x : Int} {w : World} {n : Nat} {c : Bool} (hc : decide (0 ≤ x ∧ x ≤ 3) = c) :
    Calls Try.prog 41 #[.int .i64 x] (w.drewN n) fun e w' => e = .returned (.bool c) ∧ ∃ m, w' = w.drewN m := by
  cases c with
  | true =>
    have h := of_decide_eq_true hc
    exact (term_yes x _ h.1 h.2).mono fun _ _ ⟨he, hw⟩ => ⟨he, n, hw.symm⟩
  | false =>
    have h := of_decide_eq_false hc
    exact (term_no x _ (by omega)).mono fun _ _ ⟨he, hw⟩ => ⟨he, n, hw.symm⟩
set_option maxHeartbeats 1000000 in
theorem impl_row (v : Value) (b : Int) (rows : List (List Int)) (out : List Int) (w : World) (h : LiesS w v b rows out) (i : Nat) (r : List Int) (x : Int) (hr : rows[i]? = some r) (hx : out[i]? = some x) :
    Calls Try.prog 64 #[v, .int .i64 i] w fun e w' => e = .returned (.bool (rowB b rows.length r x)) ∧ Below w.heap.size w w' := by
  obtain ⟨vn, vo, rfl, hn, ho⟩ := h
  have hB : Below w.heap.size w (w.alloc (Obj.cells #[Value.int .i64 b, vn, vo] 27)) := (Below.refl _ _).alloc (Nat.le_refl _) _
  have hC := Cells3.new w 27 (.int .i64 b) vn vo
  have hir := (List.getElem?_eq_some_iff.1 hr).1
  have hio := (List.getElem?_eq_some_iff.1 hx).1
  go_enter Try.func64, Try.ntmps64
  go_wp2_with fail
  obtain ⟨W, hW⟩ : ∃ W, W = w.alloc (Obj.cells #[Value.int .i64 b, vn, vo] 27) := ⟨_, rfl⟩
  rw [← hW] at hB hC ⊢
  obtain ⟨a, ca, rfl, hl, hc⟩ := (hn.below hB).row
  obtain ⟨hlo, ao, co, rfl, _, hco⟩ := ho.below hB
  obtain ⟨p, o, u, rfl, hcu, hlu⟩ := hc i r hr
  obtain ⟨hrl, a', ca', rfl, _, hcr⟩ := hlu
  obtain ⟨q, s, rfl, hcx⟩ := hco i x hx
  have HX := Lib.hid hcr
  have HB : Hid (∀ n, Below w.heap.size w (W.drewN n)) := fun n => below_drewN hB n
  have k0 := hC.c0
  have k1 := hC.c1
  have k2 := hC.c2
  clear hc hco hB hC hW hn ho hcr hr hx
  obtain ⟨z, hz⟩ : ∃ z, z = w.heap.size := ⟨_, rfl⟩
  rw [← hz] at k0 k1 k2 ⊢
  clear hz
  by_cases hb : (r.length : Int) = b
  · have HBE := Lib.hid hb
    have hd0 : ((r.length : Int) != b) = false := by rw [hb]; simp
    clear hb
    by_cases hx03 : 0 ≤ x ∧ x ≤ 3
    case neg =>
      have HE := Lib.hid (rowB_out (b := b) (n := rows.length) (r := r) (o := x) (by omega))
      have HNO := Lib.hid (show decide (0 ≤ x ∧ x ≤ 3) = false from decide_eq_false hx03)
      clear hx03
      go_quiet ((go_at_call 41; exact term_q HNO.out))
      go_wp2
      go_ret
      exact ⟨ret_b HE.out.symm, ends HB.out⟩
    case pos =>
        have HYES := Lib.hid (show decide (0 ≤ x ∧ x ≤ 3) = true from decide_eq_true hx03)
        obtain ⟨hx0, hx3⟩ := hx03
        go_quiet ((go_at_call 41; exact term_q HYES.out))
        go_wp2
        go_loopw [31] (fun k' wr => ∃ k : Nat, k ≤ r.length ∧ k' = .int .i64 k ∧ Hid (∀ (j : Nat) (x : Int), j < k → r[j]? = some x → 0 ≤ x ∧ x < (rows.length : Int)) ∧ ∃ n, wr = W.drewN n) (fun k' _ => r.length - (intOf k').toNat)
        case atStart => exact ⟨0, Nat.zero_le _, rfl, fun j x h => by omega, _, rfl⟩
        case round =>
          obtain ⟨k, hk, rfl, HK, m, rfl⟩ := hrel
          by_cases hlk : k < r.length
          · obtain ⟨y, hry⟩ : ∃ x, r[k]? = some x := ⟨_, List.getElem?_eq_getElem hlk⟩
            obtain ⟨g, t, rfl, hcy⟩ := HX.out k y hry
            have HY := Lib.hid hry
            clear hry
            by_cases hy0 : y < 0
            · have hd3 := decide_eq_true hy0
              have HE := Lib.hid (rowB_cell (b := b) (n := rows.length) (o := x) HY.out (.inl hy0))
              go_wp2
              go_ret
              exact ⟨ret_b HE.out.symm, ends HB.out⟩
            · by_cases hy1 : (rows.length : Int) ≤ y
              · have hd3 := decide_eq_false hy0
                have hd4 := decide_eq_true hy1
                have HE := Lib.hid (rowB_cell (b := b) (n := rows.length) (o := x) HY.out (.inr hy1))
                go_wp2
                go_ret
                exact ⟨ret_b HE.out.symm, ends HB.out⟩
              · have hd3 := decide_eq_false hy0
                have hd4 := decide_eq_false hy1
                have HN : Hid (∀ (j : Nat) (x : Int), j < k + 1 → r[j]? = some x → 0 ≤ x ∧ x < (rows.length : Int)) := fun j z hj hz => by
                  by_cases e : j = k
                  · subst e
                    obtain rfl := Option.some.inj (HY.out.symm.trans hz)
                    omega
                  · exact HK.out j z (by omega) hz
                go_wp2
                go_roundw
                case rel => exact ⟨k + 1, by omega, by go_num, HN, _, rfl⟩
                case measure => simp [intOf]; omega
          · have HE := Lib.hid (rowB_yes (n := rows.length) HBE.out (fun k' x hx => HK.out k' x (by have := (List.getElem?_eq_some_iff.1 hx).1; omega) hx) (show 0 ≤ x by omega) (by omega))
            go_wp2
            go_ret
            exact ⟨ret_b HE.out.symm, ends HB.out⟩
  · have HE := Lib.hid (rowB_len (n := rows.length) (o := x) hb)
    have hd0 : ((r.length : Int) != b) = true := by simpa using hb
    clear hb
    go_quiet (fail)
    go_wp2
    go_ret
    exact ⟨ret_b HE.out.symm, ends HB.out⟩
theorem impl_is_no (v : Value) (b : Int) (rows : List (List Int)) (out : List Int) (w : World) (h : LiesS w v b rows out) (hno : ¬ (2 ≤ b ∧ b ≤ 4 ∧ 1 ≤ rows.length ∧ rows.length ≤ 16 ∧ out.length = rows.length)) :
    Calls Try.prog 32 #[v] w fun e w' => e = .returned (.bool false) ∧ Below w.heap.size w w' := by
  obtain ⟨vn, vo, rfl, hn, ho⟩ := h
  obtain ⟨a, ca, rfl, hl, hc⟩ := hn.row
  obtain ⟨hlo, ao, co, rfl, _, hco⟩ := ho
  clear hc hco hn
  by_cases hb : 2 ≤ b ∧ b ≤ 4
  · obtain ⟨hb1, hb2⟩ := hb
    by_cases h1 : 1 ≤ rows.length
    · have hd1 := decide_eq_false (show ¬ (rows.length : Int) < 1 by omega)
      by_cases h2 : rows.length ≤ 16
      · have hd2 := decide_eq_false (show ¬ (rows.length : Int) > 16 by omega)
        have hd3 : ((out.length : Int) != (rows.length : Int)) = true := by simp; omega
        clear hno
        go_enter Try.func32, Try.ntmps32
        go_wp2_with fail
        refine (Digits.base_yes _ _ hb1 hb2).mono ?_
        rintro e w' ⟨rfl, rfl⟩
        go_wp2
        go_ret
        exact ⟨rfl, (Below.refl _ _).alloc (Nat.le_refl _) _⟩
      · have hd2 := decide_eq_true (show (rows.length : Int) > 16 by omega)
        clear hno
        go_enter Try.func32, Try.ntmps32
        go_wp2_with fail
        refine (Digits.base_yes _ _ hb1 hb2).mono ?_
        rintro e w' ⟨rfl, rfl⟩
        go_wp2
        go_ret
        exact ⟨rfl, (Below.refl _ _).alloc (Nat.le_refl _) _⟩
    · have hd1 := decide_eq_true (show (rows.length : Int) < 1 by omega)
      clear hno
      go_enter Try.func32, Try.ntmps32
      go_wp2_with fail
      refine (Digits.base_yes _ _ hb1 hb2).mono ?_
      rintro e w' ⟨rfl, rfl⟩
      go_wp2
      go_ret
      exact ⟨rfl, (Below.refl _ _).alloc (Nat.le_refl _) _⟩
  · have hno' : b < 2 ∨ 4 < b := by omega
    clear hno hb
    have HNO := Lib.hid hno'
    clear hno'
    go_enter Try.func32, Try.ntmps32
    go_wp2_with fail
    refine (Digits.base_no _ _ HNO.out).mono ?_
    rintro e w' ⟨rfl, rfl⟩
    go_wp2
    go_ret
    exact ⟨rfl, (Below.refl _ _).alloc (Nat.le_refl _) _⟩
set_option maxHeartbeats 1000000 in
theorem impl_is (v : Value) (b : Int) (rows : List (List Int)) (out : List Int) (w : World) (h : LiesS w v b rows out) :
    Calls Try.prog 32 #[v] w fun e w' => e = .returned (.bool (seqB b rows out)) ∧ Below w.heap.size w w' := by
  by_cases hp : 2 ≤ b ∧ b ≤ 4 ∧ 1 ≤ rows.length ∧ rows.length ≤ 16 ∧ out.length = rows.length
  · obtain ⟨hb1, hb2, h1, h2, h3⟩ := hp
    have HS := Lib.hid h
    obtain ⟨vn, vo, rfl, hn, ho⟩ := h
    have hB : Below w.heap.size w (w.alloc (Obj.cells #[Value.int .i64 b, vn, vo] 27)) := (Below.refl _ _).alloc (Nat.le_refl _) _
    have hC := Cells3.new w 27 (.int .i64 b) vn vo
    obtain ⟨a, ca, rfl, hl, hc⟩ := hn.row
    obtain ⟨hlo, ao, co, rfl, _, hco⟩ := ho
    have hd1 := decide_eq_false (show ¬ (rows.length : Int) < 1 by omega)
    have hd2 := decide_eq_false (show ¬ (rows.length : Int) > 16 by omega)
    have hd3 : ((out.length : Int) != (rows.length : Int)) = false := by rw [h3]; simp
    have H3 := Lib.hid h3
    have HB := Lib.hid hB
    have HC := Lib.hid hC
    clear hc hco hn h3 hB hC
    go_enter Try.func32, Try.ntmps32
    go_wp2_with fail
    refine (Digits.base_yes _ _ hb1 hb2).mono ?_
    rintro e w' ⟨rfl, rfl⟩
    go_wp2_with fail
    obtain ⟨z, hz⟩ : ∃ z, z = w.heap.size := ⟨_, rfl⟩
    rw [← hz] at HC ⊢
    have HZ := Lib.hid hz
    clear hz
    go_loopw [28] (fun i' wr => ∃ i : Nat, i ≤ rows.length ∧ i' = .int .i64 i ∧ Hid (∀ (j : Nat) (r : List Int) (o : Int), j < i → rows[j]? = some r → out[j]? = some o → rowB b rows.length r o = true) ∧ Hid (Cells3 wr z 27 (.int .i64 b) (.slice a rows.length ca) (.slice ao out.length co)) ∧ Hid (Below w.heap.size w wr)) (fun i' _ => rows.length - (intOf i').toNat)
    case atStart => exact ⟨0, Nat.zero_le _, rfl, fun j r o h => by omega, HC, HB⟩
    case round =>
      obtain ⟨i, hi, rfl, HI, HCi, HBi⟩ := hrel
      by_cases hlt : i < rows.length
      · obtain ⟨r, hr⟩ : ∃ r, rows[i]? = some r := ⟨_, List.getElem?_eq_getElem hlt⟩
        obtain ⟨x, hx⟩ : ∃ x, out[i]? = some x := ⟨_, List.getElem?_eq_getElem (by have := H3.out; omega)⟩
        have k0 := HCi.out.c0
        have k1 := HCi.out.c1
        have k2 := HCi.out.c2
        have HR := Lib.hid hr
        have HX := Lib.hid hx
        clear hr hx
        cases hrb : rowB b rows.length r x with
        | false =>
          have HF := Lib.hid (rowB_seq HR.out HX.out hrb)
          have HRB := Lib.hid hrb
          clear hrb
          go_wp2_with fail
          refine (impl_row _ b rows out _ (HS.out.below HBi.out) i r x HR.out HX.out).mono ?_
          rintro e W1 ⟨rfl, hb⟩
          have HB1 := Lib.hid (HBi.out.trans (hb.mono HBi.out.size))
          rw [HRB.out]
          clear hb
          go_wp2
          go_ret
          exact ⟨ret_b HF.out.symm, HB1.out⟩
        | true =>
          have HRB := Lib.hid hrb
          have HN : Hid (∀ (j : Nat) (r : List Int) (o : Int), j < i + 1 → rows[j]? = some r → out[j]? = some o → rowB b rows.length r o = true) := fun j r' o' hj hr' ho' => by
            by_cases e : j = i
            · subst e
              obtain rfl := Option.some.inj (HR.out.symm.trans hr')
              obtain rfl := Option.some.inj (HX.out.symm.trans ho')
              exact HRB.out
            · exact HI.out j r' o' (by omega) hr' ho'
          clear hrb
          go_wp2_with fail
          refine (impl_row _ b rows out _ (HS.out.below HBi.out) i r x HR.out HX.out).mono ?_
          rintro e W1 ⟨rfl, hb⟩
          have HB1 := Lib.hid (HBi.out.trans (hb.mono HBi.out.size))
          have HC1 := Lib.hid (HCi.out.below hb)
          rw [HRB.out]
          clear hb k0 k1 k2
          go_wp2
          go_roundw
          case rel => exact ⟨i + 1, by omega, by go_num, HN, HC1, HB1⟩
          case measure => simp [intOf]; omega
      · have HE := Lib.hid (seq_rows hb1 hb2 h1 h2 H3.out (fun j r o hr ho => HI.out j r o (by have := (List.getElem?_eq_some_iff.1 hr).1; omega) hr ho))
        go_wp2
        go_ret
        exact ⟨ret_b HE.out.symm, HBi.out⟩
  · rw [seqB_no fun hs => hp ⟨hs.1, hs.2.1, hs.2.2.1, hs.2.2.2.1, hs.2.2.2.2.1⟩]
    exact impl_is_no v b rows out w h hp
end Seqs
end Go.Proofs.Ytodnkkofammhbaa
/- Contracts of the exact laws' own helpers on sequences, third part: comparing two that are equal. No conditions beyond those that each states. -/
namespace Go.Proofs.Ytodnkkofammhbaa
open Go.ChangeShapes Go.WideShapes Go.ChangeAt Go.RowKit
open Go.PlainAid Plain
set_option linter.unusedVariables false
namespace Seqs
theorem quiet_more {P : Program} {f : FuncId} {args : Array Value} {w : World} {a n : Nat} {v : Value}
    (h : Calls P f args (w.drewN (a + n)) fun e w' => e = .returned v ∧ ∃ m, w' = (w.drewN (a + n)).drewN m) :
    Calls P f args (w.drewN (a + n)) fun e w'' => e = .returned v ∧ ∃ m, w'' = w.drewN (a + m) :=
  h.mono fun _ _ ⟨he, m, hm⟩ => ⟨he, n + m, by rw [hm, World.drewN_drewN, Nat.add_assoc]⟩
theorem Lies_drewN {v : Value} {xs : List Int} {w : World} (h : Lies (Value.int .i64) w v xs) (n : Nat) : Lies (Value.int .i64) (w.drewN n) v xs := h.below (below_drewN (Below.refl _ _) n)
end Seqs
end Go.Proofs.Ytodnkkofammhbaa
/- Contracts of DigitSum, AreDigits, ValueOf, PadDigits and ReverseDigits, of the program and of the model. No conditions beyond those that each states. -/
namespace Go.Proofs.Ytodnkkofammhbaa
open Go.ChangeShapes Go.WideShapes Go.ChangeAt Go.RowKit
open Go.PlainAid Plain
set_option linter.unusedVariables false
namespace Digits
open Ints

theorem spec_sum (n b : Int) (w : World) : Calls Try.prog 19 #[.int .i64 n, .int .i64 b] w fun e w' => e = .returned (.int .i64 (sumD (digV n b))) ∧ Below w.heap.size w w' := by
  have hl := digV_len n b
  have hm := digV_mem n b
  have HC := Lib.hid (spec_digits_any n b w)
  obtain ⟨xs, hxs⟩ : ∃ xs, xs = digV n b := ⟨_, rfl⟩
  rw [← hxs] at hl hm HC ⊢
  have HM := Lib.hid hm
  clear hm hxs
  go_enter Try.func19, Try.ntmps19
  go_wp2_with fail
  refine HC.out.mono ?_
  rintro e w1 ⟨v, rfl, ho, hb⟩
  obtain ⟨_, a, cap, rfl, _, hc⟩ := ho.lies
  have HA := Lib.hid hc
  clear hc ho
  go_wp2_with fail
  go_loop [6, 7] (fun s' i' => ∃ i : Nat, i ≤ xs.length ∧ i' = .int .i64 i ∧ s' = .int .i64 (sumD (xs.take i))) (fun _ i' => xs.length - (intOf i').toNat)
  case atStart => exact ⟨0, Nat.zero_le _, rfl, rfl⟩
  case round =>
    obtain ⟨i, hi, rfl, rfl⟩ := hrel
    by_cases hlt : i < xs.length
    · obtain ⟨q, r, rfl, hc2⟩ := HA.out i _ (List.getElem?_eq_getElem hlt)
      obtain ⟨hb0, hb1⟩ := sumD_bd 4 i xs hi HM.out
      obtain ⟨hx0, hx1⟩ := HM.out xs[i] (List.getElem_mem _)
      have HS := Lib.hid (sumD_snoc (xs.take i) xs[i])
      rw [← List.take_succ_eq_append_getElem hlt] at HS
      obtain ⟨s, hs⟩ : ∃ s, s = sumD (xs.take i) := ⟨_, rfl⟩
      rw [← hs] at hb0 hb1 HS ⊢
      clear hs
      go_wp2
      go_round
      case rel => exact ⟨i + 1, by omega, by go_num, by rw [HS.out]⟩
      case measure => simp [intOf]; omega
    · have HE : Hid (xs.take i = xs) := List.take_of_length_le (by omega)
      go_wp2
      go_ret
      exact ⟨ret_i (by rw [HE.out]), hb⟩
theorem ret_b {a b : Bool} (h : a = b) : Ending.returned (.bool a) = Ending.returned (.bool b) := by rw [h]
theorem spec_are (v : Value) (xs : List Int) (b : Int) (w : World) (h : Lies (Value.int .i64) w v xs) :
    Calls Try.prog 68 #[v, .int .i64 b] w fun e w' => e = .returned (.bool (areD b xs)) ∧ w = w' := by
  obtain ⟨hl, a, ca, rfl, _, hc⟩ := h
  have HC := Lib.hid hc
  clear hc
  go_enter Try.func68, Try.ntmps68
  go_wp2
  go_loop [5] (fun i' => ∃ i : Nat, i ≤ xs.length ∧ i' = .int .i64 i ∧ Hid (∀ j, (hj : j < xs.length) → j < i → 0 ≤ xs[j] ∧ xs[j] < b)) (fun i' => xs.length - (intOf i').toNat)
  case atStart => exact ⟨0, Nat.zero_le _, rfl, fun j hj h => by omega⟩
  case round =>
    obtain ⟨i, hi, rfl, HI⟩ := hrel
    by_cases hlt : i < xs.length
    · obtain ⟨q, r, rfl, hc2⟩ := HC.out i _ (List.getElem?_eq_getElem hlt)
      obtain ⟨x, hx⟩ : ∃ x, x = xs[i] := ⟨_, rfl⟩
      have HX := Lib.hid hx
      rw [← hx] at hc2
      clear hx
      by_cases h0 : x < 0
      · have HE := Lib.hid (areD_at (b := b) i hlt (by rw [← HX.out]; exact .inl h0))
        have hd := decide_eq_true h0
        go_wp2
        go_ret
        exact ⟨ret_b HE.out.symm, rfl⟩
      · by_cases h1 : b ≤ x
        · have HE := Lib.hid (areD_at (b := b) i hlt (by rw [← HX.out]; exact .inr h1))
          have hd := decide_eq_false h0
          have hd1 := decide_eq_true h1
          go_wp2
          go_ret
          exact ⟨ret_b HE.out.symm, rfl⟩
        · have HN : Hid (∀ j, (hj : j < xs.length) → j < i + 1 → 0 ≤ xs[j] ∧ xs[j] < b) := fun j hj h => by
            by_cases e : j = i
            · subst e; rw [← HX.out]; omega
            · exact HI.out j hj (by omega)
          have hd := decide_eq_false h0
          have hd1 := decide_eq_false h1
          go_wp2
          go_round
          case rel => exact ⟨i + 1, by omega, by go_num, HN⟩
          case measure => simp [intOf]; omega
    · by_cases hb : 2 ≤ b ∧ b ≤ 4
      · obtain ⟨hb1, hb2⟩ := hb
        by_cases h16 : xs.length ≤ 16
        · have HE := Lib.hid (areD_yes hb1 hb2 h16 (mem_of_all (fun j hj => HI.out j hj (by omega))))
          have hd := decide_eq_true (show (xs.length : Int) ≤ 16 by omega)
          go_wp2_with (go_at_call 37; refine (l1In_yes _ _ _ _ hb1 hb2).mono ?_; rintro e w' ⟨rfl, rfl⟩)
          go_ret
          exact ⟨ret_b HE.out.symm, rfl⟩
        · have HE := Lib.hid (areD_long (b := b) (xs := xs) (by omega))
          have hd := decide_eq_false (show ¬ (xs.length : Int) ≤ 16 by omega)
          go_wp2_with (go_at_call 37; refine (l1In_yes _ _ _ _ hb1 hb2).mono ?_; rintro e w' ⟨rfl, rfl⟩)
          go_ret
          exact ⟨ret_b HE.out.symm, rfl⟩
      · have hb3 : b < 2 ∨ 4 < b := by omega
        have HE := Lib.hid (areD_base xs hb3)
        have HB := Lib.hid hb3
        clear hb hb3
        go_wp2_with (go_at_call 37; refine (l1In_no _ _ _ _ HB.out).mono ?_; rintro e w' ⟨rfl, rfl⟩)
        go_ret
        exact ⟨ret_b HE.out.symm, rfl⟩
/-- The number of some digits, -1 where they are none. -/
def valV (b : Int) (xs : List Int) : Int := if areD b xs = true then valD b.toNat xs else -1
theorem valV_yes {b : Nat} {xs : List Int} (h : areD b xs = true) : valV b xs = valD b xs := by rw [valV, if_pos h]; rfl
theorem valV_no {b : Int} {xs : List Int} (h : areD b xs = false) : valV b xs = -1 := by rw [valV, if_neg (by simp [h])]
theorem val_bounds {b : Nat} {xs : List Int} (h : areD b xs = true) (i : Nat) (hi : i < xs.length) : (0 ≤ valD b (xs.take i) ∧ valD b (xs.take i) ≤ 4294967296) ∧ (0 ≤ valD b (xs.take i) * (b : Int) ∧ valD b (xs.take i) * (b : Int) ≤ 4294967296) ∧ 0 ≤ xs[i] ∧ xs[i] ≤ 4 := by
  obtain ⟨h1, h2, h3, h4⟩ := areD_out h
  have ha := valD_bd b (by omega) i xs (by omega) h4
  have hp := pow_bd b i (by omega) (by omega) (by omega)
  have hb := valD_bd b (by omega) (i + 1) xs (by omega) h4
  have hq := pow_bd b (i + 1) (by omega) (by omega) (by omega)
  have hx := h4 xs[i] (List.getElem_mem _)
  rw [List.take_succ_eq_append_getElem hi, valD_snoc] at hb
  have : 0 ≤ valD b (xs.take i) * (b : Int) := Int.mul_nonneg ha.1 (by omega)
  omega
end Digits
end Go.Proofs.Ytodnkkofammhbaa
/- Contracts of IsSteady, StateAfter and TermAt, of the program and of the model. No conditions beyond those that each states. -/
namespace Go.Proofs.Ytodnkkofammhbaa
open Go.ChangeShapes Go.WideShapes Go.ChangeAt Go.RowKit
open Go.PlainAid Plain
set_option linter.unusedVariables false
namespace Seqs
theorem IsSeq.first {b : Int} {rows : List (List Int)} {out : List Int} (h : IsSeq b rows out) : ∃ r, rows[0]? = some r ∧ r[0]? = some (nextS rows 0 0) := by
  obtain ⟨r, h1, h2, _⟩ := h.next (s := 0) (d := 0) (Int.le_refl _) (by have := h.2.2.1; omega) (Int.le_refl _) (by have := h.1; omega)
  exact ⟨r, h1, h2⟩
theorem spec_steady (v : Value) (b : Int) (rows : List (List Int)) (out : List Int) (w : World) (h : LiesS w v b rows out) :
    Calls Try.prog 72 #[v] w fun e w' => e = .returned (.bool (steadyB b rows out)) ∧ Below w.heap.size w w' := by
  have HS := Lib.hid h
  obtain ⟨an, cn, ao, co, rfl⟩ := h.form
  clear h
  have hB : Below w.heap.size w (w.alloc (Obj.cells #[Value.int .i64 b, Value.slice an rows.length cn, Value.slice ao out.length co] 27)) := (Below.refl _ _).alloc (Nat.le_refl _) _
  have HC := Lib.hid (Cells3.new w 27 (.int .i64 b) (.slice an rows.length cn) (.slice ao out.length co))
  have HB := Lib.hid hB
  clear hB
  cases hs : seqB b rows out with
  | false =>
    have HQ := Lib.hid hs
    have HE : Hid (steadyB b rows out = false) := by show _ = _; rw [steadyB, hs]; rfl
    clear hs
    go_enter Try.func72, Try.ntmps72
    go_wp2_with fail
    refine (spec_is _ b rows out _ (HS.out.below HB.out)).mono ?_
    rintro e W1 ⟨rfl, b1⟩
    have HB1 := Lib.hid (HB.out.trans (b1.mono HB.out.size))
    rw [HQ.out]
    clear b1
    go_wp2
    go_ret
    exact ⟨ret_b HE.out.symm, HB1.out⟩
  | true =>
    have HQ := Lib.hid hs
    obtain ⟨x, hx⟩ : ∃ x, x = nextS rows 0 0 := ⟨_, rfl⟩
    have HE : Hid (steadyB b rows out = (x == 0)) := by show _ = _; rw [steadyB, hs, hx]; rfl
    obtain ⟨r, hr, hr0⟩ := IsSeq.first (seqB_out hs)
    rw [← hx] at hr0
    have HR := Lib.hid hr
    have HR0 := Lib.hid hr0
    clear hs hx hr hr0
    go_enter Try.func72, Try.ntmps72
    go_wp2_with fail
    refine (spec_is _ b rows out _ (HS.out.below HB.out)).mono ?_
    rintro e W1 ⟨rfl, b1⟩
    have HB1 := Lib.hid (HB.out.trans (b1.mono HB.out.size))
    have HC1 := Lib.hid (HC.out.below b1)
    rw [HQ.out]
    clear b1
    obtain ⟨hN, _⟩ := (HS.out.below HB1.out).cells
    obtain ⟨p, o, a', c', rfl, hcell, hrow⟩ := hN 0 r HR.out
    obtain ⟨q, s, rfl, hc0⟩ := hrow 0 x HR0.out
    have hrl : 0 < r.length := (List.getElem?_eq_some_iff.1 HR0.out).1
    have hrr : 0 < rows.length := (List.getElem?_eq_some_iff.1 HR.out).1
    rw [Nat.add_zero] at hcell hc0
    clear hN hrow
    have k0 := HC1.out.c0
    have k1 := HC1.out.c1
    have k2 := HC1.out.c2
    go_wp2
    go_ret
    exact ⟨ret_b HE.out.symm, HB1.out⟩
theorem impl_steady (v : Value) (b : Int) (rows : List (List Int)) (out : List Int) (w : World) (h : LiesS w v b rows out) :
    Calls Try.prog 70 #[v] w fun e w' => e = .returned (.bool (steadyB b rows out)) ∧ Below w.heap.size w w' := by
  have HS := Lib.hid h
  obtain ⟨an, cn, ao, co, rfl⟩ := h.form
  clear h
  have hB : Below w.heap.size w (w.alloc (Obj.cells #[Value.int .i64 b, Value.slice an rows.length cn, Value.slice ao out.length co] 27)) := (Below.refl _ _).alloc (Nat.le_refl _) _
  have HC := Lib.hid (Cells3.new w 27 (.int .i64 b) (.slice an rows.length cn) (.slice ao out.length co))
  have HB := Lib.hid hB
  clear hB
  cases hs : seqB b rows out with
  | false =>
    have HQ := Lib.hid hs
    have HE : Hid (steadyB b rows out = false) := by show _ = _; rw [steadyB, hs]; rfl
    clear hs
    go_enter Try.func70, Try.ntmps70
    go_wp2_with fail
    refine (impl_is _ b rows out _ (HS.out.below HB.out)).mono ?_
    rintro e W1 ⟨rfl, b1⟩
    have HB1 := Lib.hid (HB.out.trans (b1.mono HB.out.size))
    rw [HQ.out]
    clear b1
    go_wp2
    go_ret
    exact ⟨ret_b HE.out.symm, HB1.out⟩
  | true =>
    have HQ := Lib.hid hs
    obtain ⟨x, hx⟩ : ∃ x, x = nextS rows 0 0 := ⟨_, rfl⟩
    have HE : Hid (steadyB b rows out = (x == 0)) := by show _ = _; rw [steadyB, hs, hx]; rfl
    obtain ⟨r, hr, hr0⟩ := IsSeq.first (seqB_out hs)
    rw [← hx] at hr0
    have HR := Lib.hid hr
    have HR0 := Lib.hid hr0
    clear hs hx hr hr0
    go_enter Try.func70, Try.ntmps70
    go_wp2_with fail
    refine (impl_is _ b rows out _ (HS.out.below HB.out)).mono ?_
    rintro e W1 ⟨rfl, b1⟩
    have HB1 := Lib.hid (HB.out.trans (b1.mono HB.out.size))
    have HC1 := Lib.hid (HC.out.below b1)
    rw [HQ.out]
    clear b1
    obtain ⟨hN, _⟩ := (HS.out.below HB1.out).cells
    obtain ⟨p, o, a', c', rfl, hcell, hrow⟩ := hN 0 r HR.out
    obtain ⟨q, s, rfl, hc0⟩ := hrow 0 x HR0.out
    have hrl : 0 < r.length := (List.getElem?_eq_some_iff.1 HR0.out).1
    have hrr : 0 < rows.length := (List.getElem?_eq_some_iff.1 HR.out).1
    rw [Nat.add_zero] at hcell hc0
    clear hN hrow
    have k0 := HC1.out.c0
    have k1 := HC1.out.c1
    have k2 := HC1.out.c2
    go_wp2
    go_ret
    exact ⟨ret_b HE.out.symm, HB1.out⟩
end Seqs
end Go.Proofs.Ytodnkkofammhbaa
/- Contracts of StateAfter, of the program and of the model. No conditions beyond those that each states. -/
namespace Go.Proofs.Ytodnkkofammhbaa
open Go.ChangeShapes Go.WideShapes Go.ChangeAt Go.RowKit
open Go.PlainAid Plain
set_option linter.unusedVariables false
namespace Seqs
theorem spec_after_no (v : Value) (b : Int) (rows : List (List Int)) (out : List Int) (w : World) (h : LiesS w v b rows out) (u : Value) (ds : List Int) (hu : Lies (Value.int .i64) w u ds) (hno : seqB b rows out = false ∨ areD b ds = false) :
    Calls Try.prog 43 #[v, u] w fun e w' => e = .returned (.int .i64 (-1)) ∧ Below w.heap.size w w' := by
  have HS := Lib.hid h
  obtain ⟨an, cn, ao, co, rfl⟩ := h.form
  clear h
  have hB : Below w.heap.size w (w.alloc (Obj.cells #[Value.int .i64 b, Value.slice an rows.length cn, Value.slice ao out.length co] 27)) := (Below.refl _ _).alloc (Nat.le_refl _) _
  have HC := Lib.hid (Cells3.new w 27 (.int .i64 b) (.slice an rows.length cn) (.slice ao out.length co))
  have HB := Lib.hid hB
  clear hB
  have HU := Lib.hid hu
  obtain ⟨_, au, cu, rfl, _, _⟩ := hu
  cases hs : seqB b rows out with
  | false =>
    have HQ := Lib.hid hs
    clear hs hno
    go_enter Try.func43, Try.ntmps43
    go_wp2_with fail
    refine (spec_is _ b rows out _ (HS.out.below HB.out)).mono ?_
    rintro e W1 ⟨rfl, b1⟩
    have HB1 := Lib.hid (HB.out.trans (b1.mono HB.out.size))
    rw [HQ.out]
    clear b1
    go_wp2
    go_ret
    exact ⟨rfl, HB1.out⟩
  | true =>
    have HQ := Lib.hid hs
    have HA : Hid (areD b ds = false) := by
      rcases hno with h1 | h1
      · rw [hs] at h1; cases h1
      · exact h1
    clear hs hno
    go_enter Try.func43, Try.ntmps43
    go_wp2_with fail
    refine (spec_is _ b rows out _ (HS.out.below HB.out)).mono ?_
    rintro e W1 ⟨rfl, b1⟩
    have HB1 := Lib.hid (HB.out.trans (b1.mono HB.out.size))
    have HC1 := Lib.hid (HC.out.below b1)
    rw [HQ.out]
    clear b1
    have k0 := HC1.out.c0
    have k1 := HC1.out.c1
    have k2 := HC1.out.c2
    go_wp2_with fail
    refine (Digits.spec_are _ ds b _ (HU.out.below HB1.out)).mono ?_
    rintro e w' ⟨rfl, rfl⟩
    rw [HA.out]
    go_wp2
    go_ret
    exact ⟨rfl, HB1.out⟩
theorem spec_after_yes (v : Value) (b : Int) (rows : List (List Int)) (out : List Int) (w : World) (h : LiesS w v b rows out) (u : Value) (ds : List Int) (hu : Lies (Value.int .i64) w u ds) (hs : seqB b rows out = true) (ha : areD b ds = true) :
    Calls Try.prog 43 #[v, u] w fun e w' => e = .returned (.int .i64 (afterS rows ds)) ∧ Below w.heap.size w w' := by
  have HS := Lib.hid h
  obtain ⟨an, cn, ao, co, rfl⟩ := h.form
  clear h
  have hB : Below w.heap.size w (w.alloc (Obj.cells #[Value.int .i64 b, Value.slice an rows.length cn, Value.slice ao out.length co] 27)) := (Below.refl _ _).alloc (Nat.le_refl _) _
  have HC := Lib.hid (Cells3.new w 27 (.int .i64 b) (.slice an rows.length cn) (.slice ao out.length co))
  have HB := Lib.hid hB
  clear hB
  have HU := Lib.hid hu
  obtain ⟨hul, au, cu, rfl, _, _⟩ := hu
  have HQ := Lib.hid hs
  have HA := Lib.hid ha
  have HV := Lib.hid (seqB_out hs)
  have HD := Lib.hid (areD_out ha).2.2.2
  have HN0 := Lib.hid (seqB_out hs).2.2.1
  clear hs ha
  go_enter Try.func43, Try.ntmps43
  go_wp2_with fail
  refine (spec_is _ b rows out _ (HS.out.below HB.out)).mono ?_
  rintro e W1 ⟨rfl, b1⟩
  have HB1 := Lib.hid (HB.out.trans (b1.mono HB.out.size))
  have HC1 := Lib.hid (HC.out.below b1)
  rw [HQ.out]
  clear b1
  have k0 := HC1.out.c0
  have k1 := HC1.out.c1
  have k2 := HC1.out.c2
  go_wp2_with fail
  refine (Digits.spec_are _ ds b _ (HU.out.below HB1.out)).mono ?_
  rintro e w' ⟨rfl, rfl⟩
  rw [HA.out]
  obtain ⟨hN, _⟩ := (HS.out.below HB1.out).cells
  obtain ⟨_, au', cu', hua, _, huc⟩ := HU.out.below HB1.out
  injection hua with hua1 _ _
  subst hua1
  have HN := Lib.hid hN
  have HUC := Lib.hid huc
  have HBn : Hid (∀ n, Below w.heap.size w (W1.drewN n)) := fun n => below_drewN HB1.out n
  clear hN huc
  go_wp2
  go_loopw [5, 6] (fun s' i' wr => ∃ i sn : Nat, i ≤ ds.length ∧ i' = .int .i64 i ∧ s' = .int .i64 sn ∧ Hid ((sn : Int) = afterS rows (ds.take i)) ∧ ∃ n, wr = W1.drewN n) (fun _ i' _ => ds.length - (intOf i').toNat)
  case atStart => exact ⟨0, 0, Nat.zero_le _, rfl, rfl, rfl, 0, rfl⟩
  case round =>
    obtain ⟨i, sn, hi, rfl, rfl, HI, n, rfl⟩ := hrel
    by_cases hlt : i < ds.length
    · obtain ⟨dn, yn, hd, hsn, hyn, hy, r, hr, hry⟩ := HV.out.after_step HD.out hlt HI.out
      obtain ⟨g, t, rfl, hcd⟩ := HUC.out i _ hd
      obtain ⟨p, o, a', c', rfl, hcell, hrow⟩ := HN.out sn r hr
      obtain ⟨q, s, rfl, hcy⟩ := hrow dn _ hry
      have hdn := (List.getElem?_eq_some_iff.1 hry).1
      have HY := Lib.hid hy
      clear hd hy hr hry hrow
      go_wp2
      go_quiet (fail)
      go_wp2
      go_roundw
      case rel => exact ⟨i + 1, yn, by omega, by go_num, rfl, HY.out, _, rfl⟩
      case measure => simp [intOf]; omega
    · have HE : Hid ((sn : Int) = afterS rows ds) := by
        have := HI.out
        rw [List.take_of_length_le (by omega)] at this
        exact this
      go_wp2
      go_ret
      exact ⟨ret_i HE.out, HBn.out _⟩
theorem impl_walk (v : Value) (b : Int) (rows : List (List Int)) (out : List Int) (w : World) (h : LiesS w v b rows out) (u : Value) (ds : List Int) (hu : Lies (Value.int .i64) w u ds) (hv : IsSeq b rows out) (hd : ∀ d ∈ ds, 0 ≤ d ∧ d < b) :
    Calls Try.prog 66 #[v, u] w fun e w' => e = .returned (.int .i64 (afterS rows ds)) ∧ Below w.heap.size w w' := by
  have HS := Lib.hid h
  obtain ⟨an, cn, ao, co, rfl⟩ := h.form
  clear h
  have hB : Below w.heap.size w (w.alloc (Obj.cells #[Value.int .i64 b, Value.slice an rows.length cn, Value.slice ao out.length co] 27)) := (Below.refl _ _).alloc (Nat.le_refl _) _
  have HC := Lib.hid (Cells3.new w 27 (.int .i64 b) (.slice an rows.length cn) (.slice ao out.length co))
  have HB := Lib.hid hB
  clear hB
  have HU := Lib.hid hu
  obtain ⟨hul, au, cu, rfl, _, _⟩ := hu
  have HV := Lib.hid hv
  have HD := Lib.hid hd
  clear hv hd
  obtain ⟨W, hW⟩ : ∃ W, W = w.alloc (Obj.cells #[Value.int .i64 b, Value.slice an rows.length cn, Value.slice ao out.length co] 27) := ⟨_, rfl⟩
  obtain ⟨z, hz⟩ : ∃ z, z = w.heap.size := ⟨_, rfl⟩
  go_enter Try.func66, Try.ntmps66
  go_wp2
  rw [← hW] at HC HB ⊢
  obtain ⟨hN, _⟩ := (HS.out.below HB.out).cells
  obtain ⟨_, au', cu', hua, _, huc⟩ := HU.out.below HB.out
  injection hua with hua1 _ _
  subst hua1
  have HN := Lib.hid hN
  have HUC := Lib.hid huc
  have k1 := HC.out.c1
  rw [← hz] at k1 ⊢
  clear hN huc hW hz
  go_loop [5, 10] (fun s' i' => ∃ i sn : Nat, i ≤ ds.length ∧ i' = .int .i64 i ∧ s' = .int .i64 sn ∧ Hid ((sn : Int) = afterS rows (ds.take i))) (fun _ i' => ds.length - (intOf i').toNat)
  case atStart => exact ⟨0, 0, Nat.zero_le _, rfl, rfl, rfl⟩
  case round =>
    obtain ⟨i, sn, hi, rfl, rfl, HI⟩ := hrel
    by_cases hlt : i < ds.length
    · obtain ⟨dn, yn, hd, hsn, hyn, hy, r, hr, hry⟩ := HV.out.after_step HD.out hlt HI.out
      obtain ⟨g, t, rfl, hcd⟩ := HUC.out i _ hd
      obtain ⟨p, o, a', c', rfl, hcell, hrow⟩ := HN.out sn r hr
      obtain ⟨q, s, rfl, hcy⟩ := hrow dn _ hry
      have hdn := (List.getElem?_eq_some_iff.1 hry).1
      have HY := Lib.hid hy
      clear hd hy hr hry hrow
      go_wp2
      go_round
      case rel => exact ⟨i + 1, yn, by omega, by go_num, rfl, HY.out⟩
      case measure => simp [intOf]; omega
    · have HE : Hid ((sn : Int) = afterS rows ds) := by
        have := HI.out
        rw [List.take_of_length_le (by omega)] at this
        exact this
      go_wp2
      go_ret
      exact ⟨ret_i HE.out, HB.out⟩
theorem spec_after (v : Value) (b : Int) (rows : List (List Int)) (out : List Int) (w : World) (h : LiesS w v b rows out) (u : Value) (ds : List Int) (hu : Lies (Value.int .i64) w u ds) :
    Calls Try.prog 43 #[v, u] w fun e w' => e = .returned (.int .i64 (afterV b rows out (areD b ds) ds)) ∧ Below w.heap.size w w' := by
  cases hs : seqB b rows out with
  | false => rw [afterV, if_neg (by simp [hs])]; exact spec_after_no v b rows out w h u ds hu (.inl hs)
  | true =>
    cases ha : areD b ds with
    | false => rw [afterV, if_neg (by simp)]; exact spec_after_no v b rows out w h u ds hu (.inr ha)
    | true => rw [afterV, if_pos ⟨hs, rfl⟩]; exact spec_after_yes v b rows out w h u ds hu hs ha
end Seqs
end Go.Proofs.Ytodnkkofammhbaa
/- Contracts of TermAt, of the program and of the model. No conditions beyond those that each states. -/
namespace Go.Proofs.Ytodnkkofammhbaa
open Go.ChangeShapes Go.WideShapes Go.ChangeAt Go.RowKit
open Go.PlainAid Plain
set_option linter.unusedVariables false
namespace Seqs
theorem cell_below {w w' : World} {p : Addr} {x : Value} (h : w.cell? p = some x) (hb : Below w.heap.size w w') : w'.cell? p = some x := (hb.cell (World.block_lt_of_cell? w p h)).trans h
open Digits
/-- May the term be asked for? -/
def askB (b : Int) (rows : List (List Int)) (out : List Int) (n : Int) : Bool := seqB b rows out && decide (0 ≤ n) && decide (n < powV b 16)
/-- The term n, -1 where it may not be asked for. -/
def termV (b : Int) (rows : List (List Int)) (out : List Int) (n : Int) : Int := if askB b rows out n = true then out.getD (afterS rows (digV n b)).toNat 0 else -1
theorem dig_ok {b : Int} {rows : List (List Int)} {out : List Int} (h : IsSeq b rows out) (n : Int) : (∀ d ∈ digV n b, 0 ≤ d ∧ d < b) ∧ areD b (digV n b) = true := by
  have hm : ∀ d ∈ digV n b, 0 ≤ d ∧ d < b := by
    intro d hd
    unfold digV at hd
    split at hd
    · have := digs_mem n.toNat b.toNat (by have := h.1; omega) d hd
      have := h.1
      omega
    · cases hd
  exact ⟨hm, areD_yes h.1 h.2.1 (digV_len n b) hm⟩
set_option maxHeartbeats 1000000 in
theorem impl_term (v : Value) (b : Int) (rows : List (List Int)) (out : List Int) (w : World) (h : LiesS w v b rows out) (n : Int) (hv : IsSeq b rows out) :
    Calls Try.prog 40 #[v, .int .i64 n] w fun e w' => e = .returned (.int .i64 (out.getD (afterS rows (digV n b)).toNat 0)) ∧ Below w.heap.size w w' := by
  have HS := Lib.hid h
  obtain ⟨an, cn, ao, co, rfl⟩ := h.form
  clear h
  have hB : Below w.heap.size w (w.alloc (Obj.cells #[Value.int .i64 b, Value.slice an rows.length cn, Value.slice ao out.length co] 27)) := (Below.refl _ _).alloc (Nat.le_refl _) _
  have HC := Lib.hid (Cells3.new w 27 (.int .i64 b) (.slice an rows.length cn) (.slice ao out.length co))
  have HB := Lib.hid hB
  clear hB
  obtain ⟨hdm, hda⟩ := dig_ok hv n
  obtain ⟨sn, hsn, hsl, hso⟩ := hv.term_at hdm
  obtain ⟨t, ht⟩ : ∃ t, t = out.getD (afterS rows (digV n b)).toNat 0 := ⟨_, rfl⟩
  rw [← ht] at hso ⊢
  have HSN := Lib.hid hsn
  have HV := Lib.hid hv
  have HDM := Lib.hid hdm
  clear hv hda hsn ht hdm
  go_enter Try.func40, Try.ntmps40
  go_wp2_with fail
  obtain ⟨W1, hW⟩ : ∃ W, W = w.alloc (Obj.cells #[Value.int .i64 b, Value.slice an rows.length cn, Value.slice ao out.length co] 27) := ⟨_, rfl⟩
  rw [← hW] at HC HB ⊢
  have HC1 := Lib.hid HC.out
  have HB1 := Lib.hid HB.out
  obtain ⟨_, hO⟩ := (HS.out.below HB1.out).cells
  obtain ⟨q, s, rfl, hct⟩ := hO sn t hso
  clear hO hW HC HB hso
  have hs0 : (0 : Int) ≤ (sn : Int) := Int.natCast_nonneg _
  have hs1 : (sn : Int) < (out.length : Int) := by omega
  have bd := below_drew' W1
  have HCd := Lib.hid (HC1.out.below bd)
  have HBd := Lib.hid (HB1.out.trans (bd.mono HB1.out.size))
  have hcd := Lib.hid (cell_below hct bd)
  obtain ⟨Wd, hWd⟩ : ∃ W, W = W1.drew := ⟨_, rfl⟩
  rw [← hWd] at HCd HBd hcd
  clear bd hct
  go_region_held3 (fun w' => w'.cell? ⟨w.heap.size, 0, none⟩ = some (.int .i64 b) ∧ w'.cell? ⟨w.heap.size, 1, none⟩ = some (.slice an rows.length cn) ∧ w'.cell? ⟨w.heap.size, 2, none⟩ = some (.slice (some ⟨q, s, none⟩) out.length co) ∧ w'.cell? ⟨q, s + sn, none⟩ = some (.int .i64 t))
    (first | (rw [← hWd]; exact ⟨HCd.out.c0, HCd.out.c1, HCd.out.c2, hcd.out⟩) | exact ⟨(HCd.out.below bt).c0, (HCd.out.below bt).c1, (HCd.out.below bt).c2, cell_below hcd.out bt⟩ | exact ⟨((HCd.out.below bt).below bu).c0, ((HCd.out.below bt).below bu).c1, ((HCd.out.below bt).below bu).c2, cell_below (cell_below hcd.out bt) bu⟩)
    (first | (go_at_call 67; rw [← hWd]; refine (impl_digits_any n b _).mono ?_; rintro e Wt ⟨vt, rfl, ht, bt⟩) | (go_at_call 66; refine (impl_walk _ b rows out _ (HS.out.below (HBd.out.trans (bt.mono HBd.out.size))) _ (digV n b) ht.lies HV.out HDM.out).mono ?_; rintro e Wu ⟨rfl, bu⟩; rw [← HSN.out]))
  have HBe := Lib.hid ((HBd.out.trans (bt.mono HBd.out.size)).trans (bu.mono (HBd.out.trans (bt.mono HBd.out.size)).size))
  clear bt bu ht hWd HBd HCd hcd
  go_wp2
  go_ret
  exact ⟨rfl, HBe.out⟩
set_option maxHeartbeats 1000000 in
theorem spec_term_yes (v : Value) (b : Int) (rows : List (List Int)) (out : List Int) (w : World) (h : LiesS w v b rows out) (n : Int) (hq : seqB b rows out = true) (h0 : 0 ≤ n) (h1 : n < powV b 16) :
    Calls Try.prog 12 #[v, .int .i64 n] w fun e w' => e = .returned (.int .i64 (out.getD (afterS rows (digV n b)).toNat 0)) ∧ Below w.heap.size w w' := by
  have HS := Lib.hid h
  obtain ⟨an, cn, ao, co, rfl⟩ := h.form
  clear h
  have hB : Below w.heap.size w (w.alloc (Obj.cells #[Value.int .i64 b, Value.slice an rows.length cn, Value.slice ao out.length co] 27)) := (Below.refl _ _).alloc (Nat.le_refl _) _
  have HC := Lib.hid (Cells3.new w 27 (.int .i64 b) (.slice an rows.length cn) (.slice ao out.length co))
  have HB := Lib.hid hB
  clear hB
  have hv := seqB_out hq
  obtain ⟨hdm, hda⟩ := dig_ok hv n
  obtain ⟨sn, hsn, hsl, hso⟩ := hv.term_at hdm
  obtain ⟨t, ht⟩ : ∃ t, t = out.getD (afterS rows (digV n b)).toNat 0 := ⟨_, rfl⟩
  rw [← ht] at hso ⊢
  have HSN := Lib.hid hsn
  have HQ := Lib.hid hq
  have HDA := Lib.hid hda
  have HSO := Lib.hid hso
  have HP := Lib.hid (fun w => spec_pow_any b 16 w)
  obtain ⟨p, hp⟩ : ∃ p, p = powV b 16 := ⟨_, rfl⟩
  rw [← hp] at HP h1
  clear hv hda hsn ht hdm hq hso hp
  have hd0 := decide_eq_false (show ¬ n < 0 by omega)
  have hd1 := decide_eq_false (show ¬ p ≤ n by omega)
  go_enter Try.func12, Try.ntmps12
  go_wp2_with fail
  refine (spec_is _ b rows out _ (HS.out.below HB.out)).mono ?_
  rintro e W1 ⟨rfl, b1⟩
  have HB1 := Lib.hid (HB.out.trans (b1.mono HB.out.size))
  have HC1 := Lib.hid (HC.out.below b1)
  rw [HQ.out]
  clear b1 HB HC
  have k0 := HC1.out.c0
  have k1 := HC1.out.c1
  have k2 := HC1.out.c2
  go_wp2_with fail
  refine (HP.out _).mono ?_
  rintro e w' ⟨rfl, rfl⟩
  go_wp2_with fail
  obtain ⟨_, hO⟩ := (HS.out.below HB1.out).cells
  obtain ⟨q, s, rfl, hct⟩ := hO sn t HSO.out
  clear hO k0 k1 k2
  have hs0 : (0 : Int) ≤ (sn : Int) := Int.natCast_nonneg _
  have hs1 : (sn : Int) < (out.length : Int) := by omega
  have bd := below_drew' W1
  have HCd := Lib.hid (HC1.out.below bd)
  have HBd := Lib.hid (HB1.out.trans (bd.mono HB1.out.size))
  have hcd := Lib.hid (cell_below hct bd)
  obtain ⟨Wd, hWd⟩ : ∃ W, W = W1.drew := ⟨_, rfl⟩
  rw [← hWd] at HCd HBd hcd
  clear bd hct
  go_region_held3 (fun w' => w'.cell? ⟨w.heap.size, 0, none⟩ = some (.int .i64 b) ∧ w'.cell? ⟨w.heap.size, 1, none⟩ = some (.slice an rows.length cn) ∧ w'.cell? ⟨w.heap.size, 2, none⟩ = some (.slice (some ⟨q, s, none⟩) out.length co) ∧ w'.cell? ⟨q, s + sn, none⟩ = some (.int .i64 t))
    (first | (rw [← hWd]; exact ⟨HCd.out.c0, HCd.out.c1, HCd.out.c2, hcd.out⟩) | exact ⟨(HCd.out.below bt).c0, (HCd.out.below bt).c1, (HCd.out.below bt).c2, cell_below hcd.out bt⟩ | exact ⟨((HCd.out.below bt).below bu).c0, ((HCd.out.below bt).below bu).c1, ((HCd.out.below bt).below bu).c2, cell_below (cell_below hcd.out bt) bu⟩)
    (first | (go_at_call 44; rw [← hWd]; refine (spec_digits_any n b _).mono ?_; rintro e Wt ⟨vt, rfl, ht, bt⟩) | (go_at_call 43; refine (spec_after_yes _ b rows out _ (HS.out.below (HBd.out.trans (bt.mono HBd.out.size))) _ (digV n b) ht.lies HQ.out HDA.out).mono ?_; rintro e Wu ⟨rfl, bu⟩; rw [← HSN.out]))
  have HBe := Lib.hid ((HBd.out.trans (bt.mono HBd.out.size)).trans (bu.mono (HBd.out.trans (bt.mono HBd.out.size)).size))
  clear bt bu ht hWd HBd HCd hcd
  go_wp2
  go_ret
  exact ⟨rfl, HBe.out⟩
theorem impl_term_yes (v : Value) (b : Int) (rows : List (List Int)) (out : List Int) (w : World) (h : LiesS w v b rows out) (n : Int) (hq : seqB b rows out = true) (h0 : 0 ≤ n) (h1 : n < powV b 16) :
    Calls Try.prog 10 #[v, .int .i64 n] w fun e w' => e = .returned (.int .i64 (out.getD (afterS rows (digV n b)).toNat 0)) ∧ Below w.heap.size w w' := by
  have HS := Lib.hid h
  obtain ⟨an, cn, ao, co, rfl⟩ := h.form
  clear h
  have hB : Below w.heap.size w (w.alloc (Obj.cells #[Value.int .i64 b, Value.slice an rows.length cn, Value.slice ao out.length co] 27)) := (Below.refl _ _).alloc (Nat.le_refl _) _
  have HC := Lib.hid (Cells3.new w 27 (.int .i64 b) (.slice an rows.length cn) (.slice ao out.length co))
  have HB := Lib.hid hB
  clear hB
  have HV := Lib.hid (seqB_out hq)
  have HQ := Lib.hid hq
  have HP := Lib.hid (fun w => impl_pow_any b 16 w)
  obtain ⟨p, hp⟩ : ∃ p, p = powV b 16 := ⟨_, rfl⟩
  rw [← hp] at HP h1
  obtain ⟨t, ht⟩ : ∃ t, t = out.getD (afterS rows (digV n b)).toNat 0 := ⟨_, rfl⟩
  have HT := Lib.hid ht
  rw [← ht]
  clear hq hp ht
  have hd0 := decide_eq_false (show ¬ n < 0 by omega)
  have hd1 := decide_eq_false (show ¬ p ≤ n by omega)
  go_enter Try.func10, Try.ntmps10
  go_wp2_with fail
  refine (impl_is _ b rows out _ (HS.out.below HB.out)).mono ?_
  rintro e W1 ⟨rfl, b1⟩
  have HB1 := Lib.hid (HB.out.trans (b1.mono HB.out.size))
  have HC1 := Lib.hid (HC.out.below b1)
  rw [HQ.out]
  clear b1 HB HC
  have k0 := HC1.out.c0
  have k1 := HC1.out.c1
  have k2 := HC1.out.c2
  go_wp2_with fail
  refine (HP.out _).mono ?_
  rintro e w' ⟨rfl, rfl⟩
  go_wp2_with fail
  refine (impl_term _ b rows out _ (HS.out.below HB1.out) n HV.out).mono ?_
  rintro e W2 ⟨rfl, b2⟩
  have HB2 := Lib.hid (HB1.out.trans (b2.mono HB1.out.size))
  rw [← HT.out]
  clear b2 k0 k1 k2
  go_wp2
  go_ret
  exact ⟨rfl, HB2.out⟩
theorem spec_term_no (v : Value) (b : Int) (rows : List (List Int)) (out : List Int) (w : World) (h : LiesS w v b rows out) (n : Int) (hno : askB b rows out n = false) :
    Calls Try.prog 12 #[v, .int .i64 n] w fun e w' => e = .returned (.int .i64 (-1)) ∧ Below w.heap.size w w' := by
  have HS := Lib.hid h
  obtain ⟨an, cn, ao, co, rfl⟩ := h.form
  clear h
  have hB : Below w.heap.size w (w.alloc (Obj.cells #[Value.int .i64 b, Value.slice an rows.length cn, Value.slice ao out.length co] 27)) := (Below.refl _ _).alloc (Nat.le_refl _) _
  have HC := Lib.hid (Cells3.new w 27 (.int .i64 b) (.slice an rows.length cn) (.slice ao out.length co))
  have HB := Lib.hid hB
  clear hB
  by_cases h0 : n < 0
  · have hd0 := decide_eq_true h0
    clear hno h0
    go_enter Try.func12, Try.ntmps12
    go_wp2
    go_ret
    exact ⟨rfl, HB.out⟩
  · have hd0 := decide_eq_false h0
    cases hq : seqB b rows out with
    | false =>
      have HQ := Lib.hid hq
      clear hq hno
      go_enter Try.func12, Try.ntmps12
      go_wp2_with fail
      refine (spec_is _ b rows out _ (HS.out.below HB.out)).mono ?_
      rintro e W1 ⟨rfl, b1⟩
      have HB1 := Lib.hid (HB.out.trans (b1.mono HB.out.size))
      have HC1 := Lib.hid (HC.out.below b1)
      rw [HQ.out]
      clear b1 HB HC
      go_wp2
      go_ret
      exact ⟨rfl, HB1.out⟩
    | true =>
      have HQ := Lib.hid hq
      have hp : powV b 16 ≤ n := by
        simp only [askB, hq, Bool.true_and, Bool.and_eq_false_iff, decide_eq_false_iff_not] at hno
        omega
      have HP := Lib.hid (fun w => spec_pow_any b 16 w)
      obtain ⟨p, hpp⟩ : ∃ p, p = powV b 16 := ⟨_, rfl⟩
      rw [← hpp] at HP hp
      have hd1 := decide_eq_true hp
      clear hq hno hpp
      go_enter Try.func12, Try.ntmps12
      go_wp2_with fail
      refine (spec_is _ b rows out _ (HS.out.below HB.out)).mono ?_
      rintro e W1 ⟨rfl, b1⟩
      have HB1 := Lib.hid (HB.out.trans (b1.mono HB.out.size))
      have HC1 := Lib.hid (HC.out.below b1)
      rw [HQ.out]
      clear b1 HB HC
      have k0 := HC1.out.c0
      have k1 := HC1.out.c1
      have k2 := HC1.out.c2
      go_wp2_with fail
      refine (HP.out _).mono ?_
      rintro e w' ⟨rfl, rfl⟩
      go_wp2
      go_ret
      exact ⟨rfl, HB1.out⟩
theorem impl_term_no (v : Value) (b : Int) (rows : List (List Int)) (out : List Int) (w : World) (h : LiesS w v b rows out) (n : Int) (hno : askB b rows out n = false) :
    Calls Try.prog 10 #[v, .int .i64 n] w fun e w' => e = .returned (.int .i64 (-1)) ∧ Below w.heap.size w w' := by
  have HS := Lib.hid h
  obtain ⟨an, cn, ao, co, rfl⟩ := h.form
  clear h
  have hB : Below w.heap.size w (w.alloc (Obj.cells #[Value.int .i64 b, Value.slice an rows.length cn, Value.slice ao out.length co] 27)) := (Below.refl _ _).alloc (Nat.le_refl _) _
  have HC := Lib.hid (Cells3.new w 27 (.int .i64 b) (.slice an rows.length cn) (.slice ao out.length co))
  have HB := Lib.hid hB
  clear hB
  by_cases h0 : n < 0
  · have hd0 := decide_eq_true h0
    clear hno h0
    cases hq : seqB b rows out with
    | false =>
      have HQ := Lib.hid hq
      clear hq
      go_enter Try.func10, Try.ntmps10
      go_wp2_with fail
      refine (impl_is _ b rows out _ (HS.out.below HB.out)).mono ?_
      rintro e W1 ⟨rfl, b1⟩
      have HB1 := Lib.hid (HB.out.trans (b1.mono HB.out.size))
      have HC1 := Lib.hid (HC.out.below b1)
      rw [HQ.out]
      clear b1 HB HC
      go_wp2
      go_ret
      exact ⟨rfl, HB1.out⟩
    | true =>
      have HQ := Lib.hid hq
      clear hq
      go_enter Try.func10, Try.ntmps10
      go_wp2_with fail
      refine (impl_is _ b rows out _ (HS.out.below HB.out)).mono ?_
      rintro e W1 ⟨rfl, b1⟩
      have HB1 := Lib.hid (HB.out.trans (b1.mono HB.out.size))
      have HC1 := Lib.hid (HC.out.below b1)
      rw [HQ.out]
      clear b1 HB HC
      have k0 := HC1.out.c0
      have k1 := HC1.out.c1
      have k2 := HC1.out.c2
      go_wp2
      go_ret
      exact ⟨rfl, HB1.out⟩
  · have hd0 := decide_eq_false h0
    cases hq : seqB b rows out with
    | false =>
      have HQ := Lib.hid hq
      clear hq hno
      go_enter Try.func10, Try.ntmps10
      go_wp2_with fail
      refine (impl_is _ b rows out _ (HS.out.below HB.out)).mono ?_
      rintro e W1 ⟨rfl, b1⟩
      have HB1 := Lib.hid (HB.out.trans (b1.mono HB.out.size))
      have HC1 := Lib.hid (HC.out.below b1)
      rw [HQ.out]
      clear b1 HB HC
      go_wp2
      go_ret
      exact ⟨rfl, HB1.out⟩
    | true =>
      have HQ := Lib.hid hq
      have hp : powV b 16 ≤ n := by
        simp only [askB, hq, Bool.true_and, Bool.and_eq_false_iff, decide_eq_false_iff_not] at hno
        omega
      have HP := Lib.hid (fun w => impl_pow_any b 16 w)
      obtain ⟨p, hpp⟩ : ∃ p, p = powV b 16 := ⟨_, rfl⟩
      rw [← hpp] at HP hp
      have hd1 := decide_eq_true hp
      clear hq hno hpp
      go_enter Try.func10, Try.ntmps10
      go_wp2_with fail
      refine (impl_is _ b rows out _ (HS.out.below HB.out)).mono ?_
      rintro e W1 ⟨rfl, b1⟩
      have HB1 := Lib.hid (HB.out.trans (b1.mono HB.out.size))
      have HC1 := Lib.hid (HC.out.below b1)
      rw [HQ.out]
      clear b1 HB HC
      have k0 := HC1.out.c0
      have k1 := HC1.out.c1
      have k2 := HC1.out.c2
      go_wp2_with fail
      refine (HP.out _).mono ?_
      rintro e w' ⟨rfl, rfl⟩
      go_wp2
      go_ret
      exact ⟨rfl, HB1.out⟩
theorem spec_termat (v : Value) (b : Int) (rows : List (List Int)) (out : List Int) (w : World) (h : LiesS w v b rows out) (n : Int) :
    Calls Try.prog 12 #[v, .int .i64 n] w fun e w' => e = .returned (.int .i64 (termV b rows out n)) ∧ Below w.heap.size w w' := by
  cases hs : askB b rows out n with
  | false => rw [termV, if_neg (by simp [hs])]; exact spec_term_no v b rows out w h n hs
  | true =>
    rw [termV, if_pos hs]
    simp only [askB, Bool.and_eq_true, decide_eq_true_eq] at hs
    exact spec_term_yes v b rows out w h n hs.1.1 hs.1.2 hs.2
theorem impl_termat (v : Value) (b : Int) (rows : List (List Int)) (out : List Int) (w : World) (h : LiesS w v b rows out) (n : Int) :
    Calls Try.prog 10 #[v, .int .i64 n] w fun e w' => e = .returned (.int .i64 (termV b rows out n)) ∧ Below w.heap.size w w' := by
  cases hs : askB b rows out n with
  | false => rw [termV, if_neg (by simp [hs])]; exact impl_term_no v b rows out w h n hs
  | true =>
    rw [termV, if_pos hs]
    simp only [askB, Bool.and_eq_true, decide_eq_true_eq] at hs
    exact impl_term_yes v b rows out w h n hs.1.1 hs.1.2 hs.2
end Seqs
end Go.Proofs.Ytodnkkofammhbaa
/- Contracts of PrefixOf, of the program and of the model. No conditions beyond those that each states. -/
namespace Go.Proofs.Ytodnkkofammhbaa
open Go.ChangeShapes Go.WideShapes Go.ChangeAt Go.RowKit
open Go.PlainAid Plain
set_option linter.unusedVariables false
namespace Seqs
open Digits
/-- The term n, told without a look whether it may be asked for. -/
def termG (b : Int) (rows : List (List Int)) (out : List Int) (i : Nat) : Int := out.getD (afterS rows (digV (i : Int) b)).toNat 0
def termsG (b : Int) (rows : List (List Int)) (out : List Int) (i : Nat) : List Int := (List.range i).map (termG b rows out)
theorem termsG_len (b : Int) (rows : List (List Int)) (out : List Int) (i : Nat) : (termsG b rows out i).length = i := by simp [termsG]
theorem termsG_succ (b : Int) (rows : List (List Int)) (out : List Int) (i : Nat) : termsG b rows out (i + 1) = termsG b rows out i ++ [termG b rows out i] := by simp [termsG, List.range_succ]
theorem termsG_set (b : Int) (rows : List (List Int)) (out : List Int) (i m : Nat) (h : i < m) : ((termsG b rows out i ++ List.replicate (m - i) 0).map (Value.int .i64)).set i (.int .i64 (termG b rows out i)) = (termsG b rows out (i + 1) ++ List.replicate (m - (i + 1)) 0).map (Value.int .i64) := by
  rw [show m - i = (m - (i + 1)) + 1 from by omega, List.replicate_succ, List.map_append, List.map_cons, set_mid _ _ _ _ i (by rw [List.length_map, termsG_len]), termsG_succ, List.append_assoc, List.map_append]
  rfl
/-- May the terms be asked for? -/
def prefB (b : Int) (rows : List (List Int)) (out : List Int) (n : Int) : Bool := seqB b rows out && decide (1 ≤ n) && decide (n ≤ 256)
/-- The terms before n, none where they may not be asked for. -/
def prefV (b : Int) (rows : List (List Int)) (out : List Int) (n : Int) : List Int := if prefB b rows out n = true then termsG b rows out n.toNat else []
theorem prefV_len (b : Int) (rows : List (List Int)) (out : List Int) (n : Int) : (prefV b rows out n).length ≤ 256 := by
  unfold prefV
  split
  · rename_i h
    simp only [prefB, Bool.and_eq_true, decide_eq_true_eq] at h
    rw [termsG_len]
    omega
  · simp
theorem ask_small {b : Int} {rows : List (List Int)} {out : List Int} (h : seqB b rows out = true) (i : Nat) (hi : i ≤ 256) : termV b rows out (i : Int) = termG b rows out i := by
  have hb := seqB_out h
  have h2 : (i : Int) < powV b 16 := by
    obtain ⟨n, rfl⟩ := Int.eq_ofNat_of_zero_le (show 0 ≤ b by have := hb.1; omega)
    have hn := hb.1
    rw [powV_in n (by omega) (by have := hb.2.1; omega)]
    have h3 : 2 ^ 16 ≤ n ^ 16 := Nat.pow_le_pow_left (by omega) 16
    have h4 : (2 : Nat) ^ 16 = 65536 := by decide
    omega
  rw [termV, if_pos (by simp [askB, h, h2])]
  rfl
end Seqs
end Go.Proofs.Ytodnkkofammhbaa
/- Contracts of FirstDifference, of the program and of the model. No conditions beyond those that each states. -/
namespace Go.Proofs.Ytodnkkofammhbaa
open Go.ChangeShapes Go.WideShapes Go.ChangeAt Go.RowKit
open Go.PlainAid Plain
set_option linter.unusedVariables false
namespace Mins
open Seqs Digits
/-- The first number before 2000 whose terms differ. -/
def diffAt (b : Int) (rows : List (List Int)) (out : List Int) (rows' : List (List Int)) (out' : List Int) : Option Nat := (List.range 2000).find? fun n => decide (¬ termG b rows out n = termG b rows' out' n)
def diffOK (b b' : Int) (rows rows' : List (List Int)) (out out' : List Int) : Bool := seqB b rows out && seqB b' rows' out' && decide (b = b')
def diffV (b b' : Int) (rows rows' : List (List Int)) (out out' : List Int) : Int := if diffOK b b' rows rows' out out' = true then ((diffAt b rows out rows' out').getD 0 : Nat) else 0
def diffK (b b' : Int) (rows rows' : List (List Int)) (out out' : List Int) : Bool := diffOK b b' rows rows' out out' && (diffAt b rows out rows' out').isSome
theorem range_find {p : Nat → Bool} {n m : Nat} (h : m < n) (hp : p m = true) (hn : ∀ j < m, p j = false) : (List.range n).find? p = some m := by
  rw [List.find?_range_eq_some]
  exact ⟨hp, List.mem_range.2 h, fun j hj => by simp [hn j hj]⟩
theorem diffAt_some {b : Int} {rows rows' : List (List Int)} {out out' : List Int} {m : Nat} (h : m < 2000) (hp : ¬ termG b rows out m = termG b rows' out' m) (hn : ∀ j < m, termG b rows out j = termG b rows' out' j) : diffAt b rows out rows' out' = some m :=
  range_find h (decide_eq_true hp) fun j hj => decide_eq_false fun h => h (hn j hj)
theorem diffAt_none {b : Int} {rows rows' : List (List Int)} {out out' : List Int} (hn : ∀ j < 2000, termG b rows out j = termG b rows' out' j) : diffAt b rows out rows' out' = none := by
  rw [diffAt, List.find?_eq_none]
  intro j hj
  simp [hn j (List.mem_range.1 hj)]
theorem ask_small' {b : Int} {rows : List (List Int)} {out : List Int} (h : seqB b rows out = true) (i : Nat) (hi : i ≤ 4000) : termV b rows out (i : Int) = termG b rows out i := by
  have hb := seqB_out h
  have h2 : (i : Int) < powV b 16 := by
    obtain ⟨n, rfl⟩ := Int.eq_ofNat_of_zero_le (show 0 ≤ b by have := hb.1; omega)
    have hn := hb.1
    rw [powV_in n (by omega) (by have := hb.2.1; omega)]
    have h3 : 2 ^ 16 ≤ n ^ 16 := Nat.pow_le_pow_left (by omega) 16
    have h4 : (2 : Nat) ^ 16 = 65536 := by decide
    omega
  rw [termV, if_pos (by simp [askB, h, h2])]
  rfl
theorem ret_nb {m m' : Int} {c c' : Bool} (h1 : m = m') (h2 : c = c') : Ending.returned (.tuple #[.int .i64 m, .bool c]) = .returned (.tuple #[.int .i64 m', .bool c']) := by rw [h1, h2]
theorem six {w1 : World} {b1 b2 : Nat} {t : TypeId} {x y z x' y' z' : Value} (h1 : Cells3 w1 b1 t x y z) (h2 : Cells3 w1 b2 t x' y' z') :
    w1.cell? ⟨b1, 0, none⟩ = some x ∧ w1.cell? ⟨b1, 1, none⟩ = some y ∧ w1.cell? ⟨b1, 2, none⟩ = some z ∧ w1.cell? ⟨b2, 0, none⟩ = some x' ∧ w1.cell? ⟨b2, 1, none⟩ = some y' ∧ w1.cell? ⟨b2, 2, none⟩ = some z' := ⟨h1.c0, h1.c1, h1.c2, h2.c0, h2.c1, h2.c2⟩
end Mins
end Go.Proofs.Ytodnkkofammhbaa
/- Plain facts on lists without repetition: how many elements they can have, an element put behind a list that lacks it, the different elements of a list and their numbers. No conditions beyond those that each fact states. -/
namespace Go.Proofs.Ytodnkkofammhbaa.Plain
set_option linter.unusedVariables false
/-! ### lists without repetition -/
theorem nodup_sub_len {α : Type} [DecidableEq α] : ∀ (l m : List α), l.Nodup → (∀ x ∈ l, x ∈ m) → l.length ≤ m.length
  | [], _, _, _ => Nat.zero_le _
  | a :: l, m, hn, hs => by
    have ha : a ∈ m := hs a (by simp)
    rw [List.nodup_cons] at hn
    have h1 := nodup_sub_len l (m.erase a) hn.2 (fun x hx => (List.mem_erase_of_ne (fun e => hn.1 (by rw [← e]; exact hx))).2 (hs x (by simp [hx])))
    rw [List.length_erase_of_mem ha] at h1
    have : 0 < m.length := List.length_pos_of_mem ha
    simp
    omega
theorem nodup_of_sub_len {α : Type} [DecidableEq α] : ∀ (l m : List α), l.Nodup → (∀ x ∈ l, x ∈ m) → m.length ≤ l.length → m.Nodup
  | [], m, _, _, hl => by
    have : m = [] := List.eq_nil_of_length_eq_zero (by simpa using hl)
    subst this
    exact List.nodup_nil
  | a :: l, m, hn, hs, hl => by
    have ha : a ∈ m := hs a (by simp)
    have hn' := hn
    rw [List.nodup_cons] at hn
    have hs' : ∀ x ∈ l, x ∈ m.erase a := fun x hx => (List.mem_erase_of_ne (fun e => hn.1 (by rw [← e]; exact hx))).2 (hs x (by simp [hx]))
    have hle : (m.erase a).length = m.length - 1 := List.length_erase_of_mem ha
    have h0 : 0 < m.length := List.length_pos_of_mem ha
    have hl' : m.length ≤ l.length + 1 := by simpa using hl
    have h1 := nodup_of_sub_len l (m.erase a) hn.2 hs' (by omega)
    have hna : a ∉ m.erase a := fun h2 => by
      have h3 := nodup_sub_len (a :: l) (m.erase a) hn' (fun x hx => by
        rcases List.mem_cons.1 hx with rfl | hx
        · exact h2
        · exact hs' x hx)
      simp at h3
      omega
    exact (List.perm_cons_erase ha).nodup_iff.2 (List.nodup_cons.2 ⟨hna, h1⟩)
theorem nodup_bounded (l : List Int) (N : Nat) (hn : l.Nodup) (hb : ∀ x ∈ l, 0 ≤ x ∧ x < N) : l.length ≤ N := by
  have h := nodup_sub_len l ((List.range N).map (fun n : Nat => (n : Int))) hn (fun x hx => by
    have := hb x hx
    exact List.mem_map.2 ⟨x.toNat, List.mem_range.2 (by omega), by omega⟩)
  simpa using h

/-! ### an element is put behind a list that lacks it -/
section
variable {α : Type} [DecidableEq α]
def addTo (l : List α) (x : α) : List α := if x ∈ l then l else l ++ [x]
def addAll (l xs : List α) : List α := xs.foldl addTo l
theorem addTo_in {l : List α} {x : α} (h : x ∈ l) : addTo l x = l := if_pos h
theorem addTo_new {l : List α} {x : α} (h : x ∉ l) : addTo l x = l ++ [x] := if_neg h
theorem addTo_nodup {l : List α} (h : l.Nodup) (x : α) : (addTo l x).Nodup := by
  unfold addTo
  split
  · exact h
  · rename_i hx
    rw [List.nodup_append]
    exact ⟨h, by simp, by simp; exact fun a ha e => hx (e ▸ ha)⟩
theorem mem_addTo {l : List α} {x y : α} : y ∈ addTo l x ↔ y ∈ l ∨ y = x := by
  unfold addTo
  split
  · rename_i h
    exact ⟨.inl, fun h1 => h1.elim id (fun e => e ▸ h)⟩
  · simp
theorem addTo_prefix (l : List α) (x : α) : l <+: addTo l x := by
  unfold addTo
  split
  · exact List.prefix_refl _
  · exact List.prefix_append _ _
theorem addAll_nil (l : List α) : addAll l [] = l := rfl
theorem addAll_cons (l : List α) (x : α) (xs : List α) : addAll l (x :: xs) = addAll (addTo l x) xs := rfl
theorem addAll_snoc (l xs : List α) (x : α) : addAll l (xs ++ [x]) = addTo (addAll l xs) x := by simp [addAll]
theorem addAll_nodup : ∀ (xs : List α) (l : List α), l.Nodup → (addAll l xs).Nodup
  | [], _, h => h
  | x :: xs, l, h => addAll_nodup xs _ (addTo_nodup h x)
theorem mem_addAll : ∀ (xs l : List α) (y : α), y ∈ addAll l xs ↔ y ∈ l ∨ y ∈ xs
  | [], l, y => by simp [addAll]
  | x :: xs, l, y => by
    rw [addAll_cons, mem_addAll xs, mem_addTo, List.mem_cons]
    constructor
    · rintro ((h | h) | h)
      · exact .inl h
      · exact .inr (.inl h)
      · exact .inr (.inr h)
    · rintro (h | h | h)
      · exact .inl (.inl h)
      · exact .inl (.inr h)
      · exact .inr h
theorem addAll_prefix : ∀ (xs l : List α), l <+: addAll l xs
  | [], _ => List.prefix_refl _
  | x :: xs, l => (addTo_prefix l x).trans (addAll_prefix xs _)
theorem addAll_get {l xs : List α} {i : Nat} {s : α} (h : l[i]? = some s) : (addAll l xs)[i]? = some s := by
  obtain ⟨t, ht⟩ := addAll_prefix xs l
  have hi := (List.getElem?_eq_some_iff.1 h).1
  rw [← ht, List.getElem?_append_left hi]
  exact h
theorem addAll_of_sub : ∀ (xs l : List α), (∀ x ∈ xs, x ∈ l) → addAll l xs = l
  | [], _, _ => rfl
  | x :: xs, l, h => by
    rw [addAll_cons, addTo_in (h x (by simp))]
    exact addAll_of_sub xs l fun y hy => h y (by simp [hy])
theorem addAll_append (l xs ys : List α) : addAll l (xs ++ ys) = addAll (addAll l xs) ys := by simp [addAll]
/-- An element's first place. -/
def ix (l : List α) (x : α) : Nat := l.idxOf x
/-- The first place of an element stays while the list grows behind. -/
theorem idxOf_prefix {l m : List α} (h : l <+: m) {x : α} (hx : x ∈ l) : ix m x = ix l x := by
  obtain ⟨t, rfl⟩ := h
  rw [ix, List.idxOf_append, if_pos hx]
  rfl
theorem idxOf_lt {l : List α} {x : α} (h : x ∈ l) : ix l x < l.length := List.idxOf_lt_length_of_mem h
theorem get_idxOf {l : List α} {x : α} (h : x ∈ l) : l[ix l x]? = some x := by
  rw [List.getElem?_eq_getElem (idxOf_lt h)]
  exact congrArg some (List.getElem_idxOf (idxOf_lt h))
theorem idxOf_inj {l : List α} {x y : α} (hx : x ∈ l) (hy : y ∈ l) (h : ix l x = ix l y) : x = y := by
  have h1 := get_idxOf hx
  rw [h, get_idxOf hy] at h1
  exact (Option.some.inj h1).symm
theorem idxOf_get {l : List α} (hn : l.Nodup) {i : Nat} {x : α} (h : l[i]? = some x) : ix l x = i := by
  obtain ⟨hi, rfl⟩ := List.getElem?_eq_some_iff.1 h
  have h1 : l[i] ∈ l := List.getElem_mem _
  have h2 := get_idxOf h1
  obtain ⟨h3, h4⟩ := List.getElem?_eq_some_iff.1 h2
  have hp := List.pairwise_iff_getElem.1 hn
  rcases Nat.lt_trichotomy (ix l l[i]) i with h5 | h5 | h5
  · exact absurd h4 (hp _ _ h3 hi h5)
  · exact h5
  · exact absurd h4.symm (hp _ _ hi h3 h5)
/-- The different elements, as they first come. -/
def dist (keys : List α) : List α := addAll [] keys
theorem dist_nodup (keys : List α) : (dist keys).Nodup := addAll_nodup keys _ List.nodup_nil
theorem mem_dist {keys : List α} {x : α} : x ∈ dist keys ↔ x ∈ keys := by simp [dist, mem_addAll]
theorem dist_snoc (keys : List α) (x : α) : dist (keys ++ [x]) = addTo (dist keys) x := addAll_snoc _ _ _
theorem dist_prefix (keys ys : List α) : dist keys <+: dist (keys ++ ys) := by
  rw [dist, dist, addAll_append]
  exact addAll_prefix _ _
/-- Each key's number, by the order in which they first come. -/
def numb (keys : List α) : List Int := keys.map fun k => (ix (dist keys) k : Int)
theorem numb_len (keys : List α) : (numb keys).length = keys.length := by simp [numb]
theorem numb_get {keys : List α} {i : Nat} {k : α} (h : keys[i]? = some k) : (numb keys)[i]? = some (ix (dist keys) k : Int) := by simp [numb, h]
theorem numb_snoc (keys : List α) (k : α) : numb (keys ++ [k]) = numb keys ++ [(ix (addTo (dist keys) k) k : Int)] := by
  rw [numb, dist_snoc, List.map_append]
  congr 1
  apply List.map_congr_left
  intro x hx
  rw [idxOf_prefix (addTo_prefix _ _) (mem_dist.2 hx)]
theorem numb_new {keys : List α} {k : α} (h : k ∉ keys) : numb (keys ++ [k]) = numb keys ++ [((dist keys).length : Int)] := by
  rw [numb_snoc, addTo_new (fun h1 => h (mem_dist.1 h1)), ix, List.idxOf_append, if_neg (fun h1 => h (mem_dist.1 h1))]
  simp
theorem numb_old {keys : List α} {k : α} (h : k ∈ keys) : numb (keys ++ [k]) = numb keys ++ [(ix (dist keys) k : Int)] := by
  rw [numb_snoc, addTo_in (mem_dist.2 h)]
theorem numb_bd {keys : List α} {c : Int} (h : c ∈ numb keys) : 0 ≤ c ∧ c < (dist keys).length := by
  obtain ⟨k, hk, rfl⟩ := List.mem_map.1 h
  have := idxOf_lt (mem_dist.2 hk)
  omega
theorem numb_eq_iff {keys : List α} {i j : Nat} {k k' : α} (h : keys[i]? = some k) (h' : keys[j]? = some k') : (numb keys)[i]? = (numb keys)[j]? ↔ k = k' := by
  rw [numb_get h, numb_get h']
  constructor
  · intro e
    have e1 : ix (dist keys) k = ix (dist keys) k' := by injection e with e; omega
    exact idxOf_inj (mem_dist.2 (List.mem_of_getElem? h)) (mem_dist.2 (List.mem_of_getElem? h')) e1
  · rintro rfl; rfl
end
theorem mem_map_inj {α β : Type} {f : α → β} {l : List α} {x : α} (hf : ∀ a b, a ∈ l → f a = f b → b = x → a = b) : f x ∈ l.map f ↔ x ∈ l := by
  constructor
  · intro h
    obtain ⟨a, ha, e⟩ := List.mem_map.1 h
    exact (hf a x ha e rfl) ▸ ha
  · exact fun h => List.mem_map.2 ⟨x, h, rfl⟩
section
variable {α β : Type} [DecidableEq α] [DecidableEq β]
theorem addAll_map (f : α → β) (S : List α) (hf : ∀ a ∈ S, ∀ b ∈ S, f a = f b → a = b) : ∀ (xs l : List α), (∀ x ∈ l, x ∈ S) → (∀ x ∈ xs, x ∈ S) → addAll (l.map f) (xs.map f) = (addAll l xs).map f
  | [], _, _, _ => rfl
  | x :: xs, l, hl, hx => by
    have hxS := hx x (by simp)
    have hm : f x ∈ l.map f ↔ x ∈ l := mem_map_inj (fun a b ha e eb => by subst eb; exact hf a (hl a ha) b hxS e)
    have e1 : addTo (l.map f) (f x) = (addTo l x).map f := by
      by_cases h : x ∈ l
      · rw [addTo_in h, addTo_in (hm.2 h)]
      · rw [addTo_new h, addTo_new (fun h1 => h (hm.1 h1))]
        simp
    rw [List.map_cons, addAll_cons, e1, addAll_cons]
    exact addAll_map f S hf xs _ (fun y hy => by rcases mem_addTo.1 hy with h | rfl; exact hl y h; exact hxS) (fun y hy => hx y (by simp [hy]))
theorem dist_map (f : α → β) (keys : List α) (hf : ∀ a ∈ keys, ∀ b ∈ keys, f a = f b → a = b) : dist (keys.map f) = (dist keys).map f :=
  addAll_map f keys hf keys [] (by simp) (fun _ h => h)
theorem idxOf_map (f : α → β) : ∀ (l : List α) (x : α), (∀ a ∈ l, f a = f x → a = x) → ix (l.map f) (f x) = ix l x
  | [], _, _ => rfl
  | a :: l, x, h => by
    rw [ix, ix, List.map_cons, List.idxOf_cons, List.idxOf_cons]
    have ih := idxOf_map f l x (fun b hb => h b (by simp [hb]))
    by_cases e : a = x
    · subst e
      simp
    · have e2 : f a ≠ f x := fun e2 => e (h a (by simp) e2)
      have b1 : (f a == f x) = false := by simpa using e2
      have b2 : (a == x) = false := by simpa using e
      have ih' : List.idxOf (f x) (l.map f) = List.idxOf x l := ih
      rw [b1, b2, ih']
theorem numb_map (f : α → β) (keys : List α) (hf : ∀ a ∈ keys, ∀ b ∈ keys, f a = f b → a = b) : numb (keys.map f) = numb keys := by
  unfold numb
  rw [dist_map f keys hf, List.map_map]
  apply List.map_congr_left
  intro k hk
  show (ix ((dist keys).map f) (f k) : Int) = _
  rw [idxOf_map f _ k (fun a ha e => hf a (mem_dist.1 ha) k hk e)]
/-- Equal partitions have equal numbers. -/
theorem numb_same (keys : List α) (keys' : List β) (hl : keys.length = keys'.length) (h : ∀ (i j : Nat), i < keys.length → j < keys.length → (keys[i]? = keys[j]? ↔ keys'[i]? = keys'[j]?)) : numb keys = numb keys' := by
  cases keys' with
  | nil =>
    have : keys = [] := List.eq_nil_of_length_eq_zero (by simpa using hl)
    subst this; rfl
  | cons k0 ks0 =>
    obtain ⟨ks', hks⟩ : ∃ ks', ks' = k0 :: ks0 := ⟨_, rfl⟩
    rw [← hks] at hl h ⊢
    have e1 : ks' = keys.map (fun k => ks'.getD (ix keys k) k0) := by
      apply List.ext_getElem?
      intro i
      rw [List.getElem?_map]
      by_cases hi : i < keys.length
      · obtain ⟨k, hk⟩ : ∃ k, keys[i]? = some k := ⟨_, List.getElem?_eq_getElem hi⟩
        have hm := List.mem_of_getElem? hk
        have hj := idxOf_lt hm
        have h2 := (h (ix keys k) i hj hi).1 (by rw [get_idxOf hm, hk])
        rw [hk, Option.map_some, List.getD_eq_getElem?_getD, h2, List.getElem?_eq_getElem (by omega)]
        rfl
      · rw [List.getElem?_eq_none (by omega), List.getElem?_eq_none (by omega)]
        rfl
    have e2 : numb keys = numb (keys.map (fun k => ks'.getD (ix keys k) k0)) := (numb_map _ keys (fun a ha b hb e => by
      have ja := idxOf_lt ha
      have jb := idxOf_lt hb
      rw [List.getD_eq_getElem?_getD, List.getD_eq_getElem?_getD, List.getElem?_eq_getElem (show ix keys a < ks'.length by omega), List.getElem?_eq_getElem (show ix keys b < ks'.length by omega)] at e
      have h2 := (h (ix keys a) (ix keys b) ja jb).2 (by
        rw [List.getElem?_eq_getElem (show ix keys a < ks'.length by omega), List.getElem?_eq_getElem (show ix keys b < ks'.length by omega)]
        exact congrArg some e)
      rw [get_idxOf ha, get_idxOf hb] at h2
      exact Option.some.inj h2)).symm
    rw [← e1] at e2
    exact e2
end
end Go.Proofs.Ytodnkkofammhbaa.Plain
