/- Contracts of the draws of chapter 2: some number and base, some short list of digits. No conditions beyond those that each states. -/
import Derived.Test.YtingebekdofclaaRows
import Derived.WalkKit
import Derived.ProofKit
import Derived.OpenShut
import Derived.PlainAid
import Derived.Lib.Hide
import Derived.WalkSmall
import Derived.WalkLawsBesides
import Derived.Test.YtingebekdofclaaPlain
import Derived.Test.YtingebekdofclaaKit
import Derived.Test.YtingebekdofclaaLists
import Derived.Test.YtingebekdofclaaInts
import Derived.Test.YtingebekdofclaaDigits2
import Derived.Test.YtingebekdofclaaCursor
import Derived.Test.YtingebekdofclaaDraw1
import Derived.Test.YtingebekdofclaaDraw1b
namespace Go.Proofs.Ytingebekdofclaa
open Go.ChangeShapes Go.WideShapes Go.ChangeAt Go.RowKit
open Go.PlainAid Plain
set_option linter.unusedVariables false
namespace Cursor
open Ints Digits
theorem code_next {w w1 : World} {a : Option Addr} {len : Nat} (h : CodeIs w w.heap.size a len) (hb : Below w.heap.size w w1) : CodeIs w1 w1.heap.size a len :=
  h.imp id fun ⟨b, off, ha, hlt, hc⟩ => ⟨b, off, ha, Nat.lt_of_lt_of_le hlt hb.size, fun i hi => by
    obtain ⟨v, h0, h1, hv⟩ := hc i hi
    exact ⟨v, h0, h1, (hb.cell (p := ⟨b, off + i, none⟩) hlt).trans hv⟩⟩
def SomeBool (Q : World → Prop) (e : Ending) (w' : World) : Prop := ∃ t : Bool, e = .returned (.bool t) ∧ Q w'
/-- Some list of ints, the call's own. -/
def SomeList (P : List Int → Prop) (w : World) (Q : World → Prop) (e : Ending) (w' : World) : Prop := ∃ v xs, P xs ∧ e = .returned v ∧ Has (Value.int .i64) 3 w' w.heap.size v xs ∧ Q w'
def SomeListInt (P : List Int → Int → Prop) (w : World) (Q : World → Prop) (e : Ending) (w' : World) : Prop := ∃ v xs, ∃ n : Int, P xs n ∧ e = .returned (.tuple #[v, .int .i64 n]) ∧ Has (Value.int .i64) 3 w' w.heap.size v xs ∧ Q w'
theorem once (W w : World) (p : Nat) (a : Option Addr) (len cap : Nat) (n : Int) (hn0 : 1 ≤ n) (hn1 : n ≤ 9223372036854775807) (hlen : len ≤ 1048576) (hcode : CodeIs W W.heap.size a len) (hs : Stands W w p a len cap) :
    Calls Try.prog 44 #[.pointer (some ⟨p, 0, none⟩), .int .i64 n] w (SomeBool (fun w' => w.grownBy w' (some p) ∧ CurIs w' p a len cap)) := by
  have H := Lib.hid (below W w p a len cap n hn0 hn1 hlen hcode hs)
  clear hcode hs
  go_enter Try.func44, Try.ntmps44
  go_wp2_with fail
  refine H.out.mono ?_
  rintro e w1 ⟨x, ⟨hx0, hx1⟩, rfl, hg, hc⟩
  go_wp2
  go_ret
  exact ⟨_, rfl, hg, hc⟩
theorem list_lit (w : World) (xs : List Int) (T : TypeId) (h : ∀ x ∈ xs, I64 x) : ListIs (w.alloc (.cells (xs.map (Value.int .i64)).toArray T)) w.heap.size xs.length := by
  intro j hj
  have := h xs[j] (List.getElem_mem hj)
  refine ⟨xs[j], this.1, this.2, ?_⟩
  rw [cell_of_row _ w.heap.size j _ T (0, 0) (heap_alloc_new w _)]
  simp [hj]
/-- The numbers of which l2Number picks one. -/
def nums2 : List Int := [-1, 65535, 65536, 4294967295, 4294967296, 9223372036854775807]
theorem nums2_ok : ∀ v ∈ nums2, I64 v := by unfold nums2 I64; simp
def nums3 : List Int := [-1, 4]
theorem nums3_ok : ∀ v ∈ nums3, I64 v := by unfold nums3 I64; simp
theorem number2 (W w : World) (p : Nat) (a : Option Addr) (len cap : Nat) (hlen : len ≤ 1048576) (hcode : CodeIs W W.heap.size a len) (hs : Stands W w p a len cap) :
    Calls Try.prog 36 #[.pointer (some ⟨p, 0, none⟩)] w (SomeInt I64 (fun w' => Stands W w' p a len cap)) := by
  have HO := Lib.hid (once W w p a len cap 10 (by decide) (by decide) hlen hcode hs)
  have HB := Lib.hid (fun (w : World) (n : Int) (hn0 : 1 ≤ n) (hn1 : n ≤ 9223372036854775807) (hs : Stands W w p a len cap) => below W w p a len cap n hn0 hn1 hlen hcode hs)
  have HP := Lib.hid (fun (w : World) (q : Nat) (hq : q ≠ p) (hqs : q < w.heap.size) (hl : ListIs w q 6) (hs : Stands W w p a len cap) => pickInt W w p a len cap q 6 6 (by decide) (by decide) hq hqs hl hlen hcode hs)
  clear hcode
  go_enter Try.func36, Try.ntmps36
  go_wp2_with fail
  refine HO.out.mono ?_
  rintro e w1 ⟨t, rfl, hg1, hc1⟩
  have hs1 := hs.next hg1 hc1
  clear hg1 hc1
  cases t with
  | true =>
    go_wp2_with fail
    have hlt := hs1.lt
    refine (HP.out _ w1.heap.size (by omega) (by simp) (list_lit w1 nums2 _ nums2_ok) (hs1.alloc _)).mono ?_
    rintro e w2 ⟨y, hy, rfl, hg2, hc2⟩
    have hs2 := (hs1.alloc _).next hg2 hc2
    have HY := Lib.hid hy
    clear hy
    go_wp2
    go_ret
    exact ⟨_, HY.out, rfl, hs2⟩
  | false =>
    go_wp2_with fail
    refine (HB.out w1 300 (by decide) (by decide) hs1).mono ?_
    rintro e w2 ⟨y, ⟨hy0, hy1⟩, rfl, hg2, hc2⟩
    have hs2 := hs1.next hg2 hc2
    go_wp2
    go_ret
    exact ⟨_, ⟨by omega, by omega⟩, rfl, hs2⟩
theorem drawDigitsOf (W w : World) (a : Option Addr) (len cap : Nat) (hlen : len ≤ 1048576) (hcode : CodeIs W W.heap.size a len) (hb : Below W.heap.size W w) :
    Calls Try.prog 12 #[.slice a len cap] w (SomePair (fun n m => I64 n ∧ 1 ≤ m ∧ m ≤ 5) (fun w' => Below W.heap.size W w')) := by
  have HN := Lib.hid (new W w a len cap hlen hcode hb)
  have HM := Lib.hid (fun (w : World) (p : Nat) (hs : Stands W w p a len cap) => number2 W w p a len cap hlen hcode hs)
  have HB := Lib.hid (fun (w : World) (p : Nat) (hs : Stands W w p a len cap) => below W w p a len cap 5 (by decide) (by decide) hlen hcode hs)
  clear hcode
  go_enter Try.func12, Try.ntmps12
  go_wp2_with fail
  refine HN.out.mono ?_
  rintro e w1 ⟨p, rfl, hp, hg, hc⟩
  have hs := new_stands hb hp hg hc
  clear hg hc
  go_wp2_with fail
  refine (HM.out w1 p hs).mono ?_
  rintro e w2 ⟨x, hx, rfl, hs2⟩
  have HX := Lib.hid hx
  clear hx
  go_wp2_with fail
  refine (HB.out w2 p hs2).mono ?_
  rintro e w3 ⟨y, ⟨hy0, hy1⟩, rfl, hg3, hc3⟩
  have hs3 := hs2.next hg3 hc3
  go_wp2
  go_ret2
  exact ⟨x, 1 + y, ⟨HX.out, by omega, by omega⟩, rfl, hs3.below⟩
theorem drawPowerOf (W w : World) (a : Option Addr) (len cap : Nat) (hlen : len ≤ 1048576) (hcode : CodeIs W W.heap.size a len) (hb : Below W.heap.size W w) :
    Calls Try.prog 23 #[.slice a len cap] w (SomePair (fun n m => I64 n ∧ I64 m) (fun w' => Below W.heap.size W w')) := by
  have HN := Lib.hid (new W w a len cap hlen hcode hb)
  have HB := Lib.hid (fun (w : World) (p : Nat) (n : Int) (h1 : 1 ≤ n) (h2 : n ≤ 9223372036854775807) (hs : Stands W w p a len cap) => below W w p a len cap n h1 h2 hlen hcode hs)
  clear hcode
  go_enter Try.func23, Try.ntmps23
  go_wp2_with fail
  refine HN.out.mono ?_
  rintro e w1 ⟨p, rfl, hp, hg, hc⟩
  have hs := new_stands hb hp hg hc
  clear hg hc
  go_wp2_with fail
  refine (HB.out w1 p 6 (by decide) (by decide) hs).mono ?_
  rintro e w2 ⟨x, ⟨hx0, hx1⟩, rfl, hg2, hc2⟩
  have hs2 := hs.next hg2 hc2
  clear hg2 hc2
  go_wp2_with fail
  refine (HB.out w2 p 19 (by decide) (by decide) hs2).mono ?_
  rintro e w3 ⟨y, ⟨hy0, hy1⟩, rfl, hg3, hc3⟩
  have hs3 := hs2.next hg3 hc3
  go_wp2
  go_ret2
  exact ⟨x, y - 1, ⟨⟨by omega, by omega⟩, by omega, by omega⟩, rfl, hs3.below⟩
theorem grown_below {w w' : World} {p B : Nat} (h : w.grownBy w' (some p)) (hp : B ≤ p) (hB : B ≤ w.heap.size) : Below B w w' := (Below.refl B w).grown h hB (fun k hk => by cases hk; exact hp)
set_option maxRecDepth 100000 in
theorem digits2 (W w : World) (p : Nat) (a : Option Addr) (len cap : Nat) (b : Int) (hb0 : 1 ≤ b) (hb1 : b ≤ 100) (hlen : len ≤ 1048576) (hcode : CodeIs W W.heap.size a len) (hs : Stands W w p a len cap) :
    Calls Try.prog 42 #[.pointer (some ⟨p, 0, none⟩), .int .i64 b] w (SomeList (fun xs => xs.length ≤ 8) w (fun w' => Stands W w' p a len cap)) := by
  obtain ⟨i0, hi, hz0, hz1, hz2⟩ := info_parts infoI
  have HO := Lib.hid (fun (w : World) (hs : Stands W w p a len cap) => once W w p a len cap 14 (by decide) (by decide) hlen hcode hs)
  have HB := Lib.hid (fun (w : World) (n : Int) (hn0 : 1 ≤ n) (hn1 : n ≤ 9223372036854775807) (hs : Stands W w p a len cap) => below W w p a len cap n hn0 hn1 hlen hcode hs)
  have HP := Lib.hid (fun (w : World) (q : Nat) (hq : q ≠ p) (hqs : q < w.heap.size) (hl : ListIs w q 2) (hs : Stands W w p a len cap) => pickInt W w p a len cap q 2 2 (by decide) (by decide) hq hqs hl hlen hcode hs)
  have hpw := hs.lt
  have hs0 := hs.alloc (.cells #[] 3)
  have he := Lib.hid (has_empty w)
  have hmax : max 1 b = b := by omega
  clear hcode
  go_enter Try.func42, Try.ntmps42
  go_wp2_with fail
  refine (HB.out _ 7 (by decide) (by decide) hs0).mono ?_
  rintro e w1 ⟨x, ⟨hx0, hx1⟩, rfl, hg1, hc1⟩
  have HS1 := Lib.hid (hs0.next hg1 hc1)
  have HE1 := Lib.hid (he.out.grown hg1 (.inr (by simp [Value.ownBlock]; omega)))
  have hsz1 : Hid ((w.alloc (.cells #[] 3)).heap.size ≤ w1.heap.size) := hg1.size
  clear hg1 hc1 hs0
  go_wp2_with fail
  go_loopw [5, 6] (fun o' i' wr => ∃ (k : Nat) (xs : List Int), i' = .int .i64 k ∧ k + xs.length ≤ 7 ∧ Hid (Has (Value.int .i64) 3 wr w.heap.size o' xs) ∧ Hid (Stands W wr p a len cap) ∧ Hid (w.heap.size ≤ wr.heap.size)) (fun _ i' _ => (intOf i').toNat)
  case atStart => exact ⟨x.toNat, [], by congr 1; omega, by simp; omega, HE1.out, HS1.out, Nat.le_trans (by simp) hsz1.out⟩
  case round =>
    obtain ⟨k, xs, rfl, hk, hown, hst, hsz⟩ := hrel
    by_cases h0 : 0 < k
    · have hpo : Hid (∀ (w2 w3 : World) (u : Value) (ys : List Int), Has (Value.int .i64) 3 w2 w.heap.size u ys → w2.grownBy w3 u.ownBlock → Stands W w2 p a len cap → Stands W w3 p a len cap) := fun w2 w3 u ys h2 hg hs2 => hs2.other hg (fun q hq => by have := h2.lt q hq; have := hs.own; omega)
      go_wp2_with fail
      refine (HB.out _ b (by omega) (by omega) hst.out).mono ?_
      rintro e w2 ⟨y, ⟨hy0, hy1⟩, rfl, hg2, hc2⟩
      have HS2 := Lib.hid (hst.out.next hg2 hc2)
      have HO2 := Lib.hid (hown.out.grown hg2 (by cases hv : u5.ownBlock with
        | none => exact .inl rfl
        | some q => have := hown.out.lt q hv; exact .inr (by simp; omega)))
      have hb2 := Nat.le_trans hsz.out hg2.size
      clear hg2 hc2 hst hown
      go_wp2_with (at_builtin; refine append_one (enc := Value.int .i64) (e := 3) w2 rfl _ _ 26 rfl w.heap.size i0 (.int .i64 0) 8 Try.underlying26 hi hz0 hz1 hz2 rfl u5 _ rfl HO2.out y rfl (fun _ => rfl) (by omega) (by omega) hb2 ?_; intro v' w' hown' hgrow')
      have HS3 := Lib.hid (hpo.out _ _ _ _ HO2.out hgrow' HS2.out)
      have hsz3 := Lib.hid (Nat.le_trans hb2 hgrow'.size)
      have HO3 := Lib.hid hown'
      clear hown' hgrow' HS2 HO2 hpo
      go_wp2
      go_roundw
      case rel => exact ⟨k - 1, xs ++ [y], by congr 1; omega, by simp; omega, HO3.out, HS3.out, hsz3.out⟩
      case measure => simp [intOf]; omega
    · obtain rfl : k = 0 := by omega
      go_wp2_with fail
      refine (HO.out _ hst.out).mono ?_
      rintro e w2 ⟨t, rfl, hg2, hc2⟩
      have HS2 := Lib.hid (hst.out.next hg2 hc2)
      have HO2 := Lib.hid (hown.out.grown hg2 (by cases hv : u5.ownBlock with
        | none => exact .inl rfl
        | some q => have := hown.out.lt q hv; exact .inr (by simp; omega)))
      have hb2 := Nat.le_trans hsz.out hg2.size
      clear hg2 hc2 hst hown
      cases t with
      | false =>
        go_wp2
        go_ret
        exact ⟨u5, xs, by omega, rfl, HO2.out, HS2.out⟩
      | true =>
        go_wp2_with fail
        have hlt := HS2.out.lt
        refine (HP.out _ w2.heap.size (by omega) (by simp) (list_lit w2 nums3 _ nums3_ok) (HS2.out.alloc _)).mono ?_
        rintro e w3 ⟨y, hy, rfl, hg3, hc3⟩
        have HS3 := Lib.hid ((HS2.out.alloc _).next hg3 hc3)
        have HO3 := Lib.hid ((HO2.out.below ((Below.refl _ _).alloc (Nat.le_refl _) (.cells (nums3.map (Value.int .i64)).toArray 3))).grown hg3 (by cases hv : u5.ownBlock with
          | none => exact .inl rfl
          | some q => have := HO2.out.lt q hv; exact .inr (by simp; omega)))
        have hb3 : w.heap.size ≤ w3.heap.size := by have := hg3.size; simp at this; omega
        clear hg3 hc3 HS2 HO2 hy
        go_wp2_with (at_builtin; refine append_one (enc := Value.int .i64) (e := 3) w3 rfl _ _ 26 rfl w.heap.size i0 (.int .i64 0) 8 Try.underlying26 hi hz0 hz1 hz2 rfl u5 _ rfl HO3.out y rfl (fun _ => rfl) (by omega) (by omega) hb3 ?_; intro v' w' hown' hgrow')
        have HS4 := Lib.hid (HS3.out.other hgrow' (fun q hq => by have := HO3.out.lt q hq; have := hs.own; omega))
        have HO4 := Lib.hid hown'
        clear hown' hgrow' HS3 HO3
        go_wp2
        go_ret
        exact ⟨v', xs ++ [y], by simp; omega, rfl, HO4.out, HS4.out⟩
theorem both2 (W w : World) (a : Option Addr) (len cap : Nat) (hlen : len ≤ 1048576) (hcode : CodeIs W W.heap.size a len) (hb : Below W.heap.size W w) :
    Calls Try.prog 41 #[.slice a len cap] w (SomeListInt (fun xs m => xs.length ≤ 8 ∧ 1 ≤ m ∧ m ≤ 5) w (fun w' => Below W.heap.size W w')) := by
  have HN := Lib.hid (new W w a len cap hlen hcode hb)
  have HD := Lib.hid (fun (w : World) (p : Nat) (b : Int) (h1 : 1 ≤ b) (h2 : b ≤ 100) (hs : Stands W w p a len cap) => digits2 W w p a len cap b h1 h2 hlen hcode hs)
  have HB := Lib.hid (fun (w : World) (p : Nat) (hs : Stands W w p a len cap) => below W w p a len cap 5 (by decide) (by decide) hlen hcode hs)
  clear hcode
  go_enter Try.func41, Try.ntmps41
  go_wp2_with fail
  refine HN.out.mono ?_
  rintro e w1 ⟨p, rfl, hp, hg, hc⟩
  have hs := new_stands hb hp hg hc
  have hz1 := hg.size
  clear hg hc
  go_wp2_with fail
  refine (HB.out w1 p hs).mono ?_
  rintro e w2 ⟨x, ⟨hx0, hx1⟩, rfl, hg2, hc2⟩
  have hs2 := hs.next hg2 hc2
  have hz2 := hg2.size
  clear hg2 hc2
  go_wp2_with fail
  refine (HD.out w2 p (1 + x) (by omega) (by omega) hs2).mono ?_
  rintro e w3 ⟨v, xs, hxs, rfl, ho, hs3⟩
  have HO := Lib.hid ho
  clear ho
  go_wp2
  go_ret2
  exact ⟨v, xs, 1 + x, ⟨hxs, by omega, by omega⟩, rfl, HO.out.mono (by omega), hs3.below⟩
theorem drawValueOf (W w : World) (a : Option Addr) (len cap : Nat) (hlen : len ≤ 1048576) (hcode : CodeIs W W.heap.size a len) (hb : Below W.heap.size W w) :
    Calls Try.prog 21 #[.slice a len cap] w (SomeListInt (fun xs m => xs.length ≤ 8 ∧ 1 ≤ m ∧ m ≤ 5) w (fun w' => Below W.heap.size W w')) := by
  have HN := Lib.hid (both2 W w a len cap hlen hcode hb)
  clear hcode
  go_enter Try.func21, Try.ntmps21
  go_wp2_with fail
  refine HN.out.mono ?_
  rintro e w1 ⟨v, xs, n, hx, rfl, ho, hb1⟩
  have HX := Lib.hid hx
  have HO := Lib.hid ho
  clear hx ho
  go_wp2
  go_ret2
  exact ⟨v, xs, n, HX.out, rfl, HO.out, hb1⟩
theorem drawPadDigits (W w : World) (a : Option Addr) (len cap : Nat) (hlen : len ≤ 1048576) (hcode : CodeIs W W.heap.size a len) (hb : Below W.heap.size W w) :
    Calls Try.prog 22 #[.slice a len cap] w (SomeListInt (fun xs m => xs.length ≤ 8 ∧ -1 ≤ m ∧ m ≤ 18) w (fun w' => Below W.heap.size W w')) := by
  have HN := Lib.hid (new W w a len cap hlen hcode hb)
  have HD := Lib.hid (fun (w : World) (p : Nat) (hs : Stands W w p a len cap) => digits2 W w p a len cap 3 (by decide) (by decide) hlen hcode hs)
  have HB := Lib.hid (fun (w : World) (p : Nat) (hs : Stands W w p a len cap) => below W w p a len cap 19 (by decide) (by decide) hlen hcode hs)
  clear hcode
  go_enter Try.func22, Try.ntmps22
  go_wp2_with fail
  refine HN.out.mono ?_
  rintro e w1 ⟨p, rfl, hp, hg, hc⟩
  have hs := new_stands hb hp hg hc
  have hz1 := hg.size
  have hpz := hs.lt
  clear hg hc
  go_wp2_with fail
  refine (HD.out w1 p hs).mono ?_
  rintro e w2 ⟨v, xs, hxs, rfl, ho, hs2⟩
  have HO := Lib.hid ho
  clear ho
  go_wp2_with fail
  refine (HB.out w2 p hs2).mono ?_
  rintro e w3 ⟨x, ⟨hx0, hx1⟩, rfl, hg3, hc3⟩
  have HO3 := Lib.hid (HO.out.grown hg3 (by cases hv : v.ownBlock with
    | none => exact .inl rfl
    | some q => have := HO.out.lt q hv; exact .inr (by simp; omega)))
  have hs3 := hs2.next hg3 hc3
  clear hg3 hc3 HO
  go_wp2
  go_ret2
  exact ⟨v, xs, x - 1, ⟨hxs, by omega, by omega⟩, rfl, HO3.out.mono (by omega), hs3.below⟩
end Cursor
end Go.Proofs.Ytingebekdofclaa
