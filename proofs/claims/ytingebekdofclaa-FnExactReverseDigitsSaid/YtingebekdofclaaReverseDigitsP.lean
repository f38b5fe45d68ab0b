/- The law FnExactReverseDigits answers true for every argument: the program's ReverseDigits returns what the model's returns, writes into no argument and hands back memory of its own. Conditions: none beyond the row's own. -/
import Derived.Test.YtingebekdofclaaRows
import Derived.WalkKit
import Derived.ProofKit
import Derived.OpenShut
import Derived.ShutString
import Derived.ChangeOld
import Derived.Below
import Derived.PlainAid
import Derived.Lib.Hide
import Derived.Test.YtingebekdofclaaInts
import Derived.Test.YtingebekdofclaaDigits4
namespace Go.Proofs.Ytingebekdofclaa.fnExactReverseDigits
open Go.ChangeShapes Go.WideShapes Go.ChangeAt Go.RowKit
open Go.ChangeMaps (open_string shut_string)
open Go.PlainAid Plain
set_option linter.unusedVariables false

theorem own : ownKnob Try.prog.godebug = none := by kernel_rfl
theorem laidOut : laidOutB Try.prog = true := by kernel_rfl

/-- WHAT THE WALK IS TOLD OF A SLICE OF INTEGERS THAT CAME IN: it is nil; or it leads to a row of 'cap' cells, the numbers 'zs' (the first 'len' are its elements, the rest its spare room), each fitting its kind. -/
def IsRow (k : IntKind) (w : World) (a : Option Addr) (len cap : Nat) (zs : List Int) : Prop :=
  (a = none ∧ len = 0 ∧ cap = 0 ∧ zs = []) ∨
  ∃ x, a = some x ∧ len ≤ cap ∧ cap ≤ maxLen ∧ zs.length = cap ∧ (∀ i, i < zs.length → w.cell? (x.add i) = some (.int k (zs.getD i 0))) ∧ ∀ n ∈ zs, (Lit.int k n).wf = true

open Ints Digits
theorem walk (a0 : Option Addr) (len0 cap0 : Nat) (z0 : List Int) (w : World) (w0 : IsRow .i64 w a0 len0 cap0 z0) :
    Calls Try.prog 9 #[.slice a0 len0 cap0] w fun e w' => e = .returned (.bool true) ∧ Below w.heap.size w w' := by
  obtain ⟨xs0, hxl0, hxs0⟩ := lies_of_row w0
  subst hxl0
  have ARG0 := Lib.hid hxs0
  clear hxs0 w0
  by_cases hbig : xs0.length ≤ 1048576
  · have hs0 : xs0.length ≤ 1048576 := hbig
    clear hbig
    have hk0 : decide ((1 : Int) + (xs0.length : Int) < 0) = false := decide_eq_false (by omega)
    obtain ⟨ys, hys⟩ : ∃ ys, ys = xs0.reverse := ⟨_, rfl⟩
    have hyl : ys.length ≤ 1048576 := by rw [hys]; rw [List.length_reverse]; exact hs0
    have hky : decide ((1 : Int) + (ys.length : Int) < 0) = false := decide_eq_false (by omega)
    have CS := Lib.hid (fun (W : World) (u0 : Value) (l0 : Lies (Value.int .i64) W u0 xs0) => spec_rev u0 xs0 W l0 hs0)
    have CI := Lib.hid (fun (W : World) (u0 : Value) (l0 : Lies (Value.int .i64) W u0 xs0) => impl_rev u0 xs0 W l0 hs0)
    rw [← hys] at CS CI
    clear hys
    go_enter Try.func9, Try.ntmps9
    go_wp2_with fail
    refine (Ints.copied _ xs0 _ ARG0.out hs0).mono ?_
    rintro e W1 ⟨vc1, rfl, h1, b1⟩
    have HB1 := Lib.hid b1
    have Rc1_1 := Lib.hid h1
    have Sc1 : Hid (w.heap.size ≤ w.heap.size) := Nat.le_refl _
    clear b1 h1
    go_wp2_with fail
    refine (CS.out _ vc1 Rc1_1.out.lies).mono ?_
    rintro e W2 ⟨vp, rfl, h2, b2⟩
    have HB2 := Lib.hid (HB1.out.trans (b2.mono HB1.out.size))
    have Rp_2 := Lib.hid h2
    have Sp : Hid (w.heap.size ≤ W1.heap.size) := HB1.out.size
    clear b2 Rc1_1 h2
    go_wp2_with fail
    refine (Ints.copied _ xs0 _ (ARG0.out.below HB2.out) hs0).mono ?_
    rintro e W3 ⟨vc2, rfl, h3, b3⟩
    have HB3 := Lib.hid (HB2.out.trans (b3.mono HB2.out.size))
    have Rp_3 := Lib.hid (Rp_2.out.below b3)
    have Rc2_3 := Lib.hid h3
    have Sc2 : Hid (w.heap.size ≤ W2.heap.size) := HB2.out.size
    have Ap_c2 := Lib.hid (Rp_2.out.apart h3 (Nat.le_refl _))
    clear b3 h3 Rp_2
    go_wp2_with fail
    refine (CI.out _ vc2 Rc2_3.out.lies).mono ?_
    rintro e W4 ⟨vg, rfl, h4, b4⟩
    have HB4 := Lib.hid (HB3.out.trans (b4.mono HB3.out.size))
    have Rp_4 := Lib.hid (Rp_3.out.below b4)
    have Rc2_4 := Lib.hid (Rc2_3.out.below b4)
    have Rg_4 := Lib.hid h4
    have Sg : Hid (w.heap.size ≤ W3.heap.size) := HB3.out.size
    have Ap_g := Lib.hid (Rp_3.out.apart h4 (Nat.le_refl _))
    have Ac2_g := Lib.hid (Rc2_3.out.apart h4 (Nat.le_refl _))
    clear b4 h4 Rp_3 Rc2_3
    go_wp2_with fail
    refine (Ints.eq_yes _ _ ys _ Rg_4.out.lies Rp_4.out.lies).mono ?_
    rintro e W5 ⟨rfl, b5⟩
    have HB5 := Lib.hid (HB4.out.trans (b5.mono HB4.out.size))
    have Rp_5 := Lib.hid (Rp_4.out.below b5)
    have Rc2_5 := Lib.hid (Rc2_4.out.below b5)
    have Rg_5 := Lib.hid (Rg_4.out.below b5)
    clear b5 Rp_4 Rc2_4 Rg_4
    go_wp2_with fail
    refine (Ints.copied _ xs0 _ (ARG0.out.below HB5.out) hs0).mono ?_
    rintro e W6 ⟨vc3, rfl, h6, b6⟩
    have HB6 := Lib.hid (HB5.out.trans (b6.mono HB5.out.size))
    have Rp_6 := Lib.hid (Rp_5.out.below b6)
    have Rc2_6 := Lib.hid (Rc2_5.out.below b6)
    have Rg_6 := Lib.hid (Rg_5.out.below b6)
    have Rc3_6 := Lib.hid h6
    have Sc3 : Hid (w.heap.size ≤ W5.heap.size) := HB5.out.size
    have Ac2_c3 := Lib.hid (Rc2_5.out.apart h6 (Nat.le_refl _))
    have Ag_c3 := Lib.hid (Rg_5.out.apart h6 (Nat.le_refl _))
    clear b6 h6 Rp_5 Rc2_5 Rg_5
    go_wp2_with fail
    refine (Ints.eq_yes _ _ xs0 _ Rc2_6.out.lies Rc3_6.out.lies).mono ?_
    rintro e W7 ⟨rfl, b7⟩
    have HB7 := Lib.hid (HB6.out.trans (b7.mono HB6.out.size))
    have Rp_7 := Lib.hid (Rp_6.out.below b7)
    have Rc2_7 := Lib.hid (Rc2_6.out.below b7)
    have Rg_7 := Lib.hid (Rg_6.out.below b7)
    clear b7 Rc3_6 Rp_6 Rc2_6 Rg_6
    go_wp2_with fail
    refine (Ints.mark _ xs0 _ _ 1 Rc2_7.out (by omega) (by omega)).mono ?_
    rintro e W8 ⟨rfl, h8, g8⟩
    have HB8 := Lib.hid (Rc2_7.out.frame HB7.out Sc2.out g8)
    have Rp_8 := Lib.hid (Rp_7.out.grown g8 Ap_c2.out.2)
    have Rc2_8 := Lib.hid h8
    have Rg_8 := Lib.hid (Rg_7.out.grown g8 Ac2_g.out.1)
    clear g8 h8 Rp_7 Rc2_7 Rg_7
    go_wp2_with fail
    refine (Ints.eq_yes _ _ ys _ Rg_8.out.lies Rp_8.out.lies).mono ?_
    rintro e W9 ⟨rfl, b9⟩
    have HB9 := Lib.hid (HB8.out.trans (b9.mono HB8.out.size))
    have Rp_9 := Lib.hid (Rp_8.out.below b9)
    have Rg_9 := Lib.hid (Rg_8.out.below b9)
    clear b9 Rc2_8 Rp_8 Rg_8
    go_wp2_with fail
    refine (Ints.mark _ ys _ _ 1 Rg_9.out (by omega) (by omega)).mono ?_
    rintro e W10 ⟨rfl, h10, g10⟩
    have HB10 := Lib.hid (Rg_9.out.frame HB9.out Sg.out g10)
    have Rp_10 := Lib.hid (Rp_9.out.grown g10 Ap_g.out.2)
    have Rg_10 := Lib.hid h10
    clear g10 h10 Rp_9 Rg_9
    go_wp2_with fail
    refine (Ints.held _ ys.length _ 1 Rg_10.out.lies (by omega) (by omega)).mono ?_
    rintro e W' ⟨rfl, rfl⟩
    go_wp2_with fail
    refine (Ints.copied _ xs0 _ (ARG0.out.below HB10.out) hs0).mono ?_
    rintro e W11 ⟨vc4, rfl, h11, b11⟩
    have HB11 := Lib.hid (HB10.out.trans (b11.mono HB10.out.size))
    have Rp_11 := Lib.hid (Rp_10.out.below b11)
    have Rg_11 := Lib.hid (Rg_10.out.below b11)
    have Rc4_11 := Lib.hid h11
    have Sc4 : Hid (w.heap.size ≤ W10.heap.size) := HB10.out.size
    have Ag_c4 := Lib.hid (Rg_10.out.apart h11 (Nat.le_refl _))
    clear b11 h11 Rp_10 Rg_10
    go_wp2_with fail
    refine (CI.out _ vc4 Rc4_11.out.lies).mono ?_
    rintro e W12 ⟨vh, rfl, h12, b12⟩
    have HB12 := Lib.hid (HB11.out.trans (b12.mono HB11.out.size))
    have Rp_12 := Lib.hid (Rp_11.out.below b12)
    have Rg_12 := Lib.hid (Rg_11.out.below b12)
    have Rh_12 := Lib.hid h12
    have Sh : Hid (w.heap.size ≤ W11.heap.size) := HB11.out.size
    have Ag_h := Lib.hid (Rg_11.out.apart h12 (Nat.le_refl _))
    clear b12 Rc4_11 h12 Rp_11 Rg_11
    go_wp2_with fail
    refine (Ints.eq_yes _ _ ys _ Rh_12.out.lies Rp_12.out.lies).mono ?_
    rintro e W13 ⟨rfl, b13⟩
    have HB13 := Lib.hid (HB12.out.trans (b13.mono HB12.out.size))
    have Rg_13 := Lib.hid (Rg_12.out.below b13)
    clear b13 Rp_12 Rh_12 Rg_12
    go_wp2_with fail
    refine (Ints.held _ ys.length _ 1 Rg_13.out.lies (by omega) (by omega)).mono ?_
    rintro e W' ⟨rfl, rfl⟩
    go_wp2
    go_ret
    exact ⟨rfl, HB13.out⟩
  · have hk0 : decide ((xs0.length : Int) > 1048576) = true := decide_eq_true (by omega)
    go_enter Try.func9, Try.ntmps9
    go_wp2
    go_ret
    exact ⟨rfl, Below.refl _ _⟩

/-! ### THE ROW's STEP: WRITTEN OUT: LEAVE IT -/
set_option maxRecDepth 100000 in
theorem lifted (os : Os) (started : os.Started) (H : Type) (enc : TypeId × Value → H) :
    ReturnsInHanded {} Try.checked os 9 .any (Rows.fnExactReverseDigitsSpec.pre6 enc Try.prog Try.f9 Rows.fnExactReverseDigitsRow.domain false) (Rows.fnExactReverseDigitsSpec.post enc Try.prog Try.f9 false true false false) := by
  refine returnsInHanded_of_change (C := Try.checked) own started (by kernel_rfl) Try.func9
    (ChangeSpec.witness6 (enc := enc) (C := Try.checked) false ⟨#[], #[.slice none 0 0], []⟩ 8 (by kernel_rfl) (by kernel_rfl) (by kernel_rfl) (by kernel_rfl)) ?_
  intro W base args ds gs before hval0 hW hcnd _
  have hval : ∀ (j : Nat) t v, Try.f9.params[j]? = some t → args[j]? = some v → Value.okWide Try.prog W .any base t v := hval0
  have hW' := hW
  obtain ⟨p, q, hA0, hV, rfl, hfz, hnd⟩ := hW
  have hA : DataW.TrodAll enc Try.prog W 0 (fun _ => true) true Try.f9.params.toList args.toList ds p := hA0
  rw [Try.params9] at hA hval
  obtain ⟨v0, vs0, d0, ds0, p0, q0, hargs, rfl, rfl, h0, r0⟩ := trodAll_cons hA
  obtain ⟨rfl, rfl, rfl⟩ := trodAll_nil r0
  obtain rfl : args = #[v0] := by cases args; simp_all
  obtain ⟨rfl, rfl⟩ := trodVars_none hV
  obtain ⟨a0, len0, cap0, rfl⟩ := okWide_slice Try.underlying26 (hval 0 26 v0 rfl rfl)
  have k0 := h0
  have lt0 : ∀ x ∈ p0, x.block < W.heap.size := by obtain ⟨m, hm⟩ := k0; exact DataW.trod_lt m _ _ _ hm
  obtain ⟨z0, w0⟩ : ∃ zs, IsRow .i64 W a0 len0 cap0 zs := by
    obtain ⟨fuel, hf⟩ := h0
    rcases open_ints Try.underlying26 Try.underlying3 (by kernel_rfl) hf with ⟨hcs, _⟩ | ⟨x, l, c, zs, hcs, _, hl, hm, hz, _, hcell, hwz⟩
    · simp [Value.cells] at hcs
      obtain ⟨rfl, rfl, rfl⟩ := hcs
      exact ⟨[], .inl ⟨rfl, rfl, rfl, rfl⟩⟩
    · simp [Value.cells] at hcs
      obtain ⟨rfl, rfl, rfl⟩ := hcs
      exact ⟨zs, .inr ⟨_, rfl, hl, hm, by simpa using hz, hcell, hwz⟩⟩
  clear hA0 hval0
  refine (walk a0 len0 cap0 z0 W w0).mono fun e W' ⟨he, bel⟩ => ?_
  subst he
  exact ⟨_, rfl, _, _, _, [], _, [], hW', trodAll_mk1 (shut_bool Try.underlying4 _), (trodAll_cons_mk (Below.trod laidOut (by kernel_rfl) (of_decide_eq_true (by kernel_rfl)) k0 bel lt0) trodAll_mk0), rfl, bel.frame _, fun h => by cases h⟩

theorem over : Rows.fnExactReverseDigitsRow.holds Try.pinned (OpenSpec.ofChange Rows.fnExactReverseDigitsSpec) :=
  OpenClaim.holds_of_wide 9 Try.f9 rfl rfl rfl rfl rfl rfl rfl ⟨rfl, rfl, rfl, rfl, rfl⟩ rfl rfl rfl rfl rfl (by kernel_rfl) Try.func9 (by kernel_rfl)
    (of_decide_eq_true (by kernel_rfl)) (by unfold Func.isWrapper; first | (rw [if_pos (by decide +kernel)]; kernel_rfl) | (rw [if_neg (by decide +kernel)]; exact ⟨rfl, rfl⟩))
    (fun os started H enc _ => lifted os started H enc)

/-- ████ THE STATEMENT ████ -/
theorem proved : Rows.FnExactReverseDigitsSaid := over
#print axioms proved
end Go.Proofs.Ytingebekdofclaa.fnExactReverseDigits
