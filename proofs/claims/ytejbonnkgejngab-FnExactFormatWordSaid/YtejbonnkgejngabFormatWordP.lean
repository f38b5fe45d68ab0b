/- The law FnExactFormatWord answers true for every argument: the program's FormatWord returns what the model's returns, writes into no argument and hands back memory of its own. Conditions: none beyond the row's own. -/
import Derived.Test.YtejbonnkgejngabRows
import Derived.WalkKit
import Derived.ProofKit
import Derived.OpenShut
import Derived.ShutString
import Derived.ChangeOld
import Derived.Below
import Derived.PlainAid
import Derived.Lib.Hide
import Derived.Test.YtejbonnkgejngabInts
import Derived.Test.YtejbonnkgejngabSeqSz
import Derived.Test.YtejbonnkgejngabFmtW
namespace Go.Proofs.Ytejbonnkgejngab.fnExactFormatWord
open Go.ChangeShapes Go.WideShapes Go.ChangeAt Go.RowKit
open Go.ChangeMaps (open_string shut_string)
open Go.PlainAid Plain
set_option linter.unusedVariables false

theorem own : ownKnob Try.prog.godebug = none := by kernel_rfl
theorem laidOut : laidOutB Try.prog = true := by kernel_rfl

/-- WHAT THE WALK IS TOLD OF A SLICE OF INTEGERS THAT CAME IN: it is nil; or it leads to a row of 'cap' cells, the numbers 'zs' (the first 'len' are its elements, the rest its spare room), each fitting its kind. -/
def IsRow (k : IntKind) (w : World) (a : Option Addr) (len cap : Nat) (zs : List Int) : Prop :=
  (a = none ∧ len = 0 ∧ cap = 0 ∧ zs = []) ∨
  ∃ x, a = some x ∧ len ≤ cap ∧ cap ≤ maxLen ∧ zs.length = cap ∧ (∀ i, i < zs.length → w.cell? (x.add i) = some (.int k (zs.getD i 0))) ∧ ∀ n ∈ zs, (Lit.int k n).wf = true

open Ints
theorem walk (a0 : Option Addr) (len0 cap0 : Nat) (z0 : List Int) (w : World) (w0 : IsRow .i64 w a0 len0 cap0 z0) :
    Calls Try.prog 5 #[.slice a0 len0 cap0] w fun e w' => e = .returned (.bool true) ∧ Below w.heap.size w w' := by
  obtain ⟨xs0, hxl0, hxs0⟩ := lies_of_row w0
  subst hxl0
  have ARG0 := Lib.hid hxs0
  clear hxs0 w0
  by_cases hbig : xs0.length ≤ 1048576
  · have hs0 : xs0.length ≤ 1048576 := hbig
    clear hbig
    have hk0 : decide ((1 : Int) + (xs0.length : Int) < 0) = false := decide_eq_false (by omega)
    have CS := Lib.hid (fun (W : World) (u0 : Value) (l0 : Lies (Value.int .i64) W u0 xs0) => Mor.spec_fmtw u0 xs0 W l0)
    have CI := Lib.hid (fun (W : World) (u0 : Value) (l0 : Lies (Value.int .i64) W u0 xs0) => Mor.impl_fmtw u0 xs0 W l0)
    obtain ⟨y, hy⟩ : ∃ y, y = strOfNums (textW xs0) := ⟨_, rfl⟩
    rw [← hy] at CS CI
    clear hy
    go_enter Try.func5, Try.ntmps5
    go_wp2_with fail
    refine (Ints.copied _ xs0 _ ARG0.out hs0).mono ?_
    rintro e W1 ⟨vc1, rfl, h1, b1⟩
    have HB1 := Lib.hid b1
    have Rc1_1 := Lib.hid h1
    have Sc1 : Hid (w.heap.size ≤ w.heap.size) := Nat.le_refl _
    clear b1 h1
    go_wp2_with fail
    refine (CS.out _ vc1 Rc1_1.out.lies).mono ?_
    rintro e W2 ⟨rfl, b2⟩
    have HB2 := Lib.hid (HB1.out.trans (b2.mono HB1.out.size))
    clear b2 Rc1_1
    go_wp2_with fail
    refine (Ints.copied _ xs0 _ (ARG0.out.below HB2.out) hs0).mono ?_
    rintro e W3 ⟨vc2, rfl, h3, b3⟩
    have HB3 := Lib.hid (HB2.out.trans (b3.mono HB2.out.size))
    have Rc2_3 := Lib.hid h3
    have Sc2 : Hid (w.heap.size ≤ W2.heap.size) := HB2.out.size
    clear b3 h3
    go_wp2_with fail
    refine (CI.out _ vc2 Rc2_3.out.lies).mono ?_
    rintro e W4 ⟨rfl, b4⟩
    have HB4 := Lib.hid (HB3.out.trans (b4.mono HB3.out.size))
    have Rc2_4 := Lib.hid (Rc2_3.out.below b4)
    clear b4 Rc2_3
    go_wp2_with fail
    refine (Ints.copied _ xs0 _ (ARG0.out.below HB4.out) hs0).mono ?_
    rintro e W5 ⟨vc3, rfl, h5, b5⟩
    have HB5 := Lib.hid (HB4.out.trans (b5.mono HB4.out.size))
    have Rc2_5 := Lib.hid (Rc2_4.out.below b5)
    have Rc3_5 := Lib.hid h5
    have Sc3 : Hid (w.heap.size ≤ W4.heap.size) := HB4.out.size
    clear b5 h5 Rc2_4
    go_wp2_with fail
    refine (Ints.eq_yes _ _ xs0 _ Rc2_5.out.lies Rc3_5.out.lies).mono ?_
    rintro e W6 ⟨rfl, b6⟩
    have HB6 := Lib.hid (HB5.out.trans (b6.mono HB5.out.size))
    clear b6 Rc2_5 Rc3_5
    go_wp2
    go_ret
    exact ⟨rfl, HB6.out⟩
  · have hk0 : decide ((xs0.length : Int) > 1048576) = true := decide_eq_true (by omega)
    go_enter Try.func5, Try.ntmps5
    go_wp2
    go_ret
    exact ⟨rfl, Below.refl _ _⟩

/-! ### THE ROW's STEP: WRITTEN OUT: LEAVE IT -/
set_option maxRecDepth 100000 in
theorem lifted (os : Os) (started : os.Started) (H : Type) (enc : TypeId × Value → H) :
    ReturnsInHanded {} Try.checked os 5 .any (Rows.fnExactFormatWordSpec.pre6 enc Try.prog Try.f5 Rows.fnExactFormatWordRow.domain false) (Rows.fnExactFormatWordSpec.post enc Try.prog Try.f5 false true false false) := by
  refine returnsInHanded_of_change (C := Try.checked) own started (by kernel_rfl) Try.func5
    (ChangeSpec.witness6 (enc := enc) (C := Try.checked) false ⟨#[], #[.slice none 0 0], []⟩ 8 (by kernel_rfl) (by kernel_rfl) (by kernel_rfl) (by kernel_rfl)) ?_
  intro W base args ds gs before hval0 hW hcnd _
  have hval : ∀ (j : Nat) t v, Try.f5.params[j]? = some t → args[j]? = some v → Value.okWide Try.prog W .any base t v := hval0
  have hW' := hW
  obtain ⟨p, q, hA0, hV, rfl, hfz, hnd⟩ := hW
  have hA : DataW.TrodAll enc Try.prog W 0 (fun _ => true) true Try.f5.params.toList args.toList ds p := hA0
  rw [Try.params5] at hA hval
  obtain ⟨v0, vs0, d0, ds0, p0, q0, hargs, rfl, rfl, h0, r0⟩ := trodAll_cons hA
  obtain ⟨rfl, rfl, rfl⟩ := trodAll_nil r0
  obtain rfl : args = #[v0] := by cases args; simp_all
  obtain ⟨rfl, rfl⟩ := trodVars_none hV
  obtain ⟨a0, len0, cap0, rfl⟩ := okWide_slice Try.underlying23 (hval 0 23 v0 rfl rfl)
  have k0 := h0
  have lt0 : ∀ x ∈ p0, x.block < W.heap.size := by obtain ⟨m, hm⟩ := k0; exact DataW.trod_lt m _ _ _ hm
  obtain ⟨z0, w0⟩ : ∃ zs, IsRow .i64 W a0 len0 cap0 zs := by
    obtain ⟨fuel, hf⟩ := h0
    rcases open_ints Try.underlying23 Try.underlying3 (by kernel_rfl) hf with ⟨hcs, _⟩ | ⟨x, l, c, zs, hcs, _, hl, hm, hz, _, hcell, hwz⟩
    · simp [Value.cells] at hcs
      obtain ⟨rfl, rfl, rfl⟩ := hcs
      exact ⟨[], .inl ⟨rfl, rfl, rfl, rfl⟩⟩
    · simp [Value.cells] at hcs
      obtain ⟨rfl, rfl, rfl⟩ := hcs
      exact ⟨zs, .inr ⟨_, rfl, hl, hm, by simpa using hz, hcell, hwz⟩⟩
  clear hA0 hval0
  refine (walk a0 len0 cap0 z0 W w0).mono fun e W' ⟨he, bel⟩ => ?_
  subst he
  exact ⟨_, rfl, _, _, _, [], _, [], hW', trodAll_mk1 (shut_bool Try.underlying4 _), (trodAll_cons_mk (Below.trod laidOut (by kernel_rfl) (of_decide_eq_true (by kernel_rfl)) k0 bel lt0) trodAll_mk0), rfl, bel.frame _, fun h => by cases h⟩

theorem over : Rows.fnExactFormatWordRow.holds Try.pinned (OpenSpec.ofChange Rows.fnExactFormatWordSpec) :=
  OpenClaim.holds_of_wide 5 Try.f5 rfl rfl rfl rfl rfl rfl rfl ⟨rfl, rfl, rfl, rfl, rfl⟩ rfl rfl rfl rfl rfl (by kernel_rfl) Try.func5 (by kernel_rfl)
    (of_decide_eq_true (by kernel_rfl)) (by unfold Func.isWrapper; first | (rw [if_pos (by decide +kernel)]; kernel_rfl) | (rw [if_neg (by decide +kernel)]; exact ⟨rfl, rfl⟩))
    (fun os started H enc _ => lifted os started H enc)

/-- ████ THE STATEMENT ████ -/
theorem proved : Rows.FnExactFormatWordSaid := over
#print axioms proved
end Go.Proofs.Ytejbonnkgejngab.fnExactFormatWord
