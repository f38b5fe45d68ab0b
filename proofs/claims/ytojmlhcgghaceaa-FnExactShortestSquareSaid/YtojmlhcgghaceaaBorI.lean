/- Contract of the program's BordersOf. No conditions beyond those that it states. -/
import Derived.Test.YtojmlhcgghaceaaBorS2
import Derived.Test.YtojmlhcgghaceaaOccJ
import Derived.Test.YtojmlhcgghaceaaDigits
namespace Go.Proofs.Ytojmlhcgghaceaa
open Go.ChangeShapes Go.WideShapes Go.ChangeAt Go.RowKit
open Go.PlainAid Plain
set_option linter.unusedVariables false
namespace Fac
theorem finder_field (x y : Value) (W : World) : (Instr.field 73 (.agg #[x, y]) 1).run Try.prog W = .ok y W := rfl
/-- The borders of a word and its length: a list that the search goes down. -/
theorem brs_step {u D : List Int} {k m : Nat} (h : brs u k ++ D.reverse = brV u) (hk : bd u k = m) : brs u m ++ (D ++ [(m : Int)]).reverse = brV u := by
  have h0 : 0 < k := by
    rcases Nat.eq_zero_or_pos k with e | e
    · subst e; rw [bd_zero] at hk; omega
    · exact e
  rw [List.reverse_append]
  exact brs_more h h0 hk
theorem brs_done {u D : List Int} {k : Nat} (h : brs u k ++ D.reverse = brV u) (hk : bd u k < 0) : D.reverse = brV u := by
  have h0 : k = 0 := by
    rcases Nat.eq_zero_or_pos k with e | e
    · exact e
    · have := bd_pos u e; omega
  subst h0
  rw [brs_zero] at h
  exact h
theorem brs_rest {u D : List Int} {k : Nat} (h : brs u k ++ D.reverse = brV u) : D.length ≤ u.length := by
  have := brs_left h
  rw [List.length_reverse] at this
  exact this
set_option maxHeartbeats 2000000 in
theorem impl_bor (v : Value) (u : List Int) (w : World) (h : Lies (Value.int .i64) w v u) (hs : u.length ≤ 4194303) :
    Calls Try.prog 64 #[v] w (Gives (Value.int .i64) 3 (brV u) w) := by
  obtain ⟨i0, hi, hz0, hz1, hz2⟩ := info_parts Ints.infoI
  have HF := Lib.hid (finder v u w h (by omega))
  obtain ⟨pa, pc, rfl⟩ := lies_form h
  have HU := Lib.hid h
  clear h
  go_enter Try.func64, Try.ntmps64
  go_wp2_with fail
  refine HF.out.mono ?_
  rintro e W1 ⟨vb, rfl, hv, b1⟩
  obtain ⟨ba, bc, hvb, _⟩ := hv.form
  rw [bdT_len] at hvb
  subst hvb
  have HV := Lib.hid hv.lies
  have HB1 := Lib.hid b1
  obtain ⟨q, r, hba, hc⟩ := lies_some hv.lies (bdT_at u (i := u.length) (j := u.length) (Nat.le_refl _))
  have HBA := Lib.hid hba
  subst hba
  have HBD := Lib.hid (fun k => bd_ge u k)
  obtain ⟨b0, hb0⟩ : ∃ b0, b0 = bd u u.length := ⟨_, rfl⟩
  rw [← hb0] at hc
  have HB0 := Lib.hid hb0
  clear hv b1 HF hb0
  have hfield := fun W => finder_field (.slice pa u.length pc) (.slice (some ⟨q, r, none⟩) (u.length + 1) bc) W
  go_wp2
  go_loopw [4, 5] (fun o' k' wr => ∃ (k : Nat) (b : Int) (vo : Value) (D : List Int), k ≤ u.length ∧ Hid (bd u k = b) ∧ k' = .int .i64 b ∧ vo = o' ∧ Hid (brs u k ++ D.reverse = brV u) ∧ Hid (Has (Value.int .i64) 3 wr W1.heap.size vo D) ∧ Hid (Below W1.heap.size W1 wr)) (fun _ k' _ => (intOf k' + 1).toNat)
  case atStart => exact ⟨u.length, b0, _, [], Nat.le_refl _, HB0.out.symm, rfl, rfl, List.append_nil _, World.ownsRow_nil _ _ _ _, Below.refl _ _⟩
  case round =>
    obtain ⟨k, b, vo, D, hk, HK, rfl, rfl, HX, HOr, HBr⟩ := hrel
    obtain ⟨oa, oc, rfl, _⟩ := HOr.out.form
    have HL := Lib.hid (brs_rest HX.out)
    by_cases h0 : b < 0
    · have HE := Lib.hid (brs_done HX.out (by rw [HK.out]; exact h0))
      go_wp2_with fail
      refine (Digits.reverse_has _ D _ _ HOr.out).mono ?_
      rintro e W5 ⟨rfl, ho5, hg5⟩
      have HO5 : Hid (Has (Value.int .i64) 3 W5 w.heap.size (.slice oa D.length oc) (brV u)) := by rw [← HE.out]; exact ho5.mono HB1.out.size
      have HB5 := Lib.hid (HB1.out.trans ((HOr.out.frame HBr.out (Nat.le_refl _) hg5).mono HB1.out.size))
      clear ho5 hg5
      go_wp2
      go_ret
      exact ⟨_, rfl, HO5.out, HB5.out⟩
    · obtain ⟨m, hm⟩ : ∃ m : Nat, b = m := ⟨b.toNat, by omega⟩
      subst hm
      have HX2 := Lib.hid (brs_step HX.out HK.out)
      have hmk : m < k := by have := HBD.out k; rw [HK.out] at this; omega
      have hc2 := bdT_at u (i := u.length) (j := m) (by omega)
      obtain ⟨_, _, hba, hc3⟩ := lies_some HV.out hc2
      cases hba
      obtain ⟨b2, hb2⟩ : ∃ b2, b2 = bd u m := ⟨_, rfl⟩
      rw [← hb2] at hc3
      have HB2 := Lib.hid hb2
      have hbm : b2 < m := by have := HBD.out m; rw [← hb2] at this; omega
      clear hc2 hb2
      have HC3 := Lib.hid hc3
      clear hc3 hc
      have hml : m < u.length + 1 := by omega
      go_upto_region 5 with (at_builtin; refine append_one (enc := (Value.int .i64)) (e := 3) wr rfl _ _ 22 rfl W1.heap.size i0 (.int .i64 0) 8 Try.underlying22 hi hz0 hz1 hz2 rfl (.slice oa D.length oc) D rfl HOr.out (m : Int) rfl (fun _ => rfl) (by have := HL.out; omega) (by have := HL.out; omega) HBr.out.size ?_; intro v' w4 ho hg; have HO4 := Lib.hid ho; have HB4 := Lib.hid (HOr.out.frame HBr.out (Nat.le_refl _) hg); clear hg ho)
      have hc4 := (HB4.out.cell (p := ⟨q, r + m, none⟩) (World.block_lt_of_cell? _ _ HC3.out)).trans HC3.out
      go_wp2
      go_roundw
      case rel => exact ⟨m, b2, _, _, by omega, HB2.out.symm, rfl, rfl, HX2, HO4, HB4⟩
      case measure => simp [intOf] <;> omega
end Fac
end Go.Proofs.Ytojmlhcgghaceaa
