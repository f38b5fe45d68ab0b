/- Contracts of DigitsOf and DigitSum, of the program and of the model. No conditions beyond those that each states. -/
import Derived.Test.YtfpdikohlafpiaaGreatDigits
namespace Go.Proofs.YtfpdikohlafpiaaGreat
open Go.ChangeShapes Go.WideShapes Go.ChangeAt Go.RowKit
open Go.PlainAid Plain
set_option linter.unusedVariables false
namespace Digits
open Ints

/-- The digits, none where number or base is out of range. -/
def digV (n b : Int) : List Int := if 2 ≤ b ∧ b ≤ 4 ∧ 0 ≤ n ∧ n < powV b 16 then digs n.toNat b.toNat else []
theorem powV_in (b : Nat) (h1 : 2 ≤ b) (h2 : b ≤ 4) : powV b 16 = ((b ^ 16 : Nat) : Int) := by
  rw [powV, if_pos (by omega)]
  rfl
theorem digV_in (n b : Nat) (h1 : 2 ≤ b) (h2 : b ≤ 4) (h3 : n < b ^ 16) : digV n b = digs n b := by
  rw [digV, if_pos ⟨by omega, by omega, by omega, by rw [powV_in b h1 h2]; exact Int.ofNat_lt.2 h3⟩]
  rfl
theorem has_empty (w : World) : Has (Value.int .i64) 3 (w.alloc (.cells #[] 3)) w.heap.size (.slice (some ⟨w.heap.size, 0, none⟩) 0 0) [] := Has.lit (enc := Value.int .i64) (e := 3) w [] (Nat.le_refl _) (by simp)
theorem gives_empty (w : World) : Gives (Value.int .i64) 3 [] w (.returned (.slice (some ⟨w.heap.size, 0, none⟩) 0 0)) (w.alloc (.cells #[] 3)) :=
  ⟨_, rfl, has_empty w, (Below.refl _ _).alloc (Nat.le_refl _) _⟩
theorem spec_digits_no (n b : Int) (w : World) (h : ¬ (2 ≤ b ∧ b ≤ 4 ∧ 0 ≤ n ∧ n < powV b 16)) :
    Calls Tryz.prog 94 #[.int .i64 n, .int .i64 b] w (Gives (Value.int .i64) 3 [] w) := by
  by_cases h1 : n < 0
  · clear h
    go_enter Tryz.func94, Tryz.ntmps94
    go_wp2
    go_ret
    exact gives_empty w
  · by_cases h2 : 2 ≤ b ∧ b ≤ 4
    · have h3 : powV b 16 ≤ n := by omega
      obtain ⟨h4, h5⟩ := h2
      have hp := fun w => spec_pow_any b 16 w
      obtain ⟨p, hp'⟩ : ∃ p, p = powV b 16 := ⟨_, rfl⟩
      rw [← hp'] at h3
      rw [← hp'] at hp
      clear h hp'
      have HP := Lib.hid hp
      clear hp
      go_enter Tryz.func94, Tryz.ntmps94
      go_wp2_with fail
      refine (l1In_yes _ _ _ _ h4 h5).mono ?_
      rintro e w' ⟨rfl, rfl⟩
      go_wp2_with fail
      refine (HP.out _).mono ?_
      rintro e w' ⟨rfl, rfl⟩
      go_wp2
      go_ret
      exact gives_empty w
    · have h3 : b < 2 ∨ 4 < b := by omega
      clear h h2
      go_enter Tryz.func94, Tryz.ntmps94
      go_wp2_with fail
      refine (l1In_no _ _ _ _ h3).mono ?_
      rintro e w' ⟨rfl, rfl⟩
      go_wp2
      go_ret
      exact gives_empty w
theorem spec_digits_in (n b : Nat) (w : World) (h1 : 2 ≤ b) (h2 : b ≤ 4) (h3 : n < b ^ 16) :
    Calls Tryz.prog 94 #[.int .i64 n, .int .i64 b] w (Gives (Value.int .i64) 3 (digs n b) w) := by
  obtain ⟨i0, hi, hz0, hz1, hz2⟩ := info_parts infoI
  have hst := Lib.hid (digits_start n b h3)
  have hp := fun w => spec_pow_any b 16 w
  rw [powV_in b h1 h2] at hp
  obtain ⟨p, hp'⟩ : ∃ p, p = b ^ 16 := ⟨_, rfl⟩
  rw [← hp'] at hp
  have hlt : n < p := by omega
  have hz := (pow_bd b 16 h1 h2 (by omega)).2
  have hnb : n ≤ 4294967296 := by omega
  have HP := Lib.hid hp
  clear hp hp' h3 hz
  have hd0 : decide ((n : Int) < 0) = false := decide_eq_false (by omega)
  have hd1 : decide (p ≤ n) = false := decide_eq_false (by omega)
  go_enter Tryz.func94, Tryz.ntmps94
  go_wp2_with fail
  refine (l1In_yes _ _ _ _ (by omega) (by omega)).mono ?_
  rintro e w' ⟨rfl, rfl⟩
  go_wp2_with fail
  refine (HP.out _).mono ?_
  rintro e w' ⟨rfl, rfl⟩
  go_wp2_with fail
  clear hlt HP
  go_loopw [0, 5] (fun n' o' wr => ∃ (m : Nat) (cs : List Int), m ≤ 4294967296 ∧ n' = .int .i64 m ∧ Hid (DigitsAt n b m cs) ∧ Hid (Has (Value.int .i64) 3 wr w.heap.size o' cs.reverse) ∧ Hid (Below w.heap.size w wr)) (fun n' _ _ => (intOf n').toNat)
  case atStart => exact ⟨n, [], by omega, rfl, hst, has_empty w, (Below.refl _ _).alloc (Nat.le_refl _) _⟩
  case round =>
    obtain ⟨m, cs, hm, rfl, hat, hown, hbel⟩ := hrel
    by_cases h0 : 0 < m
    · have HS := Lib.hid (digits_step hat.out h0)
      have hlen := HS.out.2
      have hb2 := hbel.out.size
      have hdiv : m / b < m := Nat.div_lt_self h0 (by omega)
      have hne : ((b : Int) == 0) = false := by simp; omega
      have hl := Lib.hid (hown.out.lies.below ((Below.refl wr.heap.size wr).alloc (Nat.le_refl _) (.cells #[.int .i64 ((m : Int) % (b : Int))] 3)))
      have hlit := Lib.hid (Has.lit (enc := Value.int .i64) (e := 3) wr [(m : Int) % (b : Int)] hb2 (by simp))
      have hlr : cs.reverse.length + 1 ≤ 16 := by rw [List.length_reverse]; omega
      have hq0 : 0 ≤ (m : Int) / (b : Int) := Int.ediv_nonneg (by omega) (by omega)
      have hq1 : (m : Int) / (b : Int) ≤ 4294967296 := Int.le_trans (Int.ediv_le_self _ (by omega)) (by omega)
      clear hdiv
      go_wp2_with (at_builtin; refine append_lies (enc := Value.int .i64) (e := 3) _ rfl _ _ 24 rfl w.heap.size i0 (.int .i64 0) 8 Tryz.underlying24 hi hz0 hz1 hz2 rfl _ [(m : Int) % (b : Int)] rfl hlit.out u5 cs.reverse rfl hl.out (fun _ => rfl) (by simp; omega) (by simp; omega) (by simp; omega) ?_; intro v' w' hown' hgrow')
      have hbel' : Hid (Below w.heap.size w w') := hlit.out.frame (hbel.out.alloc hb2 _) (Nat.le_refl _) hgrow'
      have HO := Lib.hid hown'
      clear hown' hgrow' hlit hl
      go_wp2
      go_roundw
      case rel => exact ⟨m / b, cs ++ [((m % b : Nat) : Int)], by have := Nat.div_le_self m b; omega, by go_num, HS.out.1, by rw [List.reverse_append]; exact HO.out, hbel'⟩
      case measure => simp [intOf]; exact Nat.div_lt_self h0 (by omega)
    · obtain rfl : m = 0 := by omega
      have HE := Lib.hid (digits_end hat.out)
      have H2 : Hid (Has (Value.int .i64) 3 wr w.heap.size u5 (digs n b)) := by
        have := hown.out
        rw [HE.out] at this
        exact this
      clear hown hat
      go_wp2
      go_ret
      exact ⟨u5, rfl, H2.out, hbel.out⟩
theorem gives_nil (w : World) : Gives (Value.int .i64) 3 [] w (.returned (.slice none 0 0)) w := ⟨_, rfl, World.ownsRow_nil _ _ _ _, Below.refl _ _⟩
theorem powV_out (b : Int) (h : ¬ (2 ≤ b ∧ b ≤ 4)) : powV b 16 = 0 := if_neg (by omega)
theorem spec_digits_any (n b : Int) (w : World) : Calls Tryz.prog 94 #[.int .i64 n, .int .i64 b] w (Gives (Value.int .i64) 3 (digV n b) w) := by
  by_cases h : 2 ≤ b ∧ b ≤ 4 ∧ 0 ≤ n ∧ n < powV b 16
  · obtain ⟨k, rfl⟩ := Int.eq_ofNat_of_zero_le (show 0 ≤ b by omega)
    obtain ⟨m, rfl⟩ := Int.eq_ofNat_of_zero_le (show 0 ≤ n by omega)
    have h4 := h.2.2.2
    rw [powV_in k (by omega) (by omega)] at h4
    rw [digV_in m k (by omega) (by omega) (by omega)]
    exact spec_digits_in m k w (by omega) (by omega) (by omega)
  · rw [digV, if_neg h]
    exact spec_digits_no n b w h
theorem digV_len (n b : Int) : (digV n b).length ≤ 16 := by
  unfold digV
  split
  · exact digs_len _ _
  · simp
theorem digV_mem (n b : Int) : ∀ x ∈ digV n b, 0 ≤ x ∧ x < 4 := by
  unfold digV
  split
  · intro x hx
    have := digs_mem _ _ (by omega) x hx
    omega
  · intro x hx; cases hx
end Digits
end Go.Proofs.YtfpdikohlafpiaaGreat
