/- The walk of the law on digits: it returns true for every code of bytes. No conditions beyond those that it states. -/
import Derived.Test.YtingebekdofclaaDraw2
import Derived.Test.YtingebekdofclaaDigits4
import Derived.Deep.DeepCutAuto
namespace Go.Proofs.Ytingebekdofclaa
open Go.ChangeShapes Go.WideShapes Go.ChangeAt Go.RowKit
open Go.PlainAid Plain
set_option linter.unusedVariables false
namespace Digits
open Ints
theorem digV_val {n b : Nat} (h1 : 2 ≤ b) (h2 : b ≤ 4) (h3 : (n : Int) < powV b 16) : digV n b = digs n b ∧ areD b (digs n b) = true ∧ valV b (digs n b) = n ∧ valV b (padD 16 (digs n b)) = n := by
  rw [powV_in b h1 h2] at h3
  have h4 : n < b ^ 16 := by omega
  have ha : areD b (digs n b) = true := areD_yes (by omega) (by omega) (digs_len n b) (digs_mem n b h1)
  refine ⟨digV_in n b h1 h2 h4, ha, by rw [valV_yes ha, valD_digs n b h4], ?_⟩
  by_cases hl : (16 : Int) ≤ (digs n b).length
  · rw [padD_same (.inl hl), valV_yes ha, valD_digs n b h4]
  · have hp := padD_more (n := 16) (xs := digs n b) (by omega) (Nat.le_refl _)
    have hp' : padD 16 (digs n b) = List.replicate (16 - (digs n b).length) 0 ++ digs n b := hp
    have hb : areD b (padD 16 (digs n b)) = true := by
      rw [hp']
      refine areD_yes (by omega) (by omega) (by rw [List.length_append, List.length_replicate]; omega) (fun x hx => ?_)
      rw [List.mem_append] at hx
      rcases hx with hx | hx
      · rw [List.mem_replicate] at hx; omega
      · exact digs_mem n b h1 x hx
    rw [valV_yes hb, hp', valD_zeros, valD_digs n b h4]
theorem digV_mod {n b : Nat} (h1 : 2 ≤ b) (h2 : b ≤ 4) (h3 : (n : Int) < powV b 16) : ((n : Int) - sumD (digV n b)).tmod ((b : Int) - 1) = 0 := by
  rw [powV_in b h1 h2] at h3
  rw [digV_in n b h1 h2 (by omega)]
  obtain ⟨q, hq⟩ := sum_mod b h1 16 n (by omega)
  show ((n : Int) - sumD (lows b 16 n).reverse).tmod _ = 0
  rw [hq]
  exact Int.mul_tmod_left _ _
theorem sum_bounds (n b : Int) : 0 ≤ sumD (digV n b) ∧ sumD (digV n b) ≤ 64 := by
  have h := sumD_bd 4 (digV n b).length (digV n b) (Nat.le_refl _) (digV_mem n b)
  rw [List.take_length] at h
  have := digV_len n b
  omega
/-- Behind the test of the ranges: whether number and base are in range. -/
def InRange (n b : Int) (c : Bool) : Prop := c = true → 2 ≤ b ∧ b ≤ 4 ∧ 0 ≤ n ∧ n < powV b 16
set_option maxRecDepth 100000 in
set_option maxHeartbeats 4000000 in
theorem walk (w : World) (a : Option Addr) (len cap : Nat) (hlen : len ≤ 1048576) (hcode : Cursor.CodeIs w w.heap.size a len) :
    Calls Try.prog 3 #[.slice a len cap] w fun e w' => e = .returned (.bool true) ∧ Below w.heap.size w w' := by
  have HC := Lib.hid hcode
  clear hcode
  go_enter Try.func3, Try.ntmps3
  go_wp2_with fail
  refine (Cursor.big_no w a len cap hlen).mono ?_
  rintro e w0 ⟨rfl, rfl⟩
  go_wp2_with fail
  refine (Cursor.drawDigitsOf w w a len cap hlen HC.out (Below.refl _ _)).mono ?_
  rintro e w1 ⟨n, b, ⟨⟨hn0, hn1⟩, hb0, hb1⟩, rfl, hb1'⟩
  have HB1 := Lib.hid hb1'
  clear hb1'
  obtain ⟨ds, hds⟩ : ∃ ds, ds = digV n b := ⟨_, rfl⟩
  obtain ⟨sm, hsm⟩ : ∃ sm, sm = sumD (digV n b) := ⟨_, rfl⟩
  obtain ⟨hs0, hs1⟩ := sum_bounds n b
  have HDS := Lib.hid hds
  have HSM := Lib.hid hsm
  rw [← hsm] at hs0 hs1
  have CI := Lib.hid (fun W => impl_digits_any n b W)
  have CS := Lib.hid (fun W => spec_digits_any n b W)
  have SI := Lib.hid (fun W => impl_sum n b W)
  have SS := Lib.hid (fun W => spec_sum n b W)
  rw [← hds] at CI CS
  rw [← hsm] at SI SS
  clear hds hsm
  go_wp2_with fail
  refine (CI.out _).mono ?_
  rintro e w2 ⟨vd, rfl, h2, b2⟩
  have HB2 := Lib.hid (HB1.out.trans (b2.mono HB1.out.size))
  have RD2 := Lib.hid h2
  clear b2 h2 HB1
  go_wp2_with fail
  refine (CS.out _).mono ?_
  rintro e w3 ⟨ve, rfl, h3, b3⟩
  have HB3 := Lib.hid (HB2.out.trans (b3.mono HB2.out.size))
  have RD3 := Lib.hid (RD2.out.below b3)
  have RE3 := Lib.hid h3
  clear b3 h3 HB2 RD2
  go_wp2_with fail
  refine (Ints.same_yes _ _ ds _ RD3.out.lies RE3.out.lies).mono ?_
  rintro e w4 ⟨rfl, b4⟩
  have HB4 := Lib.hid (HB3.out.trans (b4.mono HB3.out.size))
  have RD4 := Lib.hid (RD3.out.below b4)
  clear b4 HB3 RD3 RE3
  go_wp2_with fail
  refine (SI.out _).mono ?_
  rintro e w5 ⟨rfl, b5⟩
  have HB5 := Lib.hid (HB4.out.trans (b5.mono HB4.out.size))
  have RD5 := Lib.hid (RD4.out.below b5)
  clear b5 HB4 RD4
  go_wp2_with fail
  refine (SS.out _).mono ?_
  rintro e w6 ⟨rfl, b6⟩
  have HB6 := Lib.hid (HB5.out.trans (b6.mono HB5.out.size))
  have RD6 := Lib.hid (RD5.out.below b6)
  clear b6 HB5 RD5
  go_upto_region 7 with fail
  go_cut [52] (fun s wx => ∃ c : Bool, s = .bool c ∧ Hid (InRange n b c) ∧ wx = w6)
  case first =>
    have PW := Lib.hid (fun W => spec_pow_any b 16 W)
    by_cases c1 : 2 ≤ b
    · have d1 : decide (b ≥ 2) = true := decide_eq_true c1
      by_cases c2 : b ≤ 4
      · have d2 : decide (b ≤ 4) = true := decide_eq_true c2
        by_cases c3 : 0 ≤ n
        · have d3 : decide (n ≥ 0) = true := decide_eq_true c3
          by_cases c4 : n < powV b 16
          · have HI : Hid (InRange n b true) := fun _ => ⟨c1, c2, c3, c4⟩
            obtain ⟨p, hp⟩ : ∃ p, p = powV b 16 := ⟨_, rfl⟩
            rw [← hp] at PW c4
            clear hp
            have d4 : decide (n < p) = true := decide_eq_true c4
            go_wp2_with fail
            refine (PW.out _).mono ?_
            rintro e W' ⟨rfl, rfl⟩
            go_wp2_with fail
            go_meet
            exact ⟨true, rfl, HI, rfl⟩
          · obtain ⟨p, hp⟩ : ∃ p, p = powV b 16 := ⟨_, rfl⟩
            rw [← hp] at PW c4
            clear hp
            have d4 : decide (n < p) = false := decide_eq_false c4
            go_wp2_with fail
            refine (PW.out _).mono ?_
            rintro e W' ⟨rfl, rfl⟩
            go_wp2_with fail
            go_meet
            exact ⟨false, rfl, fun h => by (cases h), rfl⟩
        · have d3 : decide (n ≥ 0) = false := decide_eq_false c3
          go_wp2_with fail
          go_meet
          exact ⟨false, rfl, fun h => by (cases h), rfl⟩
      · have d2 : decide (b ≤ 4) = false := decide_eq_false c2
        go_wp2_with fail
        go_meet
        exact ⟨false, rfl, fun h => by (cases h), rfl⟩
    · have d1 : decide (b ≥ 2) = false := decide_eq_false c1
      go_wp2_with fail
      go_meet
      exact ⟨false, rfl, fun h => by (cases h), rfl⟩
  case rest =>
    obtain ⟨c, rfl, HI, rfl⟩ := hcut
    go_upto_if 52 with fail
    go_cut [] (fun wx => Hid (Below w.heap.size w wx))
    case first =>
      cases c with
      | false =>
        go_wp2_with fail
        go_meet
        exact HB6.out
      | true =>
        obtain ⟨c1, c2, c3, c4⟩ := HI.out rfl
        obtain ⟨k, rfl⟩ := Int.eq_ofNat_of_zero_le (show 0 ≤ b by omega)
        obtain ⟨m, rfl⟩ := Int.eq_ofNat_of_zero_le c3
        obtain ⟨g1, g2, g3, g4⟩ := digV_val (n := m) (b := k) (by omega) (by omega) c4
        have g5 := digV_mod (n := m) (b := k) (by omega) (by omega) c4
        have hmx : (m : Int) ≤ 4294967296 := by
          have := (pow_bd k 16 (by omega) (by omega) (by omega)).2
          rw [powV_in k (by omega) (by omega)] at c4
          omega
        rw [← HSM.out] at g5
        rw [← g1, ← HDS.out] at g3 g4
        have hd : ds = [] ∨ ∃ x cs, ds = x :: cs ∧ x ≠ 0 := by
          rw [HDS.out, g1]
          rw [powV_in k (by omega) (by omega)] at c4
          exact digs_head m k (by omega) (by omega)
        have HP := Lib.hid (fun W l => impl_pad vd ds 16 W l (by rw [HDS.out]; exact Nat.le_trans (digV_len _ _) (by omega)))
        have CV := Lib.hid (fun W l => impl_val vd ds k W l)
        have CW := Lib.hid (fun W v l => impl_val v (padD 16 ds) k W l)
        rw [g3] at CV
        rw [g4] at CW
        have H5 := g5
        have hk1 : ((k : Int) - 1 == 0) = false := by simp; omega
        clear g1 g2 g3 g4 g5 c4 HI
        rcases hd with hd | ⟨x, cs, hd, hx⟩
        · have HD := Lib.hid hd
          subst hd
          obtain ⟨_, av, cv, rfl, -, -⟩ := RD6.out.lies
          go_wp2_with fail
          refine (CV.out _ RD6.out.lies).mono ?_
          rintro e W' ⟨rfl, rfl⟩
          go_wp2_with fail
          refine (SI.out _).mono ?_
          rintro e w7 ⟨rfl, b7⟩
          have HB7 := Lib.hid (HB6.out.trans (b7.mono HB6.out.size))
          have RD7 := Lib.hid (RD6.out.below b7)
          clear b7 HB6 RD6
          go_wp2_with fail
          refine (HP.out _ RD7.out.lies).mono ?_
          rintro e w8 ⟨vp, rfl, h8, b8⟩
          have HB8 := Lib.hid (HB7.out.trans (b8.mono HB7.out.size))
          have RP8 := Lib.hid h8
          clear b8 h8 HB7 RD7
          go_wp2_with fail
          refine (CW.out _ _ RP8.out.lies).mono ?_
          rintro e W' ⟨rfl, rfl⟩
          go_wp2_with fail
          go_meet
          exact HB8.out
        · obtain ⟨av, cv, rfl, hf⟩ := RD6.out.form
          have hlen : 0 < ds.length := by rw [hd]; simp
          obtain ⟨g, rfl⟩ := hf hlen
          have HX := Lib.hid hd
          have hx0 : (x == 0) = false := by simp [hx]
          have hld : decide ((ds.length : Int) > 0) = true := decide_eq_true (by omega)
          clear hf hd hx
          go_wp2_with fail
          refine (CV.out _ RD6.out.lies).mono ?_
          rintro e W' ⟨rfl, rfl⟩
          go_wp2_with fail
          refine (SI.out _).mono ?_
          rintro e w7 ⟨rfl, b7⟩
          have HB7 := Lib.hid (HB6.out.trans (b7.mono HB6.out.size))
          have RD7 := Lib.hid (RD6.out.below b7)
          have hc0 : w7.cell? ⟨g, 0, none⟩ = some (.int .i64 x) := by
            have h1 := World.ownsRow.cellAt RD7.out 0 (by omega)
            rw [h1, HX.out]
            rfl
          clear b7 HB6 RD6
          go_wp2_with fail
          refine (HP.out _ RD7.out.lies).mono ?_
          rintro e w8 ⟨vp, rfl, h8, b8⟩
          have HB8 := Lib.hid (HB7.out.trans (b8.mono HB7.out.size))
          have RP8 := Lib.hid h8
          clear b8 h8 HB7 RD7
          go_wp2_with fail
          refine (CW.out _ _ RP8.out.lies).mono ?_
          rintro e W' ⟨rfl, rfl⟩
          go_wp2_with fail
          go_meet
          exact HB8.out
    case rest =>
      -- TAIL
      have CV1 := Lib.hid (Cursor.code_next HC.out hcut.out)
      go_wp2_with fail
      refine (Cursor.drawValueOf wc wc a len cap hlen CV1.out (Below.refl _ _)).mono ?_
      rintro e Wq1 ⟨v1, xs, m1, ⟨hx1, hm10, hm11⟩, rfl, hq1_x, bq1⟩
      have HBq1 := Lib.hid (hcut.out.trans (bq1.mono hcut.out.size))
      have Rqx_q1 := Lib.hid hq1_x
      clear bq1 hq1_x
      have CV2 := Lib.hid (Cursor.code_next HC.out HBq1.out)
      go_wp2_with fail
      refine (Cursor.drawPadDigits Wq1 Wq1 a len cap hlen CV2.out (Below.refl _ _)).mono ?_
      rintro e Wq2 ⟨v2, ps, m2, ⟨hx2, hm20, hm21⟩, rfl, hq2_p, bq2⟩
      have HBq2 := Lib.hid (HBq1.out.trans (bq2.mono HBq1.out.size))
      have Rqx_q2 := Lib.hid (Rqx_q1.out.below bq2)
      have Rqp_q2 := Lib.hid hq2_p
      clear Rqx_q1 bq2 hq2_p
      have CV3 := Lib.hid (Cursor.code_next HC.out HBq2.out)
      go_wp2_with fail
      refine (Cursor.drawPowerOf Wq2 Wq2 a len cap hlen CV3.out (Below.refl _ _)).mono ?_
      rintro e Wq3 ⟨q1, q2, ⟨⟨hq10, hq11⟩, hq20, hq21⟩, rfl, bq3⟩
      have HBq3 := Lib.hid (HBq2.out.trans (bq3.mono HBq2.out.size))
      have Rqx_q3 := Lib.hid (Rqx_q2.out.below bq3)
      have Rqp_q3 := Lib.hid (Rqp_q2.out.below bq3)
      clear Rqx_q2 Rqp_q2 bq3
      obtain ⟨va, hva⟩ : ∃ va, va = valV m1 xs := ⟨_, rfl⟩
      obtain ⟨ar, har⟩ : ∃ ar, ar = areD m1 xs := ⟨_, rfl⟩
      obtain ⟨pa, hpa⟩ : ∃ pa, pa = padD m2 ps := ⟨_, rfl⟩
      obtain ⟨pw, hpw⟩ : ∃ pw, pw = powV q1 q2 := ⟨_, rfl⟩
      have IV := Lib.hid (fun W l => impl_val v1 xs m1 W l)
      have SV := Lib.hid (fun W l => spec_val v1 xs m1 W l)
      have IA := Lib.hid (fun W l => impl_are v1 xs m1 W l)
      have SA := Lib.hid (fun W l => spec_are v1 xs m1 W l)
      have IP := Lib.hid (fun W l => impl_pad v2 ps m2 W l (by omega))
      have SP := Lib.hid (fun W l => spec_pad v2 ps m2 W l (by omega))
      have IW := Lib.hid (fun W => impl_pow_any q1 q2 W)
      have SW := Lib.hid (fun W => spec_pow_any q1 q2 W)
      have IR := Lib.hid (fun W l => impl_rev v2 ps W l (by omega))
      have SR := Lib.hid (fun W l => spec_rev v2 ps W l (by omega))
      have IR2 := Lib.hid (fun W v l => impl_rev v ps.reverse W l (by rw [List.length_reverse]; omega))
      rw [← hva] at IV SV
      rw [← har] at IA SA
      rw [← hpa] at IP SP
      rw [← hpw] at IW SW
      rw [List.reverse_reverse] at IR2
      clear hva har hpa hpw
      go_wp2_with fail
      refine (IV.out _ Rqx_q3.out.lies).mono ?_
      rintro e W' ⟨rfl, rfl⟩
      go_wp2_with fail
      refine (SV.out _ Rqx_q3.out.lies).mono ?_
      rintro e W' ⟨rfl, rfl⟩
      go_wp2_with fail
      refine (IA.out _ Rqx_q3.out.lies).mono ?_
      rintro e W' ⟨rfl, rfl⟩
      go_wp2_with fail
      refine (SA.out _ Rqx_q3.out.lies).mono ?_
      rintro e W' ⟨rfl, rfl⟩
      go_wp2_with fail
      refine (IP.out _ Rqp_q3.out.lies).mono ?_
      rintro e Wq4 ⟨v3, rfl, hq4_p3, bq4⟩
      have HBq4 := Lib.hid (HBq3.out.trans (bq4.mono HBq3.out.size))
      have Rqp_q4 := Lib.hid (Rqp_q3.out.below bq4)
      have Rqp3_q4 := Lib.hid hq4_p3
      clear Rqx_q3 Rqp_q3 bq4 hq4_p3
      go_wp2_with fail
      refine (SP.out _ Rqp_q4.out.lies).mono ?_
      rintro e Wq5 ⟨v4, rfl, hq5_p4, bq5⟩
      have HBq5 := Lib.hid (HBq4.out.trans (bq5.mono HBq4.out.size))
      have Rqp_q5 := Lib.hid (Rqp_q4.out.below bq5)
      have Rqp3_q5 := Lib.hid (Rqp3_q4.out.below bq5)
      have Rqp4_q5 := Lib.hid hq5_p4
      clear Rqp_q4 Rqp3_q4 bq5 hq5_p4
      go_wp2_with fail
      refine (Ints.same_yes _ _ pa _ Rqp3_q5.out.lies Rqp4_q5.out.lies).mono ?_
      rintro e Wq6 ⟨rfl, bq6⟩
      have HBq6 := Lib.hid (HBq5.out.trans (bq6.mono HBq5.out.size))
      have Rqp_q6 := Lib.hid (Rqp_q5.out.below bq6)
      clear Rqp3_q5 Rqp4_q5 Rqp_q5 bq6
      go_wp2_with fail
      refine (IW.out _).mono ?_
      rintro e W' ⟨rfl, rfl⟩
      go_wp2_with fail
      refine (SW.out _).mono ?_
      rintro e W' ⟨rfl, rfl⟩
      go_wp2_with fail
      refine (IR.out _ Rqp_q6.out.lies).mono ?_
      rintro e Wq7 ⟨v5, rfl, hq7_r, bq7⟩
      have HBq7 := Lib.hid (HBq6.out.trans (bq7.mono HBq6.out.size))
      have Rqp_q7 := Lib.hid (Rqp_q6.out.below bq7)
      have Rqr_q7 := Lib.hid hq7_r
      clear Rqp_q6 bq7 hq7_r
      go_wp2_with fail
      refine (IR2.out _ _ Rqr_q7.out.lies).mono ?_
      rintro e Wq8 ⟨v6, rfl, hq8_s, bq8⟩
      have HBq8 := Lib.hid (HBq7.out.trans (bq8.mono HBq7.out.size))
      have Rqp_q8 := Lib.hid (Rqp_q7.out.below bq8)
      have Rqs_q8 := Lib.hid hq8_s
      clear Rqr_q7 Rqp_q7 bq8 hq8_s
      go_wp2_with fail
      refine (Ints.same_yes _ _ ps _ Rqs_q8.out.lies Rqp_q8.out.lies).mono ?_
      rintro e Wq9 ⟨rfl, bq9⟩
      have HBq9 := Lib.hid (HBq8.out.trans (bq9.mono HBq8.out.size))
      have Rqp_q9 := Lib.hid (Rqp_q8.out.below bq9)
      clear Rqs_q8 Rqp_q8 bq9
      go_wp2_with fail
      refine (IR.out _ Rqp_q9.out.lies).mono ?_
      rintro e Wq10 ⟨v7, rfl, hq10_t, bq10⟩
      have HBq10 := Lib.hid (HBq9.out.trans (bq10.mono HBq9.out.size))
      have Rqp_q10 := Lib.hid (Rqp_q9.out.below bq10)
      have Rqt_q10 := Lib.hid hq10_t
      clear Rqp_q9 bq10 hq10_t
      go_wp2_with fail
      refine (SR.out _ Rqp_q10.out.lies).mono ?_
      rintro e Wq11 ⟨v8, rfl, hq11_u, bq11⟩
      have HBq11 := Lib.hid (HBq10.out.trans (bq11.mono HBq10.out.size))
      have Rqt_q11 := Lib.hid (Rqt_q10.out.below bq11)
      have Rqu_q11 := Lib.hid hq11_u
      clear Rqp_q10 Rqt_q10 bq11 hq11_u
      go_wp2_with fail
      refine (Ints.same_yes _ _ ps.reverse _ Rqt_q11.out.lies Rqu_q11.out.lies).mono ?_
      rintro e Wq12 ⟨rfl, bq12⟩
      have HBq12 := Lib.hid (HBq11.out.trans (bq12.mono HBq11.out.size))
      clear Rqt_q11 Rqu_q11 bq12
      go_wp2
      go_ret
      exact ⟨rfl, HBq12.out⟩
      -- END
end Digits
end Go.Proofs.Ytingebekdofclaa
