/- Contracts of GreatestExponent and ExponentOf, of the model and of the program, and of the program's SquaresOf. No conditions beyond those that each states. -/
import Derived.Test.YtojmlhcgghaceaaPowG
namespace Go.Proofs.Ytojmlhcgghaceaa
open Go.ChangeShapes Go.WideShapes Go.ChangeAt Go.RowKit
open Go.PlainAid Plain
set_option linter.unusedVariables false
namespace Fac
open Seqs
set_option maxHeartbeats 2000000 in
theorem impl_gr (v : Value) (u : List Int) (w : World) (h : Lies (Value.int .i64) w v u) (hs : u.length ≤ 4194304) :
    Calls Try.prog 26 #[v] w fun e w' => e = .returned (.tuple #[.int .i64 (gN u : Int), .int .i64 (gD u : Int)]) ∧ Below w.heap.size w w' := by
  obtain ⟨pa, pc, rfl⟩ := lies_shape h
  have HU := Lib.hid h
  clear h
  by_cases h0 : u.length = 0
  · have HR := Lib.hid (g_nil h0)
    have hd0 : ((u.length : Int) == 0) = true := by rw [h0]; rfl
    have hd1 : (u.length : Int) = 0 := by omega
    go_enter Try.func26, Try.ntmps26
    go_wp2
    go_ret2
    exact ⟨ret_ii (by rw [HR.out.1]; rfl) (by rw [HR.out.2]; rfl), Below.refl _ _⟩
  · have hd0 : ((u.length : Int) == 0) = false := by simp; intro e; rw [e] at h0; simp at h0
    by_cases hL : u.length ≤ 128
    · have HC := Lib.hid (exps_I _ u w HU.out (by omega))
      have HS : Hid (∀ e ∈ exps u u.length, e.1 ≤ 100000 ∧ e.2 ≤ 100000) := fun e he => exps_small hL he
      have hgt := decide_eq_false (show ¬ (u.length : Int) > 128 by omega)
      have hG := mxE_great (u := u) (by omega)
      have HR := Lib.hid (g_great hL hG)
      have hp0 := hG.1
      obtain ⟨b, hb1, hb2⟩ := hG.2.1
      have hle := mlen_le hb1
      rw [← hb2] at hle
      have HM := Lib.hid (fun vb base W (hv : OwnT 44 2 W base vb (exL (exps u u.length))) => maxf vb (exps u u.length) base W hv (by rw [exps_len]; omega) HS.out)
      obtain ⟨M, hM⟩ : ∃ M, M = mxE (exps u u.length) := ⟨_, rfl⟩
      rw [← hM] at hp0 hle hb1 HR HM
      have HLW := Lib.hid (fun W => low M W (by omega) (by omega) hp0)
      obtain ⟨s, hs1⟩ : ∃ s, s = M.1 / Nat.gcd M.1 M.2 := ⟨_, rfl⟩
      obtain ⟨q, hq1⟩ : ∃ q, q = M.2 / Nat.gcd M.1 M.2 := ⟨_, rfl⟩
      rw [← hs1, ← hq1] at HLW HR
      clear hG hb2 hM hb1 hs1 hq1
      go_enter Try.func26, Try.ntmps26
      go_wp2_with (first | (go_at_call 37; refine HC.out.mono ?_; rintro e W1 ⟨vb, rfl, hv, b1⟩; have HV := Lib.hid hv.1; have HB1 := Lib.hid b1; clear hv b1) | (go_at_call 43; refine (HM.out vb _ W1 HV.out).mono ?_; rintro e W2 ⟨rfl, b2⟩; have HB2 := Lib.hid (HB1.out.trans (b2.mono HB1.out.size)); clear b2) | (go_at_call 44; refine (HLW.out _).mono ?_; rintro e W3 ⟨rfl, b3⟩; have HB3 := Lib.hid (HB2.out.trans (b3.mono HB2.out.size)); clear b3))
      go_ret2
      exact ⟨ret_ii (by rw [HR.out.1]) (by rw [HR.out.2]), HB3.out⟩
    · have HR := Lib.hid (g_out hL)
      have hgt := decide_eq_true (show (u.length : Int) > 128 by omega)
      go_enter Try.func26, Try.ntmps26
      go_wp2
      go_ret2
      exact ⟨ret_ii (by rw [HR.out.1]; rfl) (by rw [HR.out.2]; rfl), Below.refl _ _⟩
/-- The exponent of a word in lowest terms. -/
def exN (u : List Int) : Nat := if u.length = 0 then 0 else u.length / Nat.gcd u.length (lpN u)
def exD (u : List Int) : Nat := if u.length = 0 then 0 else lpN u / Nat.gcd u.length (lpN u)
set_option maxHeartbeats 2000000 in
theorem impl_ex (v : Value) (u : List Int) (w : World) (h : Lies (Value.int .i64) w v u) (hs : u.length ≤ 4194303) :
    Calls Try.prog 28 #[v] w fun e w' => e = .returned (.tuple #[.int .i64 (exN u : Int), .int .i64 (exD u : Int)]) ∧ Below w.heap.size w w' := by
  obtain ⟨pa, pc, rfl⟩ := lies_shape h
  have HU := Lib.hid h
  clear h
  by_cases h0 : u.length = 0
  · have HR : Hid (exN u = 0 ∧ exD u = 0) := by show _ ∧ _; simp [exN, exD, h0]
    have hd0 : ((u.length : Int) == 0) = true := by rw [h0]; rfl
    have hd1 : (u.length : Int) = 0 := by omega
    go_enter Try.func28, Try.ntmps28
    go_wp2
    go_ret2
    exact ⟨ret_ii (by rw [HR.out.1]; rfl) (by rw [HR.out.2]; rfl), Below.refl _ _⟩
  · have hd0 : ((u.length : Int) == 0) = false := by simp; intro e; rw [e] at h0; simp at h0
    have HR : Hid (exN u = u.length / Nat.gcd u.length (lpN u) ∧ exD u = lpN u / Nat.gcd u.length (lpN u)) := by show _ ∧ _; simp [exN, exD, h0]
    have hl := lpN_eq (u := u) (by omega)
    have hr := lpV_range (u := u) (by omega)
    have HC := Lib.hid (impl_lp _ u w HU.out hs)
    rw [← hl] at HC hr
    obtain ⟨p, hp⟩ : ∃ p, p = lpN u := ⟨_, rfl⟩
    rw [← hp] at HC hr HR
    have HLW := Lib.hid (fun W => low (u.length, p) W (by show u.length ≤ _; omega) (by show p ≤ _; omega) (by show 0 < p; omega))
    dsimp only at HLW
    obtain ⟨s, hs1⟩ : ∃ s, s = u.length / Nat.gcd u.length p := ⟨_, rfl⟩
    obtain ⟨q, hq1⟩ : ∃ q, q = p / Nat.gcd u.length p := ⟨_, rfl⟩
    rw [← hs1, ← hq1] at HLW HR
    clear hl hp hs1 hq1
    go_enter Try.func28, Try.ntmps28
    go_wp2_with (first | (go_at_call 46; refine HC.out.mono ?_; rintro e W1 ⟨rfl, b1⟩; have HB1 := Lib.hid b1; clear b1) | (go_at_call 44; refine (HLW.out _).mono ?_; rintro e W3 ⟨rfl, b3⟩; have HB3 := Lib.hid (HB1.out.trans (b3.mono HB1.out.size)); clear b3))
    go_ret2
    exact ⟨ret_ii (by rw [HR.out.1]) (by rw [HR.out.2]), HB3.out⟩
set_option maxHeartbeats 2000000 in
theorem spec_ex (v : Value) (u : List Int) (w : World) (h : Lies (Value.int .i64) w v u) (hs : u.length ≤ 4194303) :
    Calls Try.prog 27 #[v] w fun e w' => e = .returned (.tuple #[.int .i64 (exN u : Int), .int .i64 (exD u : Int)]) ∧ Below w.heap.size w w' := by
  obtain ⟨pa, pc, rfl⟩ := lies_shape h
  have HU := Lib.hid h
  clear h
  by_cases h0 : u.length = 0
  · have HR : Hid (exN u = 0 ∧ exD u = 0) := by show _ ∧ _; simp [exN, exD, h0]
    have hd0 : ((u.length : Int) == 0) = true := by rw [h0]; rfl
    have hd1 : (u.length : Int) = 0 := by omega
    go_enter Try.func27, Try.ntmps27
    go_wp2
    go_ret2
    exact ⟨ret_ii (by rw [HR.out.1]; rfl) (by rw [HR.out.2]; rfl), Below.refl _ _⟩
  · have hd0 : ((u.length : Int) == 0) = false := by simp; intro e; rw [e] at h0; simp at h0
    have HR : Hid (exN u = u.length / Nat.gcd u.length (lpN u) ∧ exD u = lpN u / Nat.gcd u.length (lpN u)) := by show _ ∧ _; simp [exN, exD, h0]
    have hl := lpN_eq (u := u) (by omega)
    have hr := lpV_range (u := u) (by omega)
    have HC := Lib.hid (spec_lp _ u w HU.out (by omega))
    rw [← hl] at HC hr
    obtain ⟨p, hp⟩ : ∃ p, p = lpN u := ⟨_, rfl⟩
    rw [← hp] at HC hr HR
    have hgp : 0 < Nat.gcd u.length p := Nat.gcd_pos_of_pos_right _ (by omega)
    have hgl : Nat.gcd u.length p ≤ p := Nat.gcd_le_right _ (by omega)
    have HGC := Lib.hid (fun W => spec_gcd u.length p W (by omega) (by omega))
    obtain ⟨g, hg⟩ : ∃ g, g = Nat.gcd u.length p := ⟨_, rfl⟩
    rw [← hg] at hgp hgl HGC HR
    have hd1 := (div_facts (n := u.length) hgp).1
    have hd2 := (div_facts (n := p) hgp).1
    have hd3 := (div_facts (n := u.length) hgp).2
    have hd4 := (div_facts (n := p) hgp).2
    have hqa : u.length / g ≤ u.length := Nat.div_le_self _ _
    have hqb : p / g ≤ p := Nat.div_le_self _ _
    have hg0 : ((g : Int) == 0) = false := by simp; omega
    obtain ⟨s, hs1⟩ : ∃ s, s = u.length / g := ⟨_, rfl⟩
    obtain ⟨q, hq1⟩ : ∃ q, q = p / g := ⟨_, rfl⟩
    rw [← hs1] at hd1 hd3 hqa HR
    rw [← hq1] at hd2 hd4 hqb HR
    clear hl hp hg hs1 hq1
    go_enter Try.func27, Try.ntmps27
    go_wp2_with (first | (go_at_call 45; refine HC.out.mono ?_; rintro e W1 ⟨rfl, b1⟩; have HB1 := Lib.hid b1; clear b1) | (go_at_call 42; refine (HGC.out _).mono ?_; rintro e W3 ⟨rfl, rfl⟩))
    go_quiet (fail)
    go_wp2
    go_ret2
    exact ⟨ret_ii (by rw [HR.out.1]) (by rw [HR.out.2]), below_drewN HB1.out _⟩
set_option maxHeartbeats 4000000 in
theorem spec_gr (v : Value) (u : List Int) (w : World) (h : Lies (Value.int .i64) w v u) (hs : u.length ≤ 4194304) :
    Calls Try.prog 25 #[v] w fun e w' => e = .returned (.tuple #[.int .i64 (gN u : Int), .int .i64 (gD u : Int)]) ∧ Below w.heap.size w w' := by
  obtain ⟨pa, pc, rfl⟩ := lies_shape h
  have HU := Lib.hid h
  clear h
  by_cases hL : u.length ≤ 128
  · have hLd := decide_eq_true (show (u.length : Int) ≤ 128 by omega)
    go_enter Try.func25, Try.ntmps25
    go_wp2
    go_loopw [4, 5, 6] (fun n' d' a' wr => ∃ n d a : Nat, a ≤ u.length ∧ n ≤ u.length ∧ d ≤ u.length ∧ n' = .int .i64 n ∧ d' = .int .i64 d ∧ a' = .int .i64 a ∧ Hid (Best u a 0 n d) ∧ Hid (Below w.heap.size w wr)) (fun _ _ a' _ => u.length - (intOf a').toNat)
    case atStart => exact ⟨0, 0, 0, Nat.zero_le _, Nat.zero_le _, Nat.zero_le _, rfl, rfl, rfl, best_start u, Below.refl _ _⟩
    case round =>
      obtain ⟨n, d, a, hal, hnl, hdl, rfl, rfl, rfl, HN, HBr⟩ := hrel
      obtain ⟨W6, hW6⟩ : ∃ W : World, W = wr := ⟨_, rfl⟩
      rw [← hW6] at HBr ⊢
      clear hW6
      by_cases hlt : a < u.length
      · go_wp2
        go_loopw [4, 5, 7] (fun n' d' p' wr => ∃ n d P : Nat, 0 < P ∧ a + (P - 1) ≤ u.length ∧ n ≤ u.length ∧ d ≤ u.length ∧ n' = .int .i64 n ∧ d' = .int .i64 d ∧ p' = .int .i64 P ∧ Hid (Best u a (P - 1) n d) ∧ Hid (Below w.heap.size w wr)) (fun _ _ p' _ => u.length + 1 - (intOf p').toNat)
        case atStart => exact ⟨n, d, 1, by omega, by omega, hnl, hdl, rfl, rfl, rfl, HN, HBr⟩
        case round =>
          obtain ⟨n, d, P, hP, haP, hnl, hdl, rfl, rfl, rfl, HI, HBs⟩ := hrel
          by_cases hin : a + P ≤ u.length
          · have hcn : (a : Int) + (P : Int) ≤ (u.length : Int) := by omega
            have HM := Lib.hid (spec_ml _ u a P wr (HU.out.below HBs.out) (by omega) hP (by omega))
            have hml := mlen_le (u := u) (a := a) (p := P) (by omega)
            have hmu : ∃ m, m = mlen u a P := ⟨_, rfl⟩
            have hP1 : P - 1 + 1 = P := by omega
            have HTK := Lib.hid (fun hc => best_take (u := u) (a := a) (k := P - 1) (n := n) (p := d) HI.out (by omega) hc)
            have HKP := Lib.hid (fun h1 hc => best_keep (u := u) (a := a) (k := P - 1) (n := n) (p := d) HI.out h1 hc)
            rw [hP1] at HTK HKP
            obtain ⟨m, hm⟩ := hmu
            rw [← hm] at HM hml HTK HKP
            clear hm hP1
            obtain ⟨f1, f2⟩ := mul_fits (m := m) (d := d) (by omega) (by omega)
            obtain ⟨f3, f4⟩ := mul_fits (m := n) (d := P) (by omega) (by omega)
            have hcast1 : ((m * d : Nat) : Int) = (m : Int) * (d : Int) := by simp
            have hcast2 : ((n * P : Nat) : Int) = (n : Int) * (P : Int) := by simp
            by_cases hc : d = 0 ∨ m * d > n * P
            · have HB' := Lib.hid (HTK.out hc)
              by_cases hd : d = 0
              · subst hd
                clear HTK HKP hc hcast1 hcast2 f1 f2 f3 f4
                go_wp2_with fail
                refine HM.out.mono ?_
                rintro e W1 ⟨rfl, b1⟩
                have HB1 := Lib.hid (HBs.out.trans (b1.mono HBs.out.size))
                clear b1 HM
                go_wp2
                go_roundw
                case rel => exact ⟨m, P, P + 1, by omega, by omega, by omega, by omega, rfl, rfl, by go_num, by rw [Nat.add_sub_cancel]; exact HB', HB1⟩
                case measure => simp [intOf]; omega
              · have hd0 : ((d : Int) == 0) = false := by simp; omega
                have hgt := decide_eq_true (show (m : Int) * (d : Int) > (n : Int) * (P : Int) by omega)
                clear HTK HKP hc hcast1 hcast2
                go_wp2_with fail
                refine HM.out.mono ?_
                rintro e W1 ⟨rfl, b1⟩
                have HB1 := Lib.hid (HBs.out.trans (b1.mono HBs.out.size))
                clear b1 HM
                go_wp2
                go_roundw
                case rel => exact ⟨m, P, P + 1, by omega, by omega, by omega, by omega, rfl, rfl, by go_num, by rw [Nat.add_sub_cancel]; exact HB', HB1⟩
                case measure => simp [intOf]; omega
            · have hd : ¬ d = 0 := fun h => hc (.inl h)
              have hd0 : ((d : Int) == 0) = false := by simp; omega
              have hle : m * d ≤ n * P := by omega
              have HB' := Lib.hid (HKP.out (by omega) hle)
              have hgt := decide_eq_false (show ¬ (m : Int) * (d : Int) > (n : Int) * (P : Int) by omega)
              clear HTK HKP hc hcast1 hcast2 hle
              go_wp2_with fail
              refine HM.out.mono ?_
              rintro e W1 ⟨rfl, b1⟩
              have HB1 := Lib.hid (HBs.out.trans (b1.mono HBs.out.size))
              clear b1 HM
              go_wp2
              go_roundw
              case rel => exact ⟨n, d, P + 1, by omega, by omega, hnl, hdl, rfl, rfl, by go_num, by rw [Nat.add_sub_cancel]; exact HB', HB1⟩
              case measure => simp [intOf]; omega
          · have hcn : ¬ (a : Int) + (P : Int) ≤ (u.length : Int) := by omega
            have HR := Lib.hid (best_next HI.out hlt (by omega))
            go_wp2
            go_roundw
            case rel => exact ⟨n, d, a + 1, by omega, hnl, hdl, rfl, rfl, by go_num, HR, HBs⟩
            case measure => simp [intOf]; omega
      · obtain rfl : a = u.length := by omega
        by_cases hd : d = 0
        · subst hd
          have HR := Lib.hid (g_nil (u := u) (HN.out.1 rfl).2.1)
          go_wp2
          go_ret2
          exact ⟨ret_ii (by rw [HR.out.1]; rfl) (by rw [HR.out.2]; rfl), HBr.out⟩
        · have hd0 : ((d : Int) == 0) = false := by simp; omega
          have HR := Lib.hid (g_great hL (best_end HN.out (by omega)))
          have hgp : 0 < Nat.gcd n d := Nat.gcd_pos_of_pos_right _ (by omega)
          have hgl : Nat.gcd n d ≤ d := Nat.gcd_le_right _ (by omega)
          have HGC := Lib.hid (fun W => spec_gcd n d W (by omega) (by omega))
          obtain ⟨g, hg⟩ : ∃ g, g = Nat.gcd n d := ⟨_, rfl⟩
          rw [← hg] at hgp hgl HGC HR
          have hd1 := (div_facts (n := n) hgp).1
          have hd2 := (div_facts (n := d) hgp).1
          have hd3 := (div_facts (n := n) hgp).2
          have hd4 := (div_facts (n := d) hgp).2
          have hqa : n / g ≤ n := Nat.div_le_self _ _
          have hqb : d / g ≤ d := Nat.div_le_self _ _
          have hg0 : ((g : Int) == 0) = false := by simp; omega
          obtain ⟨s, hs1⟩ : ∃ s, s = n / g := ⟨_, rfl⟩
          obtain ⟨q, hq1⟩ : ∃ q, q = d / g := ⟨_, rfl⟩
          rw [← hs1] at hd1 hd3 hqa HR
          rw [← hq1] at hd2 hd4 hqb HR
          clear hg hs1 hq1
          go_wp2_with (go_at_call 42; refine (HGC.out _).mono ?_; rintro e W3 ⟨rfl, rfl⟩)
          go_quiet (fail)
          go_wp2
          go_ret2
          exact ⟨ret_ii (by rw [HR.out.1]) (by rw [HR.out.2]), below_drewN HBr.out _⟩
  · have HR := Lib.hid (g_out hL)
    go_enter Try.func25, Try.ntmps25
    go_wp2
    go_loopw [4, 5, 6] (fun n' d' a' wr => n' = .int .i64 0 ∧ d' = .int .i64 0 ∧ a' = .int .i64 0 ∧ wr = w) (fun _ _ a' _ => 0)
    case atStart => exact ⟨rfl, rfl, rfl, rfl⟩
    case round =>
      obtain ⟨rfl, rfl, rfl, rfl⟩ := hrel
      have h0 : 0 < u.length := by omega
      go_wp2
      go_ret2
      exact ⟨ret_ii (by rw [HR.out.1]; rfl) (by rw [HR.out.2]; rfl), Below.refl _ _⟩
theorem eq_dr {u v : Value} {xs ys : List Int} {w : World} {n : Nat} {c : Bool} (h1 : Lies (Value.int .i64) w u xs) (h2 : Lies (Value.int .i64) w v ys) (hc : decide (xs = ys) = c) :
    Calls Try.prog 35 #[u, v] (w.drewN n) fun e w' => e = .returned (.bool c) ∧ ∃ m, w' = w.drewN m :=
  (equal_ints u v xs ys (w.drewN n) (h1.below (below_drewN (Below.refl _ _) n)) (h2.below (below_drewN (Below.refl _ _) n))).mono fun _ _ ⟨h, m, hm⟩ => ⟨by rw [h, hc], n + m, by rw [hm, World.drewN_drewN]⟩
set_option maxRecDepth 100000 in
set_option maxHeartbeats 4000000 in
theorem impl_sq (v : Value) (u : List Int) (w : World) (h : LiesC w v u) :
    Calls Try.prog 13 #[v] w (GivesT 35 3 (sqL (sqV u)) w) := by
  obtain ⟨i0, hi, hz0, hz1, hz2⟩ := info_parts infoP
  obtain ⟨pa, pc, rfl, hcap⟩ := h.form
  have hsm := h.1.1
  have HU := Lib.hid h
  clear h
  by_cases h64 : u.length ≤ 64
  · rw [sqV_in h64]
    have hgt := decide_eq_false (show ¬ (u.length : Int) > 64 by omega)
    go_enter Try.func13, Try.ntmps13
    go_wp2
    go_loopw [3, 12] (fun o' a' wr => ∃ (a : Nat) (vo : Value), a ≤ u.length ∧ a' = .int .i64 a ∧ vo = o' ∧ Hid (OwnT 35 3 wr w.heap.size vo (sqL (sqU u a))) ∧ Hid (Below w.heap.size w wr)) (fun _ a' _ => u.length - (intOf a').toNat)
    case atStart => exact ⟨0, _, Nat.zero_le _, rfl, rfl, OwnT.nil _ _, Below.refl _ _⟩
    case round =>
      obtain ⟨a, vo, hal, rfl, rfl, HOr, HBr⟩ := hrel
      obtain ⟨W6, hW6⟩ : ∃ W : World, W = wr := ⟨_, rfl⟩
      rw [← hW6] at HOr HBr ⊢
      clear hW6
      by_cases hlt : a < u.length
      · go_wp2
        go_loopw [3, 5] (fun o' p' wr => ∃ (P : Nat) (vo : Value), 0 < P ∧ a + 2 * (P - 1) ≤ u.length ∧ p' = .int .i64 P ∧ vo = o' ∧ Hid (OwnT 35 3 wr w.heap.size vo (sqL (sqU u a ++ sqI u a (P - 1)))) ∧ Hid (Below w.heap.size w wr)) (fun _ p' _ => u.length - (intOf p').toNat)
        case atStart => exact ⟨1, _, by omega, by omega, rfl, rfl, by show OwnT _ _ _ _ _ _; rw [show sqI u a (1 - 1) = [] from rfl, List.append_nil]; exact HOr, HBr⟩
        case round =>
          obtain ⟨P, vo, hP, haP, rfl, rfl, HOs, HBs⟩ := hrel
          by_cases hin : a + 2 * P ≤ u.length
          · have hcn : (a : Int) + 2 * (P : Int) ≤ (u.length : Int) := by omega
            obtain ⟨a1, c1, hsl1, hl1⟩ := (HU.out.below HBs.out).slice (l := a) (h := a + P) (L := (a : Int)) (H := (a : Int) + (P : Int)) (by omega) (by omega) rfl (by omega)
            obtain ⟨a2, c2, hsl2, hl2⟩ := (HU.out.below HBs.out).slice (l := a + P) (h := a + P + P) (L := (a : Int) + (P : Int)) (H := (a : Int) + (P : Int) + (P : Int)) (by omega) (by omega) (by omega) (by omega)
            rw [show a + P - a = P from by omega] at hsl1 hl1
            rw [show a + P + P - (a + P) = P from by omega] at hsl2 hl2
            have HEQ := Lib.hid (fun n => eq_dr (n := n) (c := sqAt u a P) hl1.lies hl2.lies rfl)
            obtain ⟨oa, oc, hvo, _⟩ := HOs.out.form
            have HL := Lib.hid (sq_len h64 hlt (k := P - 1) (by omega))
            subst hvo
            have hw : IntKind.i64.wrap ((a : Int) + (P : Int) + (P : Int)) = (a : Int) + (P : Int) + (P : Int) := by rw [IntKind.wrap_i64]; omega
            clear hl1 hl2
            cases hq : sqAt u a P with
            | true =>
              rw [hq] at HEQ
              have HN : Hid (sqL (sqU u a ++ sqI u a (P - 1)) ++ [[(a : Int), (P : Int), 2 * (P : Int)]] = sqL (sqU u a ++ sqI u a (P + 1 - 1))) := by
                show _ = _
                obtain ⟨k, rfl⟩ : ∃ k, P = k + 1 := ⟨P - 1, by omega⟩
                rw [Nat.add_sub_cancel, Nat.add_sub_cancel, sqI_yes hq, ← List.append_assoc, sqL_append _ [_]]
                rfl
              clear hq
              go_wp2_with fail
              go_quiet ((go_at_call 35; exact HEQ.out _))
              go_wp2_with (refine append_t (e := 35) (k := 3) rfl _ _ 23 rfl i0 _ 24 Try.underlying23 hi hz0 hz1 hz2 rfl (by omega) _ rfl (HOs.out.below (below_drewN (Below.refl wr.heap.size wr) _)) [(a : Int), (P : Int), 2 * (P : Int)] rfl _ rfl rfl _ rfl (by have := HL.out; omega) (by omega) (below_drewN HBs.out _).size ?_; intro v2 w2 ho hg; have HO2 := Lib.hid ho; have HB2 := Lib.hid ((HOs.out.below (below_drewN (Below.refl wr.heap.size wr) _)).frame (below_drewN HBs.out _) (Nat.le_refl _) hg); clear ho hg)
              go_roundw
              case rel => exact ⟨P + 1, _, by omega, by omega, by go_num, rfl, by rw [← HN.out]; exact HO2, HB2⟩
              case measure => simp [intOf]; omega
            | false =>
              rw [hq] at HEQ
              have HN : Hid (sqL (sqU u a ++ sqI u a (P - 1)) = sqL (sqU u a ++ sqI u a (P + 1 - 1))) := by
                show _ = _
                obtain ⟨k, rfl⟩ : ∃ k, P = k + 1 := ⟨P - 1, by omega⟩
                rw [Nat.add_sub_cancel, Nat.add_sub_cancel, sqI_no hq]
              clear hq
              go_wp2_with fail
              go_quiet ((go_at_call 35; exact HEQ.out _))
              go_wp2
              go_roundw
              case rel => exact ⟨P + 1, _, by omega, by omega, by go_num, rfl, by rw [← HN.out]; exact HOs.out.below (below_drewN (Below.refl wr.heap.size wr) _), below_drewN HBs.out _⟩
              case measure => simp [intOf]; omega
          · have hcn : ¬ (a : Int) + 2 * (P : Int) ≤ (u.length : Int) := by omega
            have HE : Hid (sqU u a ++ sqI u a (P - 1) = sqU u (a + 1)) := by
              show _ = sqU u a ++ sqI u a ((u.length - a) / 2)
              rw [show (u.length - a) / 2 = P - 1 from by omega]
            go_wp2
            go_roundw
            case rel => exact ⟨a + 1, _, by omega, by go_num, rfl, by rw [← HE.out]; exact HOs, HBs⟩
            case measure => simp [intOf]; omega
      · obtain rfl : a = u.length := by omega
        go_wp2
        go_ret
        exact GivesT.of HOr.out HBr.out
  · rw [sqV_out h64]
    have hgt := decide_eq_true (show (u.length : Int) > 64 by omega)
    go_enter Try.func13, Try.ntmps13
    go_wp2
    go_ret
    exact GivesT.of (OwnT.nil _ _) (Below.refl _ _)
end Fac
end Go.Proofs.Ytojmlhcgghaceaa
