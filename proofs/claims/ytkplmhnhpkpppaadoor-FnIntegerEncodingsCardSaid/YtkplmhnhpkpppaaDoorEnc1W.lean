/- The walk of the law on the integer and byte encodings: it returns true for every code of bytes. It asks that the library's table of powers of ten hold its numbers. -/
import Derived.Test.YtkplmhnhpkpppaaDoorRows
import Derived.WalkKit
import Derived.ProofKit
import Derived.OpenShut
import Derived.ShutString
import Derived.PlainAid
import Derived.Lib.Hide
import Derived.Test.YtkplmhnhpkpppaaDoorPlain
import Derived.Test.YtkplmhnhpkpppaaDoorKit
import Derived.Test.YtkplmhnhpkpppaaDoorEnc1Val
import Derived.Test.YtkplmhnhpkpppaaDoorDraw1b
import Derived.Test.YtkplmhnhpkpppaaDoorVarintDec
import Derived.Test.YtkplmhnhpkpppaaDoorFixedEnc
import Derived.Test.YtkplmhnhpkpppaaDoorFixedDec
import Derived.Test.YtkplmhnhpkpppaaDoorHexDec
import Derived.Test.YtkplmhnhpkpppaaDoorParseImpl
namespace Go.Proofs.YtkplmhnhpkpppaaDoor
open Go.ChangeShapes Go.WideShapes Go.ChangeAt Go.RowKit
open Go.ChangeMaps (open_string shut_string)
open Go.PlainAid Plain
set_option linter.unusedVariables false
namespace Enc1
set_option maxRecDepth 100000 in
set_option maxHeartbeats 4000000 in
theorem walk (w : World) (a : Option Addr) (len cap : Nat) (hlen : len ≤ 1048576) (hcode : Cursor.CodeIs w w.heap.size a len) (htab : ∀ w', Below w.heap.size w w' → Lib.TabIs Tryd.prog w' "internal/strconv.uint64pow10" .u64 Lib.pow10Tab) :
    Calls Tryd.prog 3 #[.slice a len cap] w fun e w' => e = .returned (.bool true) ∧ Below w.heap.size w w' := by
  have HT := Lib.hid htab
  have HC := Lib.hid hcode
  clear htab hcode
  go_enter Tryd.func3, Tryd.ntmps3
  go_wp2_with fail
  refine (Cursor.big_no w a len cap hlen).mono ?_
  rintro e w0 ⟨rfl, rfl⟩
  go_wp2_with fail
  refine (Cursor.drawNum w w a len cap hlen HC.out (Below.refl _ _)).mono ?_
  rintro e w1 ⟨n, hn, rfl, hb1⟩
  have HN := Lib.hid hn
  clear hn
  go_wp2_with fail
  refine (Cursor.drawText w w1 a len cap hlen HC.out hb1).mono ?_
  rintro e w2 ⟨tail, htail, rfl, hb2⟩
  clear hb1
  go_wp2_with fail
  have HH := Lib.hid (hex_round tail)
  by_cases hra : n < 0
  · refine (VarintEnc.impl_no n w2 (.inl hra)).mono ?_
    rintro e w3 ⟨rfl, rfl⟩
    go_wp2_with fail
    have hbA := hb2
    clear hb2
    refine (VarintDec.impl_any _ _ (by rw [ByteArray.size_append']; unfold maxLen; show 0 + tail.size ≤ _; omega)).mono ?_
    generalize (scan (⟨#[]⟩ ++ tail) 7 0).1 = x
    generalize (scan (⟨#[]⟩ ++ tail) 7 0).2 = y
    rintro e w4 ⟨rfl, rfl⟩
    go_wp2_with fail
    refine (Cursor.drawPair w _ a len cap hlen HC.out hbA).mono ?_
    rintro e w5 ⟨q, m, ⟨hq, hm0, hm1⟩, rfl, hbB⟩
    have HQ := Lib.hid hq
    have HSZ : Hid ((itoaS q).size ≤ maxLen) := by
      have := itoaS_size q hq.1 hq.2
      show _ ≤ maxLen
      unfold maxLen
      omega
    clear hq hbA
    go_wp2_with fail
    by_cases hout : (m < 1 ∨ 7 < m) ∨ q < 0
    · refine (FixedEnc.impl_out q m w5 hout).mono ?_
      rintro e w6 ⟨rfl, rfl⟩
      go_wp2_with fail
      refine (FixedDec.impl_any _ m w5 (by rw [ByteArray.size_append']; unfold maxLen; show 0 + tail.size ≤ _; omega)).mono ?_
      generalize FixedDec.dfV (⟨#[]⟩ ++ tail) m = x1
      generalize FixedDec.dfB (⟨#[]⟩ ++ tail) m = x2
      rintro e w7 ⟨rfl, rfl⟩
      go_wp2_with fail
      refine (FixedEnc.spec_out q m w5 hout).mono ?_
      rintro e w8 ⟨rfl, rfl⟩
      have hbC := hbB
      clear hbB hout
      go_wp2_with fail
      refine (HexEnc.impl_any tail _ (by omega)).mono ?_
      rintro e w10 ⟨rfl, hb10⟩
      have hbD := hbC.trans (hb10.mono hbC.size)
      clear hbC hb10
      go_wp2_with fail
      refine (HexDec.impl_any _ w10 (by rw [HH.out.1]; omega)).mono ?_
      rw [HH.out.2.1, HH.out.2.2]
      rintro e w11 ⟨rfl, hb11⟩
      have hbE := hbD.trans (hb11.mono hbD.size)
      clear hbD hb11
      go_wp2_with fail
      refine (IntFmt.impl_any q w11 HQ.out.1 HQ.out.2 (HT.out _ hbE)).mono ?_
      rintro e w12 ⟨rfl, hb12⟩
      have hbF := hbE.trans (hb12.mono hbE.size)
      clear hbE hb12
      go_wp2_with fail
      refine (Parse.impl_any _ w12 HSZ.out (fun w' h => HT.out w' (hbF.trans (h.mono hbF.size)))).mono ?_
      have hhs := HH.out.1
      by_cases hq9 : -999999999 ≤ q ∧ q ≤ 999999999
      · have HP := Lib.hid (parse_yes q hq9.1 hq9.2)
        have HRV := Lib.hid (Parse.res_yes HP.out.1)
        rw [HRV.out.1, HRV.out.2, HP.out.2]
        have hq91 : -1000000000 < q := by omega
        have hq92 : q < 1000000000 := by omega
        clear hq9
        rintro e w13 ⟨rfl, hb13⟩
        have hbG := hbF.trans (hb13.mono hbF.size)
        clear hbF hb13
        go_wp2_with fail
        refine (IntFmt.spec_any q w13 HQ.out.1 HQ.out.2).mono ?_
        rintro e w14 ⟨rfl, hb14⟩
        have hbH := hbG.trans (hb14.mono hbG.size)
        clear hbG hb14
        go_wp2
        go_ret
        exact ⟨rfl, hbH⟩
      · have HP := Lib.hid (parse_no q (by omega))
        have HRV := Lib.hid (Parse.res_no HP.out)
        rw [HRV.out.1, HRV.out.2]
        have hq3 : q ≤ -1000000000 ∨ 1000000000 ≤ q := by omega
        clear hq9
        rintro e w13 ⟨rfl, hb13⟩
        have hbG := hbF.trans (hb13.mono hbF.size)
        clear hbF hb13
        go_wp2_with fail
        refine (IntFmt.spec_any q w13 HQ.out.1 HQ.out.2).mono ?_
        rintro e w14 ⟨rfl, hb14⟩
        have hbH := hbG.trans (hb14.mono hbG.size)
        clear hbG hb14
        rcases hq3 with hq91 | hq91
        · have hd : decide (-1000000000 < q) = false := decide_eq_false (by omega)
          go_wp2
          go_ret
          exact ⟨rfl, hbH⟩
        · have hd : decide (-1000000000 < q) = true := decide_eq_true (by omega)
          have hd2 : decide (q < 1000000000) = false := decide_eq_false (by omega)
          go_wp2
          go_ret
          exact ⟨by simp, hbH⟩
    · obtain ⟨k, rfl⟩ : ∃ k : Nat, m = k := ⟨m.toNat, by omega⟩
      have hk1 : 1 ≤ k := by omega
      have hk7 : k ≤ 7 := by omega
      have hq0 : 0 ≤ q := by omega
      clear hout
      have H1 := Lib.hid HQ.out.2
      by_cases hfit : 0 < dn k q
      · refine (FixedEnc.impl_over q k w5 hq0 H1.out hk1 hk7 hfit).mono ?_
        rw [fixedStr_no hfit]
        rintro e w6 ⟨rfl, rfl⟩
        go_wp2_with fail
        refine (FixedDec.impl_any _ _ w5 (by rw [ByteArray.size_append']; unfold maxLen; show 0 + tail.size ≤ _; omega)).mono ?_
        generalize FixedDec.dfV (⟨#[]⟩ ++ tail) _ = x1
        generalize FixedDec.dfB (⟨#[]⟩ ++ tail) _ = x2
        rintro e w7 ⟨rfl, rfl⟩
        go_wp2_with fail
        refine (FixedEnc.spec_in q k w5 hq0 H1.out hk1 hk7).mono ?_
        rw [fixedStr_no hfit]
        rintro e w8 ⟨rfl, hb8⟩
        have hbC := hbB.trans (hb8.mono hbB.size)
        clear hbB hb8 hfit
        go_wp2_with fail
        refine (HexEnc.impl_any tail _ (by omega)).mono ?_
        rintro e w10 ⟨rfl, hb10⟩
        have hbD := hbC.trans (hb10.mono hbC.size)
        clear hbC hb10
        go_wp2_with fail
        refine (HexDec.impl_any _ w10 (by rw [HH.out.1]; omega)).mono ?_
        rw [HH.out.2.1, HH.out.2.2]
        rintro e w11 ⟨rfl, hb11⟩
        have hbE := hbD.trans (hb11.mono hbD.size)
        clear hbD hb11
        go_wp2_with fail
        refine (IntFmt.impl_any q w11 HQ.out.1 HQ.out.2 (HT.out _ hbE)).mono ?_
        rintro e w12 ⟨rfl, hb12⟩
        have hbF := hbE.trans (hb12.mono hbE.size)
        clear hbE hb12
        go_wp2_with fail
        refine (Parse.impl_any _ w12 HSZ.out (fun w' h => HT.out w' (hbF.trans (h.mono hbF.size)))).mono ?_
        have hhs := HH.out.1
        by_cases hq9 : -999999999 ≤ q ∧ q ≤ 999999999
        · have HP := Lib.hid (parse_yes q hq9.1 hq9.2)
          have HRV := Lib.hid (Parse.res_yes HP.out.1)
          rw [HRV.out.1, HRV.out.2, HP.out.2]
          have hq91 : -1000000000 < q := by omega
          have hq92 : q < 1000000000 := by omega
          clear hq9
          rintro e w13 ⟨rfl, hb13⟩
          have hbG := hbF.trans (hb13.mono hbF.size)
          clear hbF hb13
          go_wp2_with fail
          refine (IntFmt.spec_any q w13 HQ.out.1 HQ.out.2).mono ?_
          rintro e w14 ⟨rfl, hb14⟩
          have hbH := hbG.trans (hb14.mono hbG.size)
          clear hbG hb14
          go_wp2
          go_ret
          exact ⟨rfl, hbH⟩
        · have HP := Lib.hid (parse_no q (by omega))
          have HRV := Lib.hid (Parse.res_no HP.out)
          rw [HRV.out.1, HRV.out.2]
          have hq3 : q ≤ -1000000000 ∨ 1000000000 ≤ q := by omega
          clear hq9
          rintro e w13 ⟨rfl, hb13⟩
          have hbG := hbF.trans (hb13.mono hbF.size)
          clear hbF hb13
          go_wp2_with fail
          refine (IntFmt.spec_any q w13 HQ.out.1 HQ.out.2).mono ?_
          rintro e w14 ⟨rfl, hb14⟩
          have hbH := hbG.trans (hb14.mono hbG.size)
          clear hbG hb14
          rcases hq3 with hq91 | hq91
          · have hd : decide (-1000000000 < q) = false := decide_eq_false (by omega)
            go_wp2
            go_ret
            exact ⟨rfl, hbH⟩
          · have hd : decide (-1000000000 < q) = true := decide_eq_true (by omega)
            have hd2 : decide (q < 1000000000) = false := decide_eq_false (by omega)
            go_wp2
            go_ret
            exact ⟨by simp, hbH⟩
      · have hfz := fixedStr_size k q hfit
        have hfn := not_empty (s := fixedStr k q) (by rw [hfz]; exact hk1)
        obtain ⟨hfn1, hfn2⟩ := hfn
        have HR : Hid (FixedDec.dfV (fixedStr k q ++ tail) (k : Int) = q ∧ FixedDec.dfB (fixedStr k q ++ tail) (k : Int) = true) := by
          have e1 : FixedDec.dfB (fixedStr k q ++ tail) (k : Int) = true := decide_eq_true ⟨by omega, by omega, by rw [ByteArray.size_append', hfz]; omega⟩
          refine ⟨?_, e1⟩
          unfold FixedDec.dfV
          rw [if_pos e1, fixedStr_yes hfit, Int.toNat_natCast]
          exact fixed_round q k tail hfit hq0
        refine (FixedEnc.impl_in q k w5 hq0 H1.out hk1 hk7 hfit).mono ?_
        rintro e w6 ⟨rfl, hb6⟩
        have hb6' := hbB.trans (hb6.mono hbB.size)
        clear hbB hb6 hfit
        go_wp2_with fail
        refine (FixedDec.impl_any _ _ w6 (by rw [ByteArray.size_append', hfz]; unfold maxLen; omega)).mono ?_
        rw [HR.out.1, HR.out.2]
        rintro e w7 ⟨rfl, rfl⟩
        go_wp2_with fail
        refine (FixedEnc.spec_in q k w6 hq0 H1.out hk1 hk7).mono ?_
        rintro e w8 ⟨rfl, hb8⟩
        have hbC := hb6'.trans (hb8.mono hb6'.size)
        clear hb6' hb8
        go_wp2_with fail
        clear hfz hfn1 hfn2
        refine (HexEnc.impl_any tail _ (by omega)).mono ?_
        rintro e w10 ⟨rfl, hb10⟩
        have hbD := hbC.trans (hb10.mono hbC.size)
        clear hbC hb10
        go_wp2_with fail
        refine (HexDec.impl_any _ w10 (by rw [HH.out.1]; omega)).mono ?_
        rw [HH.out.2.1, HH.out.2.2]
        rintro e w11 ⟨rfl, hb11⟩
        have hbE := hbD.trans (hb11.mono hbD.size)
        clear hbD hb11
        go_wp2_with fail
        refine (IntFmt.impl_any q w11 HQ.out.1 HQ.out.2 (HT.out _ hbE)).mono ?_
        rintro e w12 ⟨rfl, hb12⟩
        have hbF := hbE.trans (hb12.mono hbE.size)
        clear hbE hb12
        go_wp2_with fail
        refine (Parse.impl_any _ w12 HSZ.out (fun w' h => HT.out w' (hbF.trans (h.mono hbF.size)))).mono ?_
        have hhs := HH.out.1
        by_cases hq9 : -999999999 ≤ q ∧ q ≤ 999999999
        · have HP := Lib.hid (parse_yes q hq9.1 hq9.2)
          have HRV := Lib.hid (Parse.res_yes HP.out.1)
          rw [HRV.out.1, HRV.out.2, HP.out.2]
          have hq91 : -1000000000 < q := by omega
          have hq92 : q < 1000000000 := by omega
          clear hq9
          rintro e w13 ⟨rfl, hb13⟩
          have hbG := hbF.trans (hb13.mono hbF.size)
          clear hbF hb13
          go_wp2_with fail
          refine (IntFmt.spec_any q w13 HQ.out.1 HQ.out.2).mono ?_
          rintro e w14 ⟨rfl, hb14⟩
          have hbH := hbG.trans (hb14.mono hbG.size)
          clear hbG hb14
          go_wp2
          go_ret
          exact ⟨rfl, hbH⟩
        · have HP := Lib.hid (parse_no q (by omega))
          have HRV := Lib.hid (Parse.res_no HP.out)
          rw [HRV.out.1, HRV.out.2]
          have hq3 : q ≤ -1000000000 ∨ 1000000000 ≤ q := by omega
          clear hq9
          rintro e w13 ⟨rfl, hb13⟩
          have hbG := hbF.trans (hb13.mono hbF.size)
          clear hbF hb13
          go_wp2_with fail
          refine (IntFmt.spec_any q w13 HQ.out.1 HQ.out.2).mono ?_
          rintro e w14 ⟨rfl, hb14⟩
          have hbH := hbG.trans (hb14.mono hbG.size)
          clear hbG hb14
          rcases hq3 with hq91 | hq91
          · have hd : decide (-1000000000 < q) = false := decide_eq_false (by omega)
            go_wp2
            go_ret
            exact ⟨rfl, hbH⟩
          · have hd : decide (-1000000000 < q) = true := decide_eq_true (by omega)
            have hd2 : decide (q < 1000000000) = false := decide_eq_false (by omega)
            go_wp2
            go_ret
            exact ⟨by simp, hbH⟩
  · by_cases hrb : 562949953421311 < n
    · refine (VarintEnc.impl_no n w2 (.inr hrb)).mono ?_
      rintro e w3 ⟨rfl, rfl⟩
      go_wp2_with fail
      have hbA := hb2
      clear hb2
      refine (VarintDec.impl_any _ _ (by rw [ByteArray.size_append']; unfold maxLen; show 0 + tail.size ≤ _; omega)).mono ?_
      generalize (scan (⟨#[]⟩ ++ tail) 7 0).1 = x
      generalize (scan (⟨#[]⟩ ++ tail) 7 0).2 = y
      rintro e w4 ⟨rfl, rfl⟩
      go_wp2_with fail
      refine (Cursor.drawPair w _ a len cap hlen HC.out hbA).mono ?_
      rintro e w5 ⟨q, m, ⟨hq, hm0, hm1⟩, rfl, hbB⟩
      have HQ := Lib.hid hq
      have HSZ : Hid ((itoaS q).size ≤ maxLen) := by
        have := itoaS_size q hq.1 hq.2
        show _ ≤ maxLen
        unfold maxLen
        omega
      clear hq hbA
      go_wp2_with fail
      by_cases hout : (m < 1 ∨ 7 < m) ∨ q < 0
      · refine (FixedEnc.impl_out q m w5 hout).mono ?_
        rintro e w6 ⟨rfl, rfl⟩
        go_wp2_with fail
        refine (FixedDec.impl_any _ m w5 (by rw [ByteArray.size_append']; unfold maxLen; show 0 + tail.size ≤ _; omega)).mono ?_
        generalize FixedDec.dfV (⟨#[]⟩ ++ tail) m = x1
        generalize FixedDec.dfB (⟨#[]⟩ ++ tail) m = x2
        rintro e w7 ⟨rfl, rfl⟩
        go_wp2_with fail
        refine (FixedEnc.spec_out q m w5 hout).mono ?_
        rintro e w8 ⟨rfl, rfl⟩
        have hbC := hbB
        clear hbB hout
        go_wp2_with fail
        refine (HexEnc.impl_any tail _ (by omega)).mono ?_
        rintro e w10 ⟨rfl, hb10⟩
        have hbD := hbC.trans (hb10.mono hbC.size)
        clear hbC hb10
        go_wp2_with fail
        refine (HexDec.impl_any _ w10 (by rw [HH.out.1]; omega)).mono ?_
        rw [HH.out.2.1, HH.out.2.2]
        rintro e w11 ⟨rfl, hb11⟩
        have hbE := hbD.trans (hb11.mono hbD.size)
        clear hbD hb11
        go_wp2_with fail
        refine (IntFmt.impl_any q w11 HQ.out.1 HQ.out.2 (HT.out _ hbE)).mono ?_
        rintro e w12 ⟨rfl, hb12⟩
        have hbF := hbE.trans (hb12.mono hbE.size)
        clear hbE hb12
        go_wp2_with fail
        refine (Parse.impl_any _ w12 HSZ.out (fun w' h => HT.out w' (hbF.trans (h.mono hbF.size)))).mono ?_
        have hhs := HH.out.1
        by_cases hq9 : -999999999 ≤ q ∧ q ≤ 999999999
        · have HP := Lib.hid (parse_yes q hq9.1 hq9.2)
          have HRV := Lib.hid (Parse.res_yes HP.out.1)
          rw [HRV.out.1, HRV.out.2, HP.out.2]
          have hq91 : -1000000000 < q := by omega
          have hq92 : q < 1000000000 := by omega
          clear hq9
          rintro e w13 ⟨rfl, hb13⟩
          have hbG := hbF.trans (hb13.mono hbF.size)
          clear hbF hb13
          go_wp2_with fail
          refine (IntFmt.spec_any q w13 HQ.out.1 HQ.out.2).mono ?_
          rintro e w14 ⟨rfl, hb14⟩
          have hbH := hbG.trans (hb14.mono hbG.size)
          clear hbG hb14
          go_wp2
          go_ret
          exact ⟨rfl, hbH⟩
        · have HP := Lib.hid (parse_no q (by omega))
          have HRV := Lib.hid (Parse.res_no HP.out)
          rw [HRV.out.1, HRV.out.2]
          have hq3 : q ≤ -1000000000 ∨ 1000000000 ≤ q := by omega
          clear hq9
          rintro e w13 ⟨rfl, hb13⟩
          have hbG := hbF.trans (hb13.mono hbF.size)
          clear hbF hb13
          go_wp2_with fail
          refine (IntFmt.spec_any q w13 HQ.out.1 HQ.out.2).mono ?_
          rintro e w14 ⟨rfl, hb14⟩
          have hbH := hbG.trans (hb14.mono hbG.size)
          clear hbG hb14
          rcases hq3 with hq91 | hq91
          · have hd : decide (-1000000000 < q) = false := decide_eq_false (by omega)
            go_wp2
            go_ret
            exact ⟨rfl, hbH⟩
          · have hd : decide (-1000000000 < q) = true := decide_eq_true (by omega)
            have hd2 : decide (q < 1000000000) = false := decide_eq_false (by omega)
            go_wp2
            go_ret
            exact ⟨by simp, hbH⟩
      · obtain ⟨k, rfl⟩ : ∃ k : Nat, m = k := ⟨m.toNat, by omega⟩
        have hk1 : 1 ≤ k := by omega
        have hk7 : k ≤ 7 := by omega
        have hq0 : 0 ≤ q := by omega
        clear hout
        have H1 := Lib.hid HQ.out.2
        by_cases hfit : 0 < dn k q
        · refine (FixedEnc.impl_over q k w5 hq0 H1.out hk1 hk7 hfit).mono ?_
          rw [fixedStr_no hfit]
          rintro e w6 ⟨rfl, rfl⟩
          go_wp2_with fail
          refine (FixedDec.impl_any _ _ w5 (by rw [ByteArray.size_append']; unfold maxLen; show 0 + tail.size ≤ _; omega)).mono ?_
          generalize FixedDec.dfV (⟨#[]⟩ ++ tail) _ = x1
          generalize FixedDec.dfB (⟨#[]⟩ ++ tail) _ = x2
          rintro e w7 ⟨rfl, rfl⟩
          go_wp2_with fail
          refine (FixedEnc.spec_in q k w5 hq0 H1.out hk1 hk7).mono ?_
          rw [fixedStr_no hfit]
          rintro e w8 ⟨rfl, hb8⟩
          have hbC := hbB.trans (hb8.mono hbB.size)
          clear hbB hb8 hfit
          go_wp2_with fail
          refine (HexEnc.impl_any tail _ (by omega)).mono ?_
          rintro e w10 ⟨rfl, hb10⟩
          have hbD := hbC.trans (hb10.mono hbC.size)
          clear hbC hb10
          go_wp2_with fail
          refine (HexDec.impl_any _ w10 (by rw [HH.out.1]; omega)).mono ?_
          rw [HH.out.2.1, HH.out.2.2]
          rintro e w11 ⟨rfl, hb11⟩
          have hbE := hbD.trans (hb11.mono hbD.size)
          clear hbD hb11
          go_wp2_with fail
          refine (IntFmt.impl_any q w11 HQ.out.1 HQ.out.2 (HT.out _ hbE)).mono ?_
          rintro e w12 ⟨rfl, hb12⟩
          have hbF := hbE.trans (hb12.mono hbE.size)
          clear hbE hb12
          go_wp2_with fail
          refine (Parse.impl_any _ w12 HSZ.out (fun w' h => HT.out w' (hbF.trans (h.mono hbF.size)))).mono ?_
          have hhs := HH.out.1
          by_cases hq9 : -999999999 ≤ q ∧ q ≤ 999999999
          · have HP := Lib.hid (parse_yes q hq9.1 hq9.2)
            have HRV := Lib.hid (Parse.res_yes HP.out.1)
            rw [HRV.out.1, HRV.out.2, HP.out.2]
            have hq91 : -1000000000 < q := by omega
            have hq92 : q < 1000000000 := by omega
            clear hq9
            rintro e w13 ⟨rfl, hb13⟩
            have hbG := hbF.trans (hb13.mono hbF.size)
            clear hbF hb13
            go_wp2_with fail
            refine (IntFmt.spec_any q w13 HQ.out.1 HQ.out.2).mono ?_
            rintro e w14 ⟨rfl, hb14⟩
            have hbH := hbG.trans (hb14.mono hbG.size)
            clear hbG hb14
            go_wp2
            go_ret
            exact ⟨rfl, hbH⟩
          · have HP := Lib.hid (parse_no q (by omega))
            have HRV := Lib.hid (Parse.res_no HP.out)
            rw [HRV.out.1, HRV.out.2]
            have hq3 : q ≤ -1000000000 ∨ 1000000000 ≤ q := by omega
            clear hq9
            rintro e w13 ⟨rfl, hb13⟩
            have hbG := hbF.trans (hb13.mono hbF.size)
            clear hbF hb13
            go_wp2_with fail
            refine (IntFmt.spec_any q w13 HQ.out.1 HQ.out.2).mono ?_
            rintro e w14 ⟨rfl, hb14⟩
            have hbH := hbG.trans (hb14.mono hbG.size)
            clear hbG hb14
            rcases hq3 with hq91 | hq91
            · have hd : decide (-1000000000 < q) = false := decide_eq_false (by omega)
              go_wp2
              go_ret
              exact ⟨rfl, hbH⟩
            · have hd : decide (-1000000000 < q) = true := decide_eq_true (by omega)
              have hd2 : decide (q < 1000000000) = false := decide_eq_false (by omega)
              go_wp2
              go_ret
              exact ⟨by simp, hbH⟩
        · have hfz := fixedStr_size k q hfit
          have hfn := not_empty (s := fixedStr k q) (by rw [hfz]; exact hk1)
          obtain ⟨hfn1, hfn2⟩ := hfn
          have HR : Hid (FixedDec.dfV (fixedStr k q ++ tail) (k : Int) = q ∧ FixedDec.dfB (fixedStr k q ++ tail) (k : Int) = true) := by
            have e1 : FixedDec.dfB (fixedStr k q ++ tail) (k : Int) = true := decide_eq_true ⟨by omega, by omega, by rw [ByteArray.size_append', hfz]; omega⟩
            refine ⟨?_, e1⟩
            unfold FixedDec.dfV
            rw [if_pos e1, fixedStr_yes hfit, Int.toNat_natCast]
            exact fixed_round q k tail hfit hq0
          refine (FixedEnc.impl_in q k w5 hq0 H1.out hk1 hk7 hfit).mono ?_
          rintro e w6 ⟨rfl, hb6⟩
          have hb6' := hbB.trans (hb6.mono hbB.size)
          clear hbB hb6 hfit
          go_wp2_with fail
          refine (FixedDec.impl_any _ _ w6 (by rw [ByteArray.size_append', hfz]; unfold maxLen; omega)).mono ?_
          rw [HR.out.1, HR.out.2]
          rintro e w7 ⟨rfl, rfl⟩
          go_wp2_with fail
          refine (FixedEnc.spec_in q k w6 hq0 H1.out hk1 hk7).mono ?_
          rintro e w8 ⟨rfl, hb8⟩
          have hbC := hb6'.trans (hb8.mono hb6'.size)
          clear hb6' hb8
          go_wp2_with fail
          clear hfz hfn1 hfn2
          refine (HexEnc.impl_any tail _ (by omega)).mono ?_
          rintro e w10 ⟨rfl, hb10⟩
          have hbD := hbC.trans (hb10.mono hbC.size)
          clear hbC hb10
          go_wp2_with fail
          refine (HexDec.impl_any _ w10 (by rw [HH.out.1]; omega)).mono ?_
          rw [HH.out.2.1, HH.out.2.2]
          rintro e w11 ⟨rfl, hb11⟩
          have hbE := hbD.trans (hb11.mono hbD.size)
          clear hbD hb11
          go_wp2_with fail
          refine (IntFmt.impl_any q w11 HQ.out.1 HQ.out.2 (HT.out _ hbE)).mono ?_
          rintro e w12 ⟨rfl, hb12⟩
          have hbF := hbE.trans (hb12.mono hbE.size)
          clear hbE hb12
          go_wp2_with fail
          refine (Parse.impl_any _ w12 HSZ.out (fun w' h => HT.out w' (hbF.trans (h.mono hbF.size)))).mono ?_
          have hhs := HH.out.1
          by_cases hq9 : -999999999 ≤ q ∧ q ≤ 999999999
          · have HP := Lib.hid (parse_yes q hq9.1 hq9.2)
            have HRV := Lib.hid (Parse.res_yes HP.out.1)
            rw [HRV.out.1, HRV.out.2, HP.out.2]
            have hq91 : -1000000000 < q := by omega
            have hq92 : q < 1000000000 := by omega
            clear hq9
            rintro e w13 ⟨rfl, hb13⟩
            have hbG := hbF.trans (hb13.mono hbF.size)
            clear hbF hb13
            go_wp2_with fail
            refine (IntFmt.spec_any q w13 HQ.out.1 HQ.out.2).mono ?_
            rintro e w14 ⟨rfl, hb14⟩
            have hbH := hbG.trans (hb14.mono hbG.size)
            clear hbG hb14
            go_wp2
            go_ret
            exact ⟨rfl, hbH⟩
          · have HP := Lib.hid (parse_no q (by omega))
            have HRV := Lib.hid (Parse.res_no HP.out)
            rw [HRV.out.1, HRV.out.2]
            have hq3 : q ≤ -1000000000 ∨ 1000000000 ≤ q := by omega
            clear hq9
            rintro e w13 ⟨rfl, hb13⟩
            have hbG := hbF.trans (hb13.mono hbF.size)
            clear hbF hb13
            go_wp2_with fail
            refine (IntFmt.spec_any q w13 HQ.out.1 HQ.out.2).mono ?_
            rintro e w14 ⟨rfl, hb14⟩
            have hbH := hbG.trans (hb14.mono hbG.size)
            clear hbG hb14
            rcases hq3 with hq91 | hq91
            · have hd : decide (-1000000000 < q) = false := decide_eq_false (by omega)
              go_wp2
              go_ret
              exact ⟨rfl, hbH⟩
            · have hd : decide (-1000000000 < q) = true := decide_eq_true (by omega)
              have hd2 : decide (q < 1000000000) = false := decide_eq_false (by omega)
              go_wp2
              go_ret
              exact ⟨by simp, hbH⟩
    · have hr0 : 0 ≤ n := by omega
      have hr1 : n ≤ 562949953421311 := by omega
      clear hra hrb
      have HV := Lib.hid (varint_round n tail hr0 hr1)
      have hvl := HV.out.1
      have hvu := HV.out.2.1
      have hsz : (strOfNums (vb 7 n)).size = (vb 7 n).length := strOfNums_size _
      have hne := not_empty (s := strOfNums (vb 7 n)) (by rw [hsz]; exact hvl)
      obtain ⟨hne1, hne2⟩ := hne
      refine (VarintEnc.impl_ok n w2 hr0 hr1).mono ?_
      rintro e w3 ⟨rfl, hb3⟩
      have hbA := hb2.trans (hb3.mono hb2.size)
      clear hb2 hb3
      have hxy : (scan (strOfNums (vb 7 n) ++ tail) 7 0).1 = n ∧ (scan (strOfNums (vb 7 n) ++ tail) 7 0).2 = ((vb 7 n).length : Int) := by rw [HV.out.2.2]; exact ⟨rfl, rfl⟩
      have HXY := Lib.hid hxy
      clear hxy
      go_wp2_with fail
      refine (VarintDec.impl_any _ _ (by rw [size_append]; unfold maxLen; omega)).mono ?_
      rw [HXY.out.1, HXY.out.2]
      rintro e w4 ⟨rfl, rfl⟩
      go_wp2_with fail
      clear hne1 hne2 hsz hvl hvu
      refine (Cursor.drawPair w _ a len cap hlen HC.out hbA).mono ?_
      rintro e w5 ⟨q, m, ⟨hq, hm0, hm1⟩, rfl, hbB⟩
      have HQ := Lib.hid hq
      have HSZ : Hid ((itoaS q).size ≤ maxLen) := by
        have := itoaS_size q hq.1 hq.2
        show _ ≤ maxLen
        unfold maxLen
        omega
      clear hq hbA
      go_wp2_with fail
      by_cases hout : (m < 1 ∨ 7 < m) ∨ q < 0
      · refine (FixedEnc.impl_out q m w5 hout).mono ?_
        rintro e w6 ⟨rfl, rfl⟩
        go_wp2_with fail
        refine (FixedDec.impl_any _ m w5 (by rw [ByteArray.size_append']; unfold maxLen; show 0 + tail.size ≤ _; omega)).mono ?_
        generalize FixedDec.dfV (⟨#[]⟩ ++ tail) m = x1
        generalize FixedDec.dfB (⟨#[]⟩ ++ tail) m = x2
        rintro e w7 ⟨rfl, rfl⟩
        go_wp2_with fail
        refine (FixedEnc.spec_out q m w5 hout).mono ?_
        rintro e w8 ⟨rfl, rfl⟩
        have hbC := hbB
        clear hbB hout
        go_wp2_with fail
        refine (HexEnc.impl_any tail _ (by omega)).mono ?_
        rintro e w10 ⟨rfl, hb10⟩
        have hbD := hbC.trans (hb10.mono hbC.size)
        clear hbC hb10
        go_wp2_with fail
        refine (HexDec.impl_any _ w10 (by rw [HH.out.1]; omega)).mono ?_
        rw [HH.out.2.1, HH.out.2.2]
        rintro e w11 ⟨rfl, hb11⟩
        have hbE := hbD.trans (hb11.mono hbD.size)
        clear hbD hb11
        go_wp2_with fail
        refine (IntFmt.impl_any q w11 HQ.out.1 HQ.out.2 (HT.out _ hbE)).mono ?_
        rintro e w12 ⟨rfl, hb12⟩
        have hbF := hbE.trans (hb12.mono hbE.size)
        clear hbE hb12
        go_wp2_with fail
        refine (Parse.impl_any _ w12 HSZ.out (fun w' h => HT.out w' (hbF.trans (h.mono hbF.size)))).mono ?_
        have hhs := HH.out.1
        by_cases hq9 : -999999999 ≤ q ∧ q ≤ 999999999
        · have HP := Lib.hid (parse_yes q hq9.1 hq9.2)
          have HRV := Lib.hid (Parse.res_yes HP.out.1)
          rw [HRV.out.1, HRV.out.2, HP.out.2]
          have hq91 : -1000000000 < q := by omega
          have hq92 : q < 1000000000 := by omega
          clear hq9
          rintro e w13 ⟨rfl, hb13⟩
          have hbG := hbF.trans (hb13.mono hbF.size)
          clear hbF hb13
          go_wp2_with fail
          refine (IntFmt.spec_any q w13 HQ.out.1 HQ.out.2).mono ?_
          rintro e w14 ⟨rfl, hb14⟩
          have hbH := hbG.trans (hb14.mono hbG.size)
          clear hbG hb14
          go_wp2
          go_ret
          exact ⟨rfl, hbH⟩
        · have HP := Lib.hid (parse_no q (by omega))
          have HRV := Lib.hid (Parse.res_no HP.out)
          rw [HRV.out.1, HRV.out.2]
          have hq3 : q ≤ -1000000000 ∨ 1000000000 ≤ q := by omega
          clear hq9
          rintro e w13 ⟨rfl, hb13⟩
          have hbG := hbF.trans (hb13.mono hbF.size)
          clear hbF hb13
          go_wp2_with fail
          refine (IntFmt.spec_any q w13 HQ.out.1 HQ.out.2).mono ?_
          rintro e w14 ⟨rfl, hb14⟩
          have hbH := hbG.trans (hb14.mono hbG.size)
          clear hbG hb14
          rcases hq3 with hq91 | hq91
          · have hd : decide (-1000000000 < q) = false := decide_eq_false (by omega)
            go_wp2
            go_ret
            exact ⟨rfl, hbH⟩
          · have hd : decide (-1000000000 < q) = true := decide_eq_true (by omega)
            have hd2 : decide (q < 1000000000) = false := decide_eq_false (by omega)
            go_wp2
            go_ret
            exact ⟨by simp, hbH⟩
      · obtain ⟨k, rfl⟩ : ∃ k : Nat, m = k := ⟨m.toNat, by omega⟩
        have hk1 : 1 ≤ k := by omega
        have hk7 : k ≤ 7 := by omega
        have hq0 : 0 ≤ q := by omega
        clear hout
        have H1 := Lib.hid HQ.out.2
        by_cases hfit : 0 < dn k q
        · refine (FixedEnc.impl_over q k w5 hq0 H1.out hk1 hk7 hfit).mono ?_
          rw [fixedStr_no hfit]
          rintro e w6 ⟨rfl, rfl⟩
          go_wp2_with fail
          refine (FixedDec.impl_any _ _ w5 (by rw [ByteArray.size_append']; unfold maxLen; show 0 + tail.size ≤ _; omega)).mono ?_
          generalize FixedDec.dfV (⟨#[]⟩ ++ tail) _ = x1
          generalize FixedDec.dfB (⟨#[]⟩ ++ tail) _ = x2
          rintro e w7 ⟨rfl, rfl⟩
          go_wp2_with fail
          refine (FixedEnc.spec_in q k w5 hq0 H1.out hk1 hk7).mono ?_
          rw [fixedStr_no hfit]
          rintro e w8 ⟨rfl, hb8⟩
          have hbC := hbB.trans (hb8.mono hbB.size)
          clear hbB hb8 hfit
          go_wp2_with fail
          refine (HexEnc.impl_any tail _ (by omega)).mono ?_
          rintro e w10 ⟨rfl, hb10⟩
          have hbD := hbC.trans (hb10.mono hbC.size)
          clear hbC hb10
          go_wp2_with fail
          refine (HexDec.impl_any _ w10 (by rw [HH.out.1]; omega)).mono ?_
          rw [HH.out.2.1, HH.out.2.2]
          rintro e w11 ⟨rfl, hb11⟩
          have hbE := hbD.trans (hb11.mono hbD.size)
          clear hbD hb11
          go_wp2_with fail
          refine (IntFmt.impl_any q w11 HQ.out.1 HQ.out.2 (HT.out _ hbE)).mono ?_
          rintro e w12 ⟨rfl, hb12⟩
          have hbF := hbE.trans (hb12.mono hbE.size)
          clear hbE hb12
          go_wp2_with fail
          refine (Parse.impl_any _ w12 HSZ.out (fun w' h => HT.out w' (hbF.trans (h.mono hbF.size)))).mono ?_
          have hhs := HH.out.1
          by_cases hq9 : -999999999 ≤ q ∧ q ≤ 999999999
          · have HP := Lib.hid (parse_yes q hq9.1 hq9.2)
            have HRV := Lib.hid (Parse.res_yes HP.out.1)
            rw [HRV.out.1, HRV.out.2, HP.out.2]
            have hq91 : -1000000000 < q := by omega
            have hq92 : q < 1000000000 := by omega
            clear hq9
            rintro e w13 ⟨rfl, hb13⟩
            have hbG := hbF.trans (hb13.mono hbF.size)
            clear hbF hb13
            go_wp2_with fail
            refine (IntFmt.spec_any q w13 HQ.out.1 HQ.out.2).mono ?_
            rintro e w14 ⟨rfl, hb14⟩
            have hbH := hbG.trans (hb14.mono hbG.size)
            clear hbG hb14
            go_wp2
            go_ret
            exact ⟨rfl, hbH⟩
          · have HP := Lib.hid (parse_no q (by omega))
            have HRV := Lib.hid (Parse.res_no HP.out)
            rw [HRV.out.1, HRV.out.2]
            have hq3 : q ≤ -1000000000 ∨ 1000000000 ≤ q := by omega
            clear hq9
            rintro e w13 ⟨rfl, hb13⟩
            have hbG := hbF.trans (hb13.mono hbF.size)
            clear hbF hb13
            go_wp2_with fail
            refine (IntFmt.spec_any q w13 HQ.out.1 HQ.out.2).mono ?_
            rintro e w14 ⟨rfl, hb14⟩
            have hbH := hbG.trans (hb14.mono hbG.size)
            clear hbG hb14
            rcases hq3 with hq91 | hq91
            · have hd : decide (-1000000000 < q) = false := decide_eq_false (by omega)
              go_wp2
              go_ret
              exact ⟨rfl, hbH⟩
            · have hd : decide (-1000000000 < q) = true := decide_eq_true (by omega)
              have hd2 : decide (q < 1000000000) = false := decide_eq_false (by omega)
              go_wp2
              go_ret
              exact ⟨by simp, hbH⟩
        · have hfz := fixedStr_size k q hfit
          have hfn := not_empty (s := fixedStr k q) (by rw [hfz]; exact hk1)
          obtain ⟨hfn1, hfn2⟩ := hfn
          have HR : Hid (FixedDec.dfV (fixedStr k q ++ tail) (k : Int) = q ∧ FixedDec.dfB (fixedStr k q ++ tail) (k : Int) = true) := by
            have e1 : FixedDec.dfB (fixedStr k q ++ tail) (k : Int) = true := decide_eq_true ⟨by omega, by omega, by rw [ByteArray.size_append', hfz]; omega⟩
            refine ⟨?_, e1⟩
            unfold FixedDec.dfV
            rw [if_pos e1, fixedStr_yes hfit, Int.toNat_natCast]
            exact fixed_round q k tail hfit hq0
          refine (FixedEnc.impl_in q k w5 hq0 H1.out hk1 hk7 hfit).mono ?_
          rintro e w6 ⟨rfl, hb6⟩
          have hb6' := hbB.trans (hb6.mono hbB.size)
          clear hbB hb6 hfit
          go_wp2_with fail
          refine (FixedDec.impl_any _ _ w6 (by rw [ByteArray.size_append', hfz]; unfold maxLen; omega)).mono ?_
          rw [HR.out.1, HR.out.2]
          rintro e w7 ⟨rfl, rfl⟩
          go_wp2_with fail
          refine (FixedEnc.spec_in q k w6 hq0 H1.out hk1 hk7).mono ?_
          rintro e w8 ⟨rfl, hb8⟩
          have hbC := hb6'.trans (hb8.mono hb6'.size)
          clear hb6' hb8
          go_wp2_with fail
          clear hfz hfn1 hfn2
          refine (HexEnc.impl_any tail _ (by omega)).mono ?_
          rintro e w10 ⟨rfl, hb10⟩
          have hbD := hbC.trans (hb10.mono hbC.size)
          clear hbC hb10
          go_wp2_with fail
          refine (HexDec.impl_any _ w10 (by rw [HH.out.1]; omega)).mono ?_
          rw [HH.out.2.1, HH.out.2.2]
          rintro e w11 ⟨rfl, hb11⟩
          have hbE := hbD.trans (hb11.mono hbD.size)
          clear hbD hb11
          go_wp2_with fail
          refine (IntFmt.impl_any q w11 HQ.out.1 HQ.out.2 (HT.out _ hbE)).mono ?_
          rintro e w12 ⟨rfl, hb12⟩
          have hbF := hbE.trans (hb12.mono hbE.size)
          clear hbE hb12
          go_wp2_with fail
          refine (Parse.impl_any _ w12 HSZ.out (fun w' h => HT.out w' (hbF.trans (h.mono hbF.size)))).mono ?_
          have hhs := HH.out.1
          by_cases hq9 : -999999999 ≤ q ∧ q ≤ 999999999
          · have HP := Lib.hid (parse_yes q hq9.1 hq9.2)
            have HRV := Lib.hid (Parse.res_yes HP.out.1)
            rw [HRV.out.1, HRV.out.2, HP.out.2]
            have hq91 : -1000000000 < q := by omega
            have hq92 : q < 1000000000 := by omega
            clear hq9
            rintro e w13 ⟨rfl, hb13⟩
            have hbG := hbF.trans (hb13.mono hbF.size)
            clear hbF hb13
            go_wp2_with fail
            refine (IntFmt.spec_any q w13 HQ.out.1 HQ.out.2).mono ?_
            rintro e w14 ⟨rfl, hb14⟩
            have hbH := hbG.trans (hb14.mono hbG.size)
            clear hbG hb14
            go_wp2
            go_ret
            exact ⟨rfl, hbH⟩
          · have HP := Lib.hid (parse_no q (by omega))
            have HRV := Lib.hid (Parse.res_no HP.out)
            rw [HRV.out.1, HRV.out.2]
            have hq3 : q ≤ -1000000000 ∨ 1000000000 ≤ q := by omega
            clear hq9
            rintro e w13 ⟨rfl, hb13⟩
            have hbG := hbF.trans (hb13.mono hbF.size)
            clear hbF hb13
            go_wp2_with fail
            refine (IntFmt.spec_any q w13 HQ.out.1 HQ.out.2).mono ?_
            rintro e w14 ⟨rfl, hb14⟩
            have hbH := hbG.trans (hb14.mono hbG.size)
            clear hbG hb14
            rcases hq3 with hq91 | hq91
            · have hd : decide (-1000000000 < q) = false := decide_eq_false (by omega)
              go_wp2
              go_ret
              exact ⟨rfl, hbH⟩
            · have hd : decide (-1000000000 < q) = true := decide_eq_true (by omega)
              have hd2 : decide (q < 1000000000) = false := decide_eq_false (by omega)
              go_wp2
              go_ret
              exact ⟨by simp, hbH⟩
end Enc1
end Go.Proofs.YtkplmhnhpkpppaaDoor
