/- Contract of the model's StateClasses. No conditions beyond those that each states. -/
import Derived.Test.YthnmighlgifoeaaNumber
import Derived.Test.YthnmighlgifoeaaRowsIn
import Derived.Test.YthnmighlgifoeaaSeqCopy
namespace Go.Proofs.Ythnmighlgifoeaa
open Go.ChangeShapes Go.WideShapes Go.ChangeAt Go.RowKit
open Go.PlainAid Plain
set_option linter.unusedVariables false
namespace Mins
open Seqs
def keys0 (out : List Int) (i : Nat) : List (List Int) := (out.take i).map fun o => [o]
def keysM (rows : List (List Int)) (cls : List Int) (i : Nat) : List (List Int) := (List.range i).map (keyM rows cls)
theorem keys0_succ {out : List Int} {i : Nat} {o : Int} (h : out[i]? = some o) : keys0 out (i + 1) = keys0 out i ++ [[o]] := by
  rw [keys0, take_snoc' h, List.map_append]
  rfl
theorem keys0_len {out : List Int} {i : Nat} (h : i ≤ out.length) : (keys0 out i).length = i := by simp [keys0]; omega
theorem keysM_succ (rows : List (List Int)) (cls : List Int) (i : Nat) : keysM rows cls (i + 1) = keysM rows cls i ++ [keyM rows cls i] := by simp [keysM, List.range_succ]
theorem keysM_len (rows : List (List Int)) (cls : List Int) (i : Nat) : (keysM rows cls i).length = i := by simp [keysM]
/-- A key in the making. -/
def partM (x : Int) (r cls : List Int) (k : Nat) : List Int := x :: (r.take k).map fun y => cls.getD y.toNat 0
theorem partM_succ {x y : Int} {r cls : List Int} {k : Nat} (h : r[k]? = some y) : partM x r cls (k + 1) = partM x r cls k ++ [cls.getD y.toNat 0] := by
  rw [partM, take_snoc' h, List.map_append]
  rfl
theorem partM_len {x : Int} {r cls : List Int} {k : Nat} (h : k ≤ r.length) : (partM x r cls k).length = k + 1 := by simp [partM]; omega
theorem partM_end {rows : List (List Int)} {cls r : List Int} {i : Nat} {x : Int} (hr : rows[i]? = some r) (hx : cls[i]? = some x) : partM x r cls r.length = keyM rows cls i := by
  rw [partM, List.take_length, keyM, List.getD_eq_getElem?_getD, List.getD_eq_getElem?_getD, hx, hr]
  rfl
theorem clsM_len {rows : List (List Int)} {out : List Int} (h : out.length = rows.length) : ∀ k, (clsM rows out k).length = rows.length
  | 0 => by rw [clsM, numb_len, List.length_map, h]
  | k + 1 => by rw [clsM, numb_len, List.length_map, List.length_range]
set_option maxRecDepth 100000 in
set_option maxHeartbeats 2000000 in
theorem spec_class_yes (v : Value) (b : Int) (rows : List (List Int)) (out : List Int) (w : World) (h : LiesS w v b rows out) (hq : seqB b rows out = true) :
    Calls Try.prog 82 #[v] w (Gives (Value.int .i64) 3 (classes rows out) w) := by
  obtain ⟨i0, hi, hz0, hz1, hz2⟩ := info_parts Ints.infoI
  obtain ⟨i2, hi2, hz20, hz21, hz22⟩ := info_parts infoR
  have HS := Lib.hid h
  obtain ⟨an, cn, ao, co, rfl⟩ := h.form
  clear h
  have HB : Hid (Below w.heap.size w (w.alloc (Obj.cells #[Value.int .i64 b, Value.slice an rows.length cn, Value.slice ao out.length co] 27))) := (Below.refl _ _).alloc (Nat.le_refl _) _
  have HC := Lib.hid (Cells3.new w 27 (.int .i64 b) (.slice an rows.length cn) (.slice ao out.length co))
  have HQ := Lib.hid hq
  have HV := Lib.hid (seqB_out hq)
  have HA := Lib.hid (seqB_out hq).auto
  have hn16 : rows.length ≤ 16 := HV.out.2.2.2.1
  have hol : out.length = rows.length := HV.out.2.2.2.2.1
  have HOL := Lib.hid hol
  have hb2 : 2 ≤ b := HV.out.1
  have hb4 : b ≤ 4 := HV.out.2.1
  have ho16 : out.length ≤ 16 := by omega
  have k0 := HC.out.c0
  have k1 := HC.out.c1
  have k2 := HC.out.c2
  clear hq hol
  go_enter Try.func82, Try.ntmps82
  go_wp2_with fail
  refine (spec_is _ b rows out _ (HS.out.below HB.out)).mono ?_
  rintro e W1 ⟨rfl, b1⟩
  rw [HQ.out]
  have HB1 := Lib.hid (HB.out.trans (b1.mono HB.out.size))
  have HC1 := Lib.hid (HC.out.below b1)
  clear b1 HB HC k0 k1 k2
  have hR : Hid (HasRows (W1.alloc (.cells #[] 23)) (w.heap.size + 1) W1.heap.size (.slice (some ⟨W1.heap.size, 0, none⟩) 0 0) (keys0 out 0)) := by
    have h1 : w.heap.size + 1 ≤ W1.heap.size := by have := HC1.out.lt; omega
    exact (HasRows.nil (has_lit0 (enc := id) (e := 23) rfl h1) (by simp; omega)).lift h1 (by simp)
  have hB : Hid (Below w.heap.size w (W1.alloc (.cells #[] 23))) := HB1.out.alloc HB1.out.size _
  have hC := Lib.hid (HC1.out.alloc (.cells #[] 23))
  go_wp2_with fail
  obtain ⟨W2, hW2⟩ : ∃ W, W = W1.alloc (.cells #[] 23) := ⟨_, rfl⟩
  rw [← hW2] at hR hB hC ⊢
  have hR : Hid (∃ hi, HasRows W2 (w.heap.size + 1) hi (.slice (some ⟨W1.heap.size, 0, none⟩) 0 0) (keys0 out 0)) := ⟨_, hR.out⟩
  clear hW2 HB1 HC1
  go_loopw [3, 4] (fun o' i' wr => ∃ i : Nat, i ≤ out.length ∧ i' = .int .i64 i ∧ Hid (∃ hi, HasRows wr (w.heap.size + 1) hi o' (keys0 out i)) ∧ Hid (Cells3 wr w.heap.size 27 (.int .i64 b) (.slice an rows.length cn) (.slice ao out.length co)) ∧ Hid (Below w.heap.size w wr)) (fun _ i' _ => out.length - (intOf i').toNat)
  case atStart => exact ⟨0, Nat.zero_le _, rfl, hR, hC, hB⟩
  case round =>
    clear hR hB hC
    obtain ⟨i, hil, rfl, hR, hC, hB⟩ := hrel
    obtain ⟨hi', hR'⟩ := hR.out
    obtain ⟨ra, rc, rfl⟩ := hR'.form
    have HR := Lib.hid hR'
    clear hR hR'
    have k0 := hC.out.c0
    have k1 := hC.out.c1
    have k2 := hC.out.c2
    by_cases hlt : i < out.length
    case pos =>
      obtain ⟨o, ho⟩ : ∃ x, out[i]? = some x := ⟨_, List.getElem?_eq_getElem hlt⟩
      have HO := Lib.hid ho
      have HK0 := Lib.hid (keys0_succ ho)
      have HKL := Lib.hid (keys0_len hil)
      obtain ⟨q', s', hao, o1⟩ := HS.out.cells.2 i o ho
      have o1' := old_cell hB.out o1
      have hlt2 : (i : Int) < (out.length : Int) := by omega
      have hi0 : (0 : Int) ≤ (i : Int) := Int.natCast_nonneg _
      rw [hao] at k2
      have HR2 := Lib.hid (HR.out.below ((Below.refl _ _).alloc (Nat.le_refl _) (.cells #[.int .i64 o] 3)))
      have HU : Hid (Has (Value.int .i64) 3 (wr.alloc (.cells #[.int .i64 o] 3)) hi' (.slice (some ⟨wr.heap.size, 0, none⟩) 1 1) [o]) := has_lit1 (enc := Value.int .i64) o rfl HR.out.hi_le.2
      clear ho o1 hao
      go_wp2_with (at_builtin; refine wpList_append_row rfl _ _ 22 rfl i2 Try.underlying22 hi2 hz20 hz21 hz22 (.slice ra (keys0 out i).length rc) rfl HR2.out (.slice (some ⟨wr.heap.size, 0, none⟩) 1 1) [o] HU.out _ rfl (by simp) (by rw [HKL.out]; omega) ?_; intro v' w' hv' hg')
      have hB4 : Hid (Below w.heap.size w w') := HR2.out.frame (hB.out.alloc hB.out.size _) (Nat.le_succ _) hg'
      have hC4 := Lib.hid (HR2.out.c3 (hC.out.alloc _) (by decide) hg')
      have hR4 : Hid (∃ hi, HasRows w' (w.heap.size + 1) hi v' (keys0 out (i + 1))) := ⟨_, by rw [HK0.out]; exact hv'⟩
      clear hv' hg' HR2 HU k0 k1 k2 o1'
      go_wp2
      go_roundw
      case rel => exact ⟨i + 1, by omega, by go_num, hR4, hC4, hB4⟩
      case measure => simp [intOf]; omega
    case neg =>
      obtain rfl : i = out.length := by omega
      have HKK : Hid (keys0 out out.length = out.map fun o => [o]) := by show _ = _; rw [keys0, List.take_length]
      have HNU := Lib.hid (number_any _ _ _ HR.out.liesR (by rw [keys0_len (Nat.le_refl _)]; omega))
      go_wp2_with fail
      refine (HNU.out).mono ?_
      rintro e W3 ⟨vc, rfl, hvc, b3⟩
      have hZ1 : Hid (w.heap.size + 1 ≤ wr.heap.size) := by have := hC.out.lt; show _ ≤ _; omega
      have hO3 : Hid (Has (Value.int .i64) 3 W3 (w.heap.size + 1) vc (clsM rows out 0)) := by
        have h1 := hvc.mono hZ1.out
        rw [HKK.out] at h1
        exact h1
      have hC3 := Lib.hid (hC.out.below b3)
      have hB3 := Lib.hid (hB.out.trans (b3.mono hB.out.size))
      clear hvc b3 HR hC hB k0 k1 k2 HNU hZ1
      go_wp2_with fail
      go_loopw [5, 6] (fun c' n' wr => ∃ n : Nat, n ≤ rows.length ∧ n' = .int .i64 n ∧ Hid (Has (Value.int .i64) 3 wr (w.heap.size + 1) c' (clsM rows out n)) ∧ Hid (Cells3 wr w.heap.size 27 (.int .i64 b) (.slice an rows.length cn) (.slice ao out.length co)) ∧ Hid (Below w.heap.size w wr)) (fun _ n' _ => rows.length - (intOf n').toNat)
      case atStart => exact ⟨0, Nat.zero_le _, rfl, hO3, hC3, hB3⟩
      case round =>
        clear hO3 hC3 hB3
        obtain ⟨n, hnl, rfl, hO, hC, hB⟩ := hrel
        obtain ⟨W4, rfl⟩ : ∃ W : World, W = wr := ⟨_, rfl⟩
        obtain ⟨cls, hcls⟩ : ∃ c, c = clsM rows out n := ⟨_, rfl⟩
        have HCLS := Lib.hid hcls
        have HCL : Hid (cls.length = rows.length) := by show _ = _; rw [hcls]; exact clsM_len HOL.out n
        rw [← hcls] at hO
        obtain ⟨ca, cc, rfl, _⟩ := hO.out.form
        have k0 := hC.out.c0
        have k1 := hC.out.c1
        have k2 := hC.out.c2
        by_cases hlt : n < rows.length
        case neg =>
          obtain rfl : n = rows.length := by omega
          have HX : Hid (Has (Value.int .i64) 3 W4 w.heap.size (.slice ca cls.length cc) (classes rows out)) := by
            have h1 := hO.out.mono (Nat.le_succ w.heap.size)
            rw [← clsM_end HA.out]
            rw [hcls] at h1 ⊢
            exact h1
          clear hcls
          go_wp2
          go_ret
          exact ⟨_, rfl, HX.out, hB.out⟩
        case pos =>
          clear hcls
          have hZ1 : Hid (w.heap.size + 1 ≤ W4.heap.size) := by have := hC.out.lt; show _ ≤ _; omega
          have hR : Hid (∃ hi, HasRows (W4.alloc (.cells #[] 23)) (w.heap.size + 1) hi (.slice (some ⟨W4.heap.size, 0, none⟩) 0 0) (keysM rows cls 0)) := by
            exact ⟨_, (HasRows.nil (has_lit0 (enc := id) (e := 23) rfl hZ1.out) (by simp; have := hZ1.out; omega)).lift hZ1.out (by simp)⟩
          have hB5 : Hid (Below w.heap.size w (W4.alloc (.cells #[] 23))) := hB.out.alloc hB.out.size _
          have hC5 := Lib.hid (hC.out.alloc (.cells #[] 23))
          have hO5 := Lib.hid (has_alloc hO.out (.cells #[] 23))
          clear hB hC hO
          go_wp2
          obtain ⟨W5, hW5⟩ : ∃ W, W = W4.alloc (.cells #[] 23) := ⟨_, rfl⟩
          rw [← hW5] at hR hB5 hC5 hO5 ⊢
          clear hW5 k0 k1 k2
          go_loopw [3, 7] (fun o' i' wr => ∃ i : Nat, i ≤ rows.length ∧ i' = .int .i64 i ∧ Hid (∃ hi, HasRows wr (w.heap.size + 1) hi o' (keysM rows cls i)) ∧ Hid (Has (Value.int .i64) 3 wr (w.heap.size + 1) (.slice ca cls.length cc) cls) ∧ Hid (Cells3 wr w.heap.size 27 (.int .i64 b) (.slice an rows.length cn) (.slice ao out.length co)) ∧ Hid (Below w.heap.size w wr)) (fun _ i' _ => rows.length - (intOf i').toNat)
          case atStart => exact ⟨0, Nat.zero_le _, rfl, hR, hO5, hC5, hB5⟩
          case round =>
            clear hR hO5 hC5 hB5
            obtain ⟨i, hil, rfl, hR, hO, hC, hB⟩ := hrel
            obtain ⟨W6, rfl⟩ : ∃ W : World, W = wr := ⟨_, rfl⟩
            obtain ⟨hi', hR'⟩ := hR.out
            obtain ⟨ra, rc, rfl⟩ := hR'.form
            have HR := Lib.hid hR'
            clear hR hR'
            have k0 := hC.out.c0
            have k1 := hC.out.c1
            have k2 := hC.out.c2
            by_cases hlt3 : i < rows.length
            case neg =>
              obtain rfl : i = rows.length := by omega
              have HNU := Lib.hid (number_any _ _ _ HR.out.liesR (by rw [keysM_len]; omega))
              go_wp2_with fail
              refine (HNU.out).mono ?_
              rintro e W7 ⟨vc', rfl, hvc, b3⟩
              have hZ2 : Hid (w.heap.size + 1 ≤ W6.heap.size) := by have := hC.out.lt; show _ ≤ _; omega
              have hO7 : Hid (Has (Value.int .i64) 3 W7 (w.heap.size + 1) vc' (clsM rows out (n + 1))) := by
                show Has _ _ _ _ _ _
                rw [clsM, ← HCLS.out]
                exact hvc.mono hZ2.out
              have hC7 := Lib.hid (hC.out.below b3)
              have hB7 := Lib.hid (hB.out.trans (b3.mono hB.out.size))
              clear hvc b3 HR hC hB hO k0 k1 k2 HNU
              go_wp2
              go_roundw
              case rel => exact ⟨n + 1, by omega, by go_num, hO7, hC7, hB7⟩
              case measure => simp [intOf]; omega
            case pos =>
              obtain ⟨x, hx⟩ : ∃ x, cls[i]? = some x := ⟨_, List.getElem?_eq_getElem (by have := HCL.out; omega)⟩
              obtain ⟨r, hr⟩ : ∃ r, rows[i]? = some r := ⟨_, List.getElem?_eq_getElem hlt3⟩
              have HXX := Lib.hid hx
              have HRR := Lib.hid hr
              have hrl : (r.length : Int) = b := (HV.out.2.2.2.2.2.1 r (List.mem_of_getElem? hr)).1
              have HRB := Lib.hid (HV.out.2.2.2.2.2.1 r (List.mem_of_getElem? hr)).2
              have hr0 : 0 < r.length := by omega
              have hr4 : r.length ≤ 4 := by omega
              have HRL := Lib.hid hrl
              obtain ⟨cq, cs, cc', hcv, hcc⟩ := ints_at hO.out.lies (by have := HCL.out; omega)
              injection hcv with f1 f2 f3
              have o1 := hcc i x hx
              have HCC := Lib.hid hcc
              have hcl1 : (i : Int) < (cls.length : Int) := by have := HCL.out; omega
              have hcl2 : i < cls.length := by have := HCL.out; omega
              have hi0 : (0 : Int) ≤ (i : Int) := Int.natCast_nonneg _
              subst f1
              have hP : Hid (Has (Value.int .i64) 3 (W6.alloc (.cells #[.int .i64 x] 3)) W6.heap.size (.slice (some ⟨W6.heap.size, 0, none⟩) 1 1) (partM x r cls 0)) := has_lit1 (enc := Value.int .i64) x rfl (Nat.le_refl _)
              have hBP : Hid (Below W6.heap.size W6 (W6.alloc (.cells #[.int .i64 x] 3))) := (Below.refl _ _).alloc (Nat.le_refl _) _
              clear hx hr hrl hcc f2 f3
              go_wp2
              obtain ⟨W7, hW7⟩ : ∃ W, W = W6.alloc (.cells #[.int .i64 x] 3) := ⟨_, rfl⟩
              rw [← hW7] at hP hBP ⊢
              clear hW7 k0 k1 k2 o1
              go_loopw [8, 9] (fun p' k' wr => ∃ k : Nat, k ≤ r.length ∧ k' = .int .i64 k ∧ Hid (Has (Value.int .i64) 3 wr W6.heap.size p' (partM x r cls k)) ∧ Hid (Below W6.heap.size W6 wr)) (fun _ k' _ => r.length - (intOf k').toNat)
              case atStart => exact ⟨0, Nat.zero_le _, rfl, hP, hBP⟩
              case round =>
                clear hP hBP
                obtain ⟨k, hkl, rfl, hP, hBP⟩ := hrel
                have hC8 := hC.out.below hBP.out
                have k0 := hC8.c0
                have k1 := hC8.c1
                have k2 := hC8.c2
                have HR8 := Lib.hid (HR.out.below hBP.out)
                have hO8 := hO.out.below hBP.out
                have HO8 := Lib.hid hO8
                have hB8 := Lib.hid (hB.out.trans (hBP.out.mono hB.out.size))
                have HC8 := Lib.hid hC8
                have HPL := Lib.hid (partM_len (x := x) (cls := cls) hkl)
                clear hC8 hO8
                by_cases hlk : k < r.length
                case pos =>
                  obtain ⟨y, hy⟩ : ∃ x, r[k]? = some x := ⟨_, List.getElem?_eq_getElem hlk⟩
                  have HY := Lib.hid hy
                  have hyb := HRB.out y (List.mem_of_getElem? hy)
                  obtain ⟨yn, rfl⟩ : ∃ yn : Nat, y = (yn : Int) := ⟨y.toNat, by omega⟩
                  have hyl : (yn : Int) < (cls.length : Int) := by have := HCL.out; omega
                  have hyl2 : yn < cls.length := by have := HCL.out; omega
                  have hy0 : (0 : Int) ≤ (yn : Int) := Int.natCast_nonneg _
                  obtain ⟨z, hz⟩ : ∃ z, cls[yn]? = some z := ⟨_, List.getElem?_eq_getElem hyl2⟩
                  have HZ : Hid (partM x r cls (k + 1) = partM x r cls k ++ [z]) := by
                    show _ = _
                    rw [partM_succ hy]
                    congr 2
                    rw [Int.toNat_natCast, List.getD_eq_getElem?_getD, hz]
                    rfl
                  obtain ⟨pa, off, hpa, q, s, c, p1, hcl⟩ := seq_row (HS.out.below hB8.out) HRR.out hr0
                  have p2 := hcl k _ hy
                  have p3 := old_cell hBP.out (HCC.out yn z hz)
                  rw [hpa] at k1
                  have hdk : decide ((k : Int) < b) = true := decide_eq_true (by have := HRL.out; omega)
                  have hk0 : (0 : Int) ≤ (k : Int) := Int.natCast_nonneg _
                  have hkr : (k : Int) < (r.length : Int) := by omega
                  have hin : (i : Int) < (rows.length : Int) := by omega
                  clear hy hyb hz hpa hcl
                  obtain ⟨pa', pc', rfl, _⟩ := hP.out.form
                  have hZP := hBP.out.size
                  go_wp2_with (at_builtin; refine append_one (enc := Value.int .i64) (e := 3) wr rfl _ _ 23 rfl W6.heap.size i0 (.int .i64 0) 8 Try.underlying23 hi hz0 hz1 hz2 rfl (.slice pa' (partM x r cls k).length pc') (partM x r cls k) rfl hP.out z rfl (fun _ => rfl) (by rw [HPL.out]; omega) (by rw [HPL.out]; omega) hZP ?_; intro v' w' hown' hgrow')
                  have hB9 : Hid (Below W6.heap.size W6 w') := hP.out.frame hBP.out (Nat.le_refl _) hgrow'
                  have hO9 : Hid (Has (Value.int .i64) 3 w' W6.heap.size v' (partM x r cls (k + 1))) := by show Has _ _ _ _ _ _; rw [HZ.out]; exact hown'
                  clear hown' hgrow' k0 k1 k2 p1 p2 p3 hZP
                  go_wp2
                  go_roundw
                  case rel => exact ⟨k + 1, by omega, by go_num, hO9, hB9⟩
                  case measure => simp [intOf]; omega
                case neg =>
                  obtain rfl : k = r.length := by omega
                  have hdk : decide ((r.length : Int) < b) = false := decide_eq_false (by have := HRL.out; omega)
                  have HPE := Lib.hid (partM_end HRR.out HXX.out)
                  have HKS := Lib.hid (keysM_succ rows cls i)
                  have HKN := Lib.hid (keysM_len rows cls i)
                  have HU := Lib.hid (hP.out.mono HR.out.hi_le.2)
                  obtain ⟨pa', pc', rfl, _⟩ := hP.out.form
                  clear hlk hkl
                  go_wp2_with (at_builtin; refine wpList_append_row (wr := wr) rfl _ _ 22 rfl i2 Try.underlying22 hi2 hz20 hz21 hz22 (.slice ra (keysM rows cls i).length rc) rfl HR8.out (.slice pa' (partM x r cls r.length).length pc') (partM x r cls r.length) HU.out _ rfl rfl (by rw [HKN.out]; omega) ?_; intro v' w' hv' hg')
                  have hB9 : Hid (Below w.heap.size w w') := HR8.out.frame hB8.out (Nat.le_succ _) hg'
                  have hC9 := Lib.hid (HR8.out.c3 HC8.out (by decide) hg')
                  have hO9 := Lib.hid (HR8.out.other HO8.out hg')
                  have hR9 : Hid (∃ hi, HasRows w' (w.heap.size + 1) hi v' (keysM rows cls (i + 1))) := ⟨_, by rw [HKS.out, ← HPE.out]; exact hv'⟩
                  clear hv' hg' k0 k1 k2
                  go_wp2
                  go_roundw
                  case rel => exact ⟨i + 1, by omega, by go_num, hR9, hO9, hC9, hB9⟩
                  case measure => simp [intOf]; omega
theorem spec_class_no (v : Value) (b : Int) (rows : List (List Int)) (out : List Int) (w : World) (h : LiesS w v b rows out) (hq : seqB b rows out = false) :
    Calls Try.prog 82 #[v] w (Gives (Value.int .i64) 3 [] w) := by
  have HS := Lib.hid h
  obtain ⟨an, cn, ao, co, rfl⟩ := h.form
  clear h
  have HB : Hid (Below w.heap.size w (w.alloc (Obj.cells #[Value.int .i64 b, Value.slice an rows.length cn, Value.slice ao out.length co] 27))) := (Below.refl _ _).alloc (Nat.le_refl _) _
  have HC := Lib.hid (Cells3.new w 27 (.int .i64 b) (.slice an rows.length cn) (.slice ao out.length co))
  have HQ := Lib.hid hq
  have k0 := HC.out.c0
  have k1 := HC.out.c1
  have k2 := HC.out.c2
  clear hq HC
  go_enter Try.func82, Try.ntmps82
  go_wp2_with fail
  refine (spec_is _ b rows out _ (HS.out.below HB.out)).mono ?_
  rintro e W1 ⟨rfl, b1⟩
  rw [HQ.out]
  have HB1 := Lib.hid (HB.out.trans (b1.mono HB.out.size))
  have HX : Hid (Has (Value.int .i64) 3 (W1.alloc (.cells #[] 3)) w.heap.size (.slice (some ⟨W1.heap.size, 0, none⟩) 0 0) []) := has_lit0 (enc := Value.int .i64) rfl HB1.out.size
  have HB2 : Hid (Below w.heap.size w (W1.alloc (.cells #[] 3))) := HB1.out.alloc HB1.out.size _
  clear b1
  go_wp2
  go_ret
  exact ⟨_, rfl, HX.out, HB2.out⟩
theorem spec_class (v : Value) (b : Int) (rows : List (List Int)) (out : List Int) (w : World) (h : LiesS w v b rows out) : Calls Try.prog 82 #[v] w (Gives (Value.int .i64) 3 (classV b rows out) w) := by
  cases hq : seqB b rows out with
  | false => rw [classV, if_neg (by simp [hq])]; exact spec_class_no v b rows out w h hq
  | true => rw [classV, if_pos hq]; exact spec_class_yes v b rows out w h hq
end Mins
end Go.Proofs.Ythnmighlgifoeaa
