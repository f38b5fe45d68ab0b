/- Several texts of this proof, one behind the other: each says ahead of it what it shows and under which conditions. -/
import Derived.Test.YtpndclpmhelikaaMM6
import Derived.Test.YtpndclpmhelikaaMM5
import Derived.Test.YtpndclpmhelikaaMM1
import Derived.Test.YtpndclpmhelikaaMM4
/- Contract of the model's StateClasses. No conditions beyond those that each states. -/
namespace Go.Proofs.Ytpndclpmhelikaa
open Go.ChangeShapes Go.WideShapes Go.ChangeAt Go.RowKit
open Go.PlainAid Plain
set_option linter.unusedVariables false
namespace Mins
open Seqs
def keys0 (out : List Int) (i : Nat) : List (List Int) := (out.take i).map fun o => [o]
def keysM (rows : List (List Int)) (cls : List Int) (i : Nat) : List (List Int) := (List.range i).map (keyM rows cls)
theorem keys0_succ {out : List Int} {i : Nat} {o : Int} (h : out[i]? = some o) : keys0 out (i + 1) = keys0 out i ++ [[o]] := by
  rw [keys0, take_snoc' h, List.map_append]
  rfl
theorem keys0_len {out : List Int} {i : Nat} (h : i ≤ out.length) : (keys0 out i).length = i := by simp [keys0]; omega
theorem keysM_succ (rows : List (List Int)) (cls : List Int) (i : Nat) : keysM rows cls (i + 1) = keysM rows cls i ++ [keyM rows cls i] := by simp [keysM, List.range_succ]
theorem keysM_len (rows : List (List Int)) (cls : List Int) (i : Nat) : (keysM rows cls i).length = i := by simp [keysM]
/-- A key in the making. -/
def partM (x : Int) (r cls : List Int) (k : Nat) : List Int := x :: (r.take k).map fun y => cls.getD y.toNat 0
theorem partM_succ {x y : Int} {r cls : List Int} {k : Nat} (h : r[k]? = some y) : partM x r cls (k + 1) = partM x r cls k ++ [cls.getD y.toNat 0] := by
  rw [partM, take_snoc' h, List.map_append]
  rfl
theorem partM_len {x : Int} {r cls : List Int} {k : Nat} (h : k ≤ r.length) : (partM x r cls k).length = k + 1 := by simp [partM]; omega
theorem partM_end {rows : List (List Int)} {cls r : List Int} {i : Nat} {x : Int} (hr : rows[i]? = some r) (hx : cls[i]? = some x) : partM x r cls r.length = keyM rows cls i := by
  rw [partM, List.take_length, keyM, List.getD_eq_getElem?_getD, List.getD_eq_getElem?_getD, hx, hr]
  rfl
theorem clsM_len {rows : List (List Int)} {out : List Int} (h : out.length = rows.length) : ∀ k, (clsM rows out k).length = rows.length
  | 0 => by rw [clsM, numb_len, List.length_map, h]
  | k + 1 => by rw [clsM, numb_len, List.length_map, List.length_range]
set_option maxRecDepth 100000 in
set_option maxHeartbeats 2000000 in
theorem spec_class_yes (v : Value) (b : Int) (rows : List (List Int)) (out : List Int) (w : World) (h : LiesS w v b rows out) (hq : seqB b rows out = true) :
    Calls Try.prog 15 #[v] w (Gives (Value.int .i64) 3 (classes rows out) w) := by
  obtain ⟨i0, hi, hz0, hz1, hz2⟩ := info_parts Ints.infoI
  obtain ⟨i2, hi2, hz20, hz21, hz22⟩ := info_parts infoR
  have HS := Lib.hid h
  obtain ⟨an, cn, ao, co, rfl⟩ := h.form
  clear h
  have HB : Hid (Below w.heap.size w (w.alloc (Obj.cells #[Value.int .i64 b, Value.slice an rows.length cn, Value.slice ao out.length co] 27))) := (Below.refl _ _).alloc (Nat.le_refl _) _
  have HC := Lib.hid (Cells3.new w 27 (.int .i64 b) (.slice an rows.length cn) (.slice ao out.length co))
  have HQ := Lib.hid hq
  have HV := Lib.hid (seqB_out hq)
  have HA := Lib.hid (seqB_out hq).auto
  have hn16 : rows.length ≤ 16 := HV.out.2.2.2.1
  have hol : out.length = rows.length := HV.out.2.2.2.2.1
  have HOL := Lib.hid hol
  have hb2 : 2 ≤ b := HV.out.1
  have hb4 : b ≤ 4 := HV.out.2.1
  have ho16 : out.length ≤ 16 := by omega
  have k0 := HC.out.c0
  have k1 := HC.out.c1
  have k2 := HC.out.c2
  clear hq hol
  go_enter Try.func15, Try.ntmps15
  go_wp2_with fail
  refine (spec_is _ b rows out _ (HS.out.below HB.out)).mono ?_
  rintro e W1 ⟨rfl, b1⟩
  rw [HQ.out]
  have HB1 := Lib.hid (HB.out.trans (b1.mono HB.out.size))
  have HC1 := Lib.hid (HC.out.below b1)
  clear b1 HB HC k0 k1 k2
  have hR : Hid (HasRows (W1.alloc (.cells #[] 25)) (w.heap.size + 1) W1.heap.size (.slice (some ⟨W1.heap.size, 0, none⟩) 0 0) (keys0 out 0)) := by
    have h1 : w.heap.size + 1 ≤ W1.heap.size := by have := HC1.out.lt; omega
    exact (HasRows.nil (has_lit0 (enc := id) (e := 25) rfl h1) (by simp; omega)).lift h1 (by simp)
  have hB : Hid (Below w.heap.size w (W1.alloc (.cells #[] 25))) := HB1.out.alloc HB1.out.size _
  have hC := Lib.hid (HC1.out.alloc (.cells #[] 25))
  go_wp2_with fail
  obtain ⟨W2, hW2⟩ : ∃ W, W = W1.alloc (.cells #[] 25) := ⟨_, rfl⟩
  rw [← hW2] at hR hB hC ⊢
  have hR : Hid (∃ hi, HasRows W2 (w.heap.size + 1) hi (.slice (some ⟨W1.heap.size, 0, none⟩) 0 0) (keys0 out 0)) := ⟨_, hR.out⟩
  clear hW2 HB1 HC1
  go_loopw [3, 4] (fun o' i' wr => ∃ i : Nat, i ≤ out.length ∧ i' = .int .i64 i ∧ Hid (∃ hi, HasRows wr (w.heap.size + 1) hi o' (keys0 out i)) ∧ Hid (Cells3 wr w.heap.size 27 (.int .i64 b) (.slice an rows.length cn) (.slice ao out.length co)) ∧ Hid (Below w.heap.size w wr)) (fun _ i' _ => out.length - (intOf i').toNat)
  case atStart => exact ⟨0, Nat.zero_le _, rfl, hR, hC, hB⟩
  case round =>
    clear hR hB hC
    obtain ⟨i, hil, rfl, hR, hC, hB⟩ := hrel
    obtain ⟨hi', hR'⟩ := hR.out
    obtain ⟨ra, rc, rfl⟩ := hR'.form
    have HR := Lib.hid hR'
    clear hR hR'
    have k0 := hC.out.c0
    have k1 := hC.out.c1
    have k2 := hC.out.c2
    by_cases hlt : i < out.length
    case pos =>
      obtain ⟨o, ho⟩ : ∃ x, out[i]? = some x := ⟨_, List.getElem?_eq_getElem hlt⟩
      have HO := Lib.hid ho
      have HK0 := Lib.hid (keys0_succ ho)
      have HKL := Lib.hid (keys0_len hil)
      obtain ⟨q', s', hao, o1⟩ := HS.out.cells.2 i o ho
      have o1' := old_cell hB.out o1
      have hlt2 : (i : Int) < (out.length : Int) := by omega
      have hi0 : (0 : Int) ≤ (i : Int) := Int.natCast_nonneg _
      rw [hao] at k2
      have HR2 := Lib.hid (HR.out.below ((Below.refl _ _).alloc (Nat.le_refl _) (.cells #[.int .i64 o] 3)))
      have HU : Hid (Has (Value.int .i64) 3 (wr.alloc (.cells #[.int .i64 o] 3)) hi' (.slice (some ⟨wr.heap.size, 0, none⟩) 1 1) [o]) := has_lit1 (enc := Value.int .i64) o rfl HR.out.hi_le.2
      clear ho o1 hao
      go_wp2_with (at_builtin; refine wpList_append_row rfl _ _ 24 rfl i2 Try.underlying24 hi2 hz20 hz21 hz22 (.slice ra (keys0 out i).length rc) rfl HR2.out (.slice (some ⟨wr.heap.size, 0, none⟩) 1 1) [o] HU.out _ rfl (by simp) (by rw [HKL.out]; omega) ?_; intro v' w' hv' hg')
      have hB4 : Hid (Below w.heap.size w w') := HR2.out.frame (hB.out.alloc hB.out.size _) (Nat.le_succ _) hg'
      have hC4 := Lib.hid (HR2.out.c3 (hC.out.alloc _) (by decide) hg')
      have hR4 : Hid (∃ hi, HasRows w' (w.heap.size + 1) hi v' (keys0 out (i + 1))) := ⟨_, by rw [HK0.out]; exact hv'⟩
      clear hv' hg' HR2 HU k0 k1 k2 o1'
      go_wp2
      go_roundw
      case rel => exact ⟨i + 1, by omega, by go_num, hR4, hC4, hB4⟩
      case measure => simp [intOf]; omega
    case neg =>
      obtain rfl : i = out.length := by omega
      have HKK : Hid (keys0 out out.length = out.map fun o => [o]) := by show _ = _; rw [keys0, List.take_length]
      have HNU := Lib.hid (number_any _ _ _ HR.out.liesR (by rw [keys0_len (Nat.le_refl _)]; omega))
      go_wp2_with fail
      refine (HNU.out).mono ?_
      rintro e W3 ⟨vc, rfl, hvc, b3⟩
      have hZ1 : Hid (w.heap.size + 1 ≤ wr.heap.size) := by have := hC.out.lt; show _ ≤ _; omega
      have hO3 : Hid (Has (Value.int .i64) 3 W3 (w.heap.size + 1) vc (clsM rows out 0)) := by
        have h1 := hvc.mono hZ1.out
        rw [HKK.out] at h1
        exact h1
      have hC3 := Lib.hid (hC.out.below b3)
      have hB3 := Lib.hid (hB.out.trans (b3.mono hB.out.size))
      clear hvc b3 HR hC hB k0 k1 k2 HNU hZ1
      go_wp2_with fail
      go_loopw [5, 6] (fun c' n' wr => ∃ n : Nat, n ≤ rows.length ∧ n' = .int .i64 n ∧ Hid (Has (Value.int .i64) 3 wr (w.heap.size + 1) c' (clsM rows out n)) ∧ Hid (Cells3 wr w.heap.size 27 (.int .i64 b) (.slice an rows.length cn) (.slice ao out.length co)) ∧ Hid (Below w.heap.size w wr)) (fun _ n' _ => rows.length - (intOf n').toNat)
      case atStart => exact ⟨0, Nat.zero_le _, rfl, hO3, hC3, hB3⟩
      case round =>
        clear hO3 hC3 hB3
        obtain ⟨n, hnl, rfl, hO, hC, hB⟩ := hrel
        obtain ⟨W4, rfl⟩ : ∃ W : World, W = wr := ⟨_, rfl⟩
        obtain ⟨cls, hcls⟩ : ∃ c, c = clsM rows out n := ⟨_, rfl⟩
        have HCLS := Lib.hid hcls
        have HCL : Hid (cls.length = rows.length) := by show _ = _; rw [hcls]; exact clsM_len HOL.out n
        rw [← hcls] at hO
        obtain ⟨ca, cc, rfl, _⟩ := hO.out.form
        have k0 := hC.out.c0
        have k1 := hC.out.c1
        have k2 := hC.out.c2
        by_cases hlt : n < rows.length
        case neg =>
          obtain rfl : n = rows.length := by omega
          have HX : Hid (Has (Value.int .i64) 3 W4 w.heap.size (.slice ca cls.length cc) (classes rows out)) := by
            have h1 := hO.out.mono (Nat.le_succ w.heap.size)
            rw [← clsM_end HA.out]
            rw [hcls] at h1 ⊢
            exact h1
          clear hcls
          go_wp2
          go_ret
          exact ⟨_, rfl, HX.out, hB.out⟩
        case pos =>
          clear hcls
          have hZ1 : Hid (w.heap.size + 1 ≤ W4.heap.size) := by have := hC.out.lt; show _ ≤ _; omega
          have hR : Hid (∃ hi, HasRows (W4.alloc (.cells #[] 25)) (w.heap.size + 1) hi (.slice (some ⟨W4.heap.size, 0, none⟩) 0 0) (keysM rows cls 0)) := by
            exact ⟨_, (HasRows.nil (has_lit0 (enc := id) (e := 25) rfl hZ1.out) (by simp; have := hZ1.out; omega)).lift hZ1.out (by simp)⟩
          have hB5 : Hid (Below w.heap.size w (W4.alloc (.cells #[] 25))) := hB.out.alloc hB.out.size _
          have hC5 := Lib.hid (hC.out.alloc (.cells #[] 25))
          have hO5 := Lib.hid (has_alloc hO.out (.cells #[] 25))
          clear hB hC hO
          go_wp2
          obtain ⟨W5, hW5⟩ : ∃ W, W = W4.alloc (.cells #[] 25) := ⟨_, rfl⟩
          rw [← hW5] at hR hB5 hC5 hO5 ⊢
          clear hW5 k0 k1 k2
          go_loopw [3, 7] (fun o' i' wr => ∃ i : Nat, i ≤ rows.length ∧ i' = .int .i64 i ∧ Hid (∃ hi, HasRows wr (w.heap.size + 1) hi o' (keysM rows cls i)) ∧ Hid (Has (Value.int .i64) 3 wr (w.heap.size + 1) (.slice ca cls.length cc) cls) ∧ Hid (Cells3 wr w.heap.size 27 (.int .i64 b) (.slice an rows.length cn) (.slice ao out.length co)) ∧ Hid (Below w.heap.size w wr)) (fun _ i' _ => rows.length - (intOf i').toNat)
          case atStart => exact ⟨0, Nat.zero_le _, rfl, hR, hO5, hC5, hB5⟩
          case round =>
            clear hR hO5 hC5 hB5
            obtain ⟨i, hil, rfl, hR, hO, hC, hB⟩ := hrel
            obtain ⟨W6, rfl⟩ : ∃ W : World, W = wr := ⟨_, rfl⟩
            obtain ⟨hi', hR'⟩ := hR.out
            obtain ⟨ra, rc, rfl⟩ := hR'.form
            have HR := Lib.hid hR'
            clear hR hR'
            have k0 := hC.out.c0
            have k1 := hC.out.c1
            have k2 := hC.out.c2
            by_cases hlt3 : i < rows.length
            case neg =>
              obtain rfl : i = rows.length := by omega
              have HNU := Lib.hid (number_any _ _ _ HR.out.liesR (by rw [keysM_len]; omega))
              go_wp2_with fail
              refine (HNU.out).mono ?_
              rintro e W7 ⟨vc', rfl, hvc, b3⟩
              have hZ2 : Hid (w.heap.size + 1 ≤ W6.heap.size) := by have := hC.out.lt; show _ ≤ _; omega
              have hO7 : Hid (Has (Value.int .i64) 3 W7 (w.heap.size + 1) vc' (clsM rows out (n + 1))) := by
                show Has _ _ _ _ _ _
                rw [clsM, ← HCLS.out]
                exact hvc.mono hZ2.out
              have hC7 := Lib.hid (hC.out.below b3)
              have hB7 := Lib.hid (hB.out.trans (b3.mono hB.out.size))
              clear hvc b3 HR hC hB hO k0 k1 k2 HNU
              go_wp2
              go_roundw
              case rel => exact ⟨n + 1, by omega, by go_num, hO7, hC7, hB7⟩
              case measure => simp [intOf]; omega
            case pos =>
              obtain ⟨x, hx⟩ : ∃ x, cls[i]? = some x := ⟨_, List.getElem?_eq_getElem (by have := HCL.out; omega)⟩
              obtain ⟨r, hr⟩ : ∃ r, rows[i]? = some r := ⟨_, List.getElem?_eq_getElem hlt3⟩
              have HXX := Lib.hid hx
              have HRR := Lib.hid hr
              have hrl : (r.length : Int) = b := (HV.out.2.2.2.2.2.1 r (List.mem_of_getElem? hr)).1
              have HRB := Lib.hid (HV.out.2.2.2.2.2.1 r (List.mem_of_getElem? hr)).2
              have hr0 : 0 < r.length := by omega
              have hr4 : r.length ≤ 4 := by omega
              have HRL := Lib.hid hrl
              obtain ⟨cq, cs, cc', hcv, hcc⟩ := ints_at hO.out.lies (by have := HCL.out; omega)
              injection hcv with f1 f2 f3
              have o1 := hcc i x hx
              have HCC := Lib.hid hcc
              have hcl1 : (i : Int) < (cls.length : Int) := by have := HCL.out; omega
              have hcl2 : i < cls.length := by have := HCL.out; omega
              have hi0 : (0 : Int) ≤ (i : Int) := Int.natCast_nonneg _
              subst f1
              have hP : Hid (Has (Value.int .i64) 3 (W6.alloc (.cells #[.int .i64 x] 3)) W6.heap.size (.slice (some ⟨W6.heap.size, 0, none⟩) 1 1) (partM x r cls 0)) := has_lit1 (enc := Value.int .i64) x rfl (Nat.le_refl _)
              have hBP : Hid (Below W6.heap.size W6 (W6.alloc (.cells #[.int .i64 x] 3))) := (Below.refl _ _).alloc (Nat.le_refl _) _
              clear hx hr hrl hcc f2 f3
              go_wp2
              obtain ⟨W7, hW7⟩ : ∃ W, W = W6.alloc (.cells #[.int .i64 x] 3) := ⟨_, rfl⟩
              rw [← hW7] at hP hBP ⊢
              clear hW7 k0 k1 k2 o1
              go_loopw [8, 9] (fun p' k' wr => ∃ k : Nat, k ≤ r.length ∧ k' = .int .i64 k ∧ Hid (Has (Value.int .i64) 3 wr W6.heap.size p' (partM x r cls k)) ∧ Hid (Below W6.heap.size W6 wr)) (fun _ k' _ => r.length - (intOf k').toNat)
              case atStart => exact ⟨0, Nat.zero_le _, rfl, hP, hBP⟩
              case round =>
                clear hP hBP
                obtain ⟨k, hkl, rfl, hP, hBP⟩ := hrel
                have hC8 := hC.out.below hBP.out
                have k0 := hC8.c0
                have k1 := hC8.c1
                have k2 := hC8.c2
                have HR8 := Lib.hid (HR.out.below hBP.out)
                have hO8 := hO.out.below hBP.out
                have HO8 := Lib.hid hO8
                have hB8 := Lib.hid (hB.out.trans (hBP.out.mono hB.out.size))
                have HC8 := Lib.hid hC8
                have HPL := Lib.hid (partM_len (x := x) (cls := cls) hkl)
                clear hC8 hO8
                by_cases hlk : k < r.length
                case pos =>
                  obtain ⟨y, hy⟩ : ∃ x, r[k]? = some x := ⟨_, List.getElem?_eq_getElem hlk⟩
                  have HY := Lib.hid hy
                  have hyb := HRB.out y (List.mem_of_getElem? hy)
                  obtain ⟨yn, rfl⟩ : ∃ yn : Nat, y = (yn : Int) := ⟨y.toNat, by omega⟩
                  have hyl : (yn : Int) < (cls.length : Int) := by have := HCL.out; omega
                  have hyl2 : yn < cls.length := by have := HCL.out; omega
                  have hy0 : (0 : Int) ≤ (yn : Int) := Int.natCast_nonneg _
                  obtain ⟨z, hz⟩ : ∃ z, cls[yn]? = some z := ⟨_, List.getElem?_eq_getElem hyl2⟩
                  have HZ : Hid (partM x r cls (k + 1) = partM x r cls k ++ [z]) := by
                    show _ = _
                    rw [partM_succ hy]
                    congr 2
                    rw [Int.toNat_natCast, List.getD_eq_getElem?_getD, hz]
                    rfl
                  obtain ⟨pa, off, hpa, q, s, c, p1, hcl⟩ := seq_row (HS.out.below hB8.out) HRR.out hr0
                  have p2 := hcl k _ hy
                  have p3 := old_cell hBP.out (HCC.out yn z hz)
                  rw [hpa] at k1
                  have hdk : decide ((k : Int) < b) = true := decide_eq_true (by have := HRL.out; omega)
                  have hk0 : (0 : Int) ≤ (k : Int) := Int.natCast_nonneg _
                  have hkr : (k : Int) < (r.length : Int) := by omega
                  have hin : (i : Int) < (rows.length : Int) := by omega
                  clear hy hyb hz hpa hcl
                  obtain ⟨pa', pc', rfl, _⟩ := hP.out.form
                  have hZP := hBP.out.size
                  go_wp2_with (at_builtin; refine append_one (enc := Value.int .i64) (e := 3) wr rfl _ _ 25 rfl W6.heap.size i0 (.int .i64 0) 8 Try.underlying25 hi hz0 hz1 hz2 rfl (.slice pa' (partM x r cls k).length pc') (partM x r cls k) rfl hP.out z rfl (fun _ => rfl) (by rw [HPL.out]; omega) (by rw [HPL.out]; omega) hZP ?_; intro v' w' hown' hgrow')
                  have hB9 : Hid (Below W6.heap.size W6 w') := hP.out.frame hBP.out (Nat.le_refl _) hgrow'
                  have hO9 : Hid (Has (Value.int .i64) 3 w' W6.heap.size v' (partM x r cls (k + 1))) := by show Has _ _ _ _ _ _; rw [HZ.out]; exact hown'
                  clear hown' hgrow' k0 k1 k2 p1 p2 p3 hZP
                  go_wp2
                  go_roundw
                  case rel => exact ⟨k + 1, by omega, by go_num, hO9, hB9⟩
                  case measure => simp [intOf]; omega
                case neg =>
                  obtain rfl : k = r.length := by omega
                  have hdk : decide ((r.length : Int) < b) = false := decide_eq_false (by have := HRL.out; omega)
                  have HPE := Lib.hid (partM_end HRR.out HXX.out)
                  have HKS := Lib.hid (keysM_succ rows cls i)
                  have HKN := Lib.hid (keysM_len rows cls i)
                  have HU := Lib.hid (hP.out.mono HR.out.hi_le.2)
                  obtain ⟨pa', pc', rfl, _⟩ := hP.out.form
                  clear hlk hkl
                  go_wp2_with (at_builtin; refine wpList_append_row (wr := wr) rfl _ _ 24 rfl i2 Try.underlying24 hi2 hz20 hz21 hz22 (.slice ra (keysM rows cls i).length rc) rfl HR8.out (.slice pa' (partM x r cls r.length).length pc') (partM x r cls r.length) HU.out _ rfl rfl (by rw [HKN.out]; omega) ?_; intro v' w' hv' hg')
                  have hB9 : Hid (Below w.heap.size w w') := HR8.out.frame hB8.out (Nat.le_succ _) hg'
                  have hC9 := Lib.hid (HR8.out.c3 HC8.out (by decide) hg')
                  have hO9 := Lib.hid (HR8.out.other HO8.out hg')
                  have hR9 : Hid (∃ hi, HasRows w' (w.heap.size + 1) hi v' (keysM rows cls (i + 1))) := ⟨_, by rw [HKS.out, ← HPE.out]; exact hv'⟩
                  clear hv' hg' k0 k1 k2
                  go_wp2
                  go_roundw
                  case rel => exact ⟨i + 1, by omega, by go_num, hR9, hO9, hC9, hB9⟩
                  case measure => simp [intOf]; omega
theorem spec_class_no (v : Value) (b : Int) (rows : List (List Int)) (out : List Int) (w : World) (h : LiesS w v b rows out) (hq : seqB b rows out = false) :
    Calls Try.prog 15 #[v] w (Gives (Value.int .i64) 3 [] w) := by
  have HS := Lib.hid h
  obtain ⟨an, cn, ao, co, rfl⟩ := h.form
  clear h
  have HB : Hid (Below w.heap.size w (w.alloc (Obj.cells #[Value.int .i64 b, Value.slice an rows.length cn, Value.slice ao out.length co] 27))) := (Below.refl _ _).alloc (Nat.le_refl _) _
  have HC := Lib.hid (Cells3.new w 27 (.int .i64 b) (.slice an rows.length cn) (.slice ao out.length co))
  have HQ := Lib.hid hq
  have k0 := HC.out.c0
  have k1 := HC.out.c1
  have k2 := HC.out.c2
  clear hq HC
  go_enter Try.func15, Try.ntmps15
  go_wp2_with fail
  refine (spec_is _ b rows out _ (HS.out.below HB.out)).mono ?_
  rintro e W1 ⟨rfl, b1⟩
  rw [HQ.out]
  have HB1 := Lib.hid (HB.out.trans (b1.mono HB.out.size))
  have HX : Hid (Has (Value.int .i64) 3 (W1.alloc (.cells #[] 3)) w.heap.size (.slice (some ⟨W1.heap.size, 0, none⟩) 0 0) []) := has_lit0 (enc := Value.int .i64) rfl HB1.out.size
  have HB2 : Hid (Below w.heap.size w (W1.alloc (.cells #[] 3))) := HB1.out.alloc HB1.out.size _
  clear b1
  go_wp2
  go_ret
  exact ⟨_, rfl, HX.out, HB2.out⟩
theorem spec_class (v : Value) (b : Int) (rows : List (List Int)) (out : List Int) (w : World) (h : LiesS w v b rows out) : Calls Try.prog 15 #[v] w (Gives (Value.int .i64) 3 (classV b rows out) w) := by
  cases hq : seqB b rows out with
  | false => rw [classV, if_neg (by simp [hq])]; exact spec_class_no v b rows out w h hq
  | true => rw [classV, if_pos hq]; exact spec_class_yes v b rows out w h hq
end Mins
end Go.Proofs.Ytpndclpmhelikaa
/- Contract of the model's MinimalForm. No conditions beyond those that each states. -/
namespace Go.Proofs.Ytpndclpmhelikaa
open Go.ChangeShapes Go.WideShapes Go.ChangeAt Go.RowKit
open Go.PlainAid Plain
set_option linter.unusedVariables false
namespace Mins
open Seqs
set_option maxHeartbeats 1000000 in
theorem spec_min_no (v : Value) (b : Int) (rows : List (List Int)) (out : List Int) (w : World) (h : LiesS w v b rows out) (hs : rows.length + tot rows + out.length ≤ 1048576) (hk : formK b rows out = false) :
    Calls Try.prog 7 #[v] w (GivesK 0 [] [] false w) := by
  have HS := Lib.hid h
  obtain ⟨an, cn, ao, co, rfl⟩ := h.form
  clear h
  have HB : Hid (Below w.heap.size w (w.alloc (Obj.cells #[Value.int .i64 b, Value.slice an rows.length cn, Value.slice ao out.length co] 27))) := (Below.refl _ _).alloc (Nat.le_refl _) _
  have HC := Lib.hid (Cells3.new w 27 (.int .i64 b) (.slice an rows.length cn) (.slice ao out.length co))
  have HK := Lib.hid hk
  have HFP : Hid (formB b rows out = 0 ∧ formR b rows out = [] ∧ formO b rows out = []) := by
    rcases form_parts b rows out with ⟨_, h1, _⟩ | ⟨_, h1, h2, h3⟩ | ⟨_, _, _, h1, _⟩
    · rw [hk] at h1; cases h1
    · exact ⟨h1, h2, h3⟩
    · rw [hk] at h1; cases h1
  have HSZ := Lib.hid hs
  have HB1 := Lib.hid (HB.out.alloc (by simp) (Obj.cells #[Value.int .i64 0, Value.slice none 0 0, Value.slice none 0 0] 27))
  have HC1 := Lib.hid (HC.out.alloc (Obj.cells #[Value.int .i64 0, Value.slice none 0 0, Value.slice none 0 0] 27))
  have hZ := Cells3.new (w.alloc (Obj.cells #[Value.int .i64 b, Value.slice an rows.length cn, Value.slice ao out.length co] 27)) 27 (.int .i64 0) (.slice none 0 0) (.slice none 0 0)
  rw [size_alloc'] at hZ
  have HZ1 := Lib.hid hZ
  have k0 := HC1.out.c0
  have k1 := HC1.out.c1
  have k2 := HC1.out.c2
  clear hZ HB HC hk hs
  go_enter Try.func7, Try.ntmps7
  go_wp2_with fail
  refine (spec_form _ b rows out _ (HS.out.below HB1.out) HSZ.out).mono ?_
  rintro e W1 ⟨v1, rfl, hv1, b1⟩
  rw [HFP.out.1, HFP.out.2.1, HFP.out.2.2] at hv1
  obtain ⟨a1, c1, a2, c2, rfl⟩ := hv1.form
  rw [HK.out]
  have HB2 := Lib.hid (HB1.out.trans (b1.mono HB1.out.size))
  have hZ2 := HZ1.out.below b1
  have HZ2 := Lib.hid (hZ2.alloc (Obj.cells #[Value.int .i64 0, Value.slice a1 ([] : List (List Int)).length c1, Value.slice a2 ([] : List Int).length c2] 27))
  have HB3 := Lib.hid (HB2.out.alloc HB2.out.size (Obj.cells #[Value.int .i64 0, Value.slice a1 ([] : List (List Int)).length c1, Value.slice a2 ([] : List Int).length c2] 27))
  simp only [List.length_nil] at HZ2 HB3
  have z0 := HZ2.out.c0
  have z1 := HZ2.out.c1
  have z2 := HZ2.out.c2
  have z3 := HZ2.out.f
  clear hv1 b1 hZ2 k0 k1 k2 HB1 HC1 HZ1
  go_wp2
  have hZ3 := (((HZ2.out.set0 (.int .i64 0)).set1 (.slice none 0 0)).set2 (.slice none 0 0))
  have n0 := hZ3.c0
  have n1 := hZ3.c1
  have n2 := hZ3.c2
  refine bodyPost_ret (v := .tuple #[.agg #[.int .i64 0, .slice none 0 0, .slice none 0 0], .bool false]) (by simp [results, Try.results7, go_sem, n0, n1, n2]) rfl ⟨_, rfl, OwnS.zero _, ?_⟩
  exact ((HB3.out.setCell (by show _ ≤ _ + 1; omega) _).setCell (by show _ ≤ _ + 1; omega) _).setCell (by show _ ≤ _ + 1; omega) _
set_option maxRecDepth 100000 in
set_option maxHeartbeats 4000000 in
theorem spec_min_yes (v : Value) (b : Int) (rows : List (List Int)) (out : List Int) (w : World) (h : LiesS w v b rows out) (hs : rows.length + tot rows + out.length ≤ 1048576) (hk : formK b rows out = true) :
    Calls Try.prog 7 #[v] w (GivesK (formB b rows out) (minR (formR b rows out) (formO b rows out)) (minO (formR b rows out) (formO b rows out)) true w) := by
  obtain ⟨i0, hi0, hz0, hz1, hz2⟩ := info_parts Ints.infoI
  obtain ⟨i2, hi2, hz20, hz21, hz22⟩ := info_parts infoR
  have HS := Lib.hid h
  obtain ⟨an, cn, ao, co, rfl⟩ := h.form
  clear h
  have HB : Hid (Below w.heap.size w (w.alloc (Obj.cells #[Value.int .i64 b, Value.slice an rows.length cn, Value.slice ao out.length co] 27))) := (Below.refl _ _).alloc (Nat.le_refl _) _
  have HC := Lib.hid (Cells3.new w 27 (.int .i64 b) (.slice an rows.length cn) (.slice ao out.length co))
  have HK := Lib.hid hk
  have HCF := Lib.hid (fun (W : World) (hW : Below w.heap.size w W) => spec_form _ b rows out W (HS.out.below hW) hs)
  have hval := form_valid hk
  obtain ⟨B, hBB⟩ : ∃ B, B = formB b rows out := ⟨_, rfl⟩
  obtain ⟨RR, hRR⟩ : ∃ R, R = formR b rows out := ⟨_, rfl⟩
  obtain ⟨OO, hOO⟩ : ∃ O, O = formO b rows out := ⟨_, rfl⟩
  rw [← hBB, ← hRR, ← hOO, hk] at HCF
  rw [← hBB, ← hRR, ← hOO] at hval ⊢
  clear hBB hRR hOO hk hs
  obtain ⟨bn, rfl⟩ : ∃ bn : Nat, B = (bn : Int) := ⟨B.toNat, by have := hval.1; omega⟩
  have HVAL := Lib.hid hval
  have HA := Lib.hid (show Auto RR OO bn from by have := hval.auto; rw [Int.toNat_natCast] at this; exact this)
  have hb2 : 2 ≤ bn := by have := hval.1; omega
  have hb4 : bn ≤ 4 := by have := hval.2.1; omega
  have hn16 : RR.length ≤ 16 := hval.2.2.2.1
  have hn1 : 1 ≤ RR.length := hval.2.2.1
  have HOL := Lib.hid hval.2.2.2.2.1
  clear hval
  have HB1 := Lib.hid (HB.out.alloc (by simp) (Obj.cells #[Value.int .i64 0, Value.slice none 0 0, Value.slice none 0 0] 27))
  have HC1 := Lib.hid (HC.out.alloc (Obj.cells #[Value.int .i64 0, Value.slice none 0 0, Value.slice none 0 0] 27))
  have hZ := Cells3.new (w.alloc (Obj.cells #[Value.int .i64 b, Value.slice an rows.length cn, Value.slice ao out.length co] 27)) 27 (.int .i64 0) (.slice none 0 0) (.slice none 0 0)
  rw [size_alloc'] at hZ
  have HZ1 := Lib.hid hZ
  have k0 := HC1.out.c0
  have k1 := HC1.out.c1
  have k2 := HC1.out.c2
  clear hZ HB HC
  go_enter Try.func7, Try.ntmps7
  go_wp2_with fail
  refine (HCF.out _ HB1.out).mono ?_
  rintro e W1 ⟨v1, rfl, hv1, b1⟩
  obtain ⟨a1, c1, a2, c2, rfl⟩ := hv1.form
  have HB2 := Lib.hid (HB1.out.trans (b1.mono HB1.out.size))
  have HZ2 := Lib.hid (HZ1.out.below b1)
  have HW1 : Hid (w.heap.size + 2 ≤ W1.heap.size) := by have := HZ2.out.lt; show _ ≤ _; omega
  have HX := Lib.hid hv1.lies
  have hbx : Below W1.heap.size W1 (W1.alloc (Obj.cells #[Value.int .i64 (bn : Int), Value.slice a1 RR.length c1, Value.slice a2 OO.length c2] 27)) := (Below.refl _ _).alloc (Nat.le_refl _) _
  have HXC := Lib.hid (Cells3.new W1 27 (.int .i64 (bn : Int)) (.slice a1 RR.length c1) (.slice a2 OO.length c2))
  obtain ⟨W2, hW2⟩ : ∃ W, W = W1.alloc (Obj.cells #[Value.int .i64 (bn : Int), Value.slice a1 RR.length c1, Value.slice a2 OO.length c2] 27) := ⟨_, rfl⟩
  have HBX := Lib.hid hbx
  have j0 := HXC.out.c0
  have j1 := HXC.out.c1
  have j2 := HXC.out.c2
  clear hv1 b1 hbx k0 k1 k2 HB1 HC1 HZ1
  go_wp2_with fail
  rw [← hW2] at HXC HBX j0 j1 j2 ⊢
  clear hW2
  refine (spec_class_yes _ (bn : Int) RR OO _ (HX.out.below HBX.out) (seqB_yes HVAL.out)).mono ?_
  rintro e W3 ⟨cv, rfl, hcv, b3⟩
  obtain ⟨cls, hcls⟩ : ∃ c, c = classes RR OO := ⟨_, rfl⟩
  have HCE := Lib.hid hcls
  have HCL : Hid (cls.length = RR.length) := by show _ = _; rw [hcls, classes_len]
  rw [← hcls] at hcv
  obtain ⟨ca, cc, rfl, _⟩ := hcv.form
  have HXC3 := Lib.hid (HXC.out.below b3)
  have HBX3 := Lib.hid (HBX.out.trans (b3.mono HBX.out.size))
  have HCV := Lib.hid (hcv.mono (show w.heap.size ≤ W2.heap.size from Nat.le_trans HB2.out.size HBX.out.size))
  have HWX : Hid (W1.heap.size < W3.heap.size) := HXC3.out.lt
  have j0 := HXC3.out.c0
  have j1 := HXC3.out.c1
  have j2 := HXC3.out.c2
  clear hcv b3 hcls HXC HBX
  go_wp2_with fail
  -- the sequence in the making, the order
  have hbp : Below W3.heap.size W3 (W3.alloc (Obj.cells #[Value.int .i64 (bn : Int), Value.slice none 0 0, Value.slice none 0 0] 27)) := (Below.refl _ _).alloc (Nat.le_refl _) _
  have hP := Cells3.new W3 27 (.int .i64 (bn : Int)) (.slice none 0 0) (.slice none 0 0)
  have hO : Has (Value.int .i64) 3 ((W3.alloc (Obj.cells #[Value.int .i64 (bn : Int), Value.slice none 0 0, Value.slice none 0 0] 27)).alloc (.cells #[.int .i64 0] 3)) (W3.alloc (Obj.cells #[Value.int .i64 (bn : Int), Value.slice none 0 0, Value.slice none 0 0] 27)).heap.size (.slice (some ⟨(W3.alloc (Obj.cells #[Value.int .i64 (bn : Int), Value.slice none 0 0, Value.slice none 0 0] 27)).heap.size, 0, none⟩) 1 1) [0] := has_lit1 (enc := Value.int .i64) 0 rfl (Nat.le_refl _)
  have hbo : Below (W3.alloc (Obj.cells #[Value.int .i64 (bn : Int), Value.slice none 0 0, Value.slice none 0 0] 27)).heap.size (W3.alloc (Obj.cells #[Value.int .i64 (bn : Int), Value.slice none 0 0, Value.slice none 0 0] 27)) ((W3.alloc (Obj.cells #[Value.int .i64 (bn : Int), Value.slice none 0 0, Value.slice none 0 0] 27)).alloc (.cells #[.int .i64 0] 3)) := (Below.refl _ _).alloc (Nat.le_refl _) _
  obtain ⟨W4, hW4⟩ : ∃ W, W = W3.alloc (Obj.cells #[Value.int .i64 (bn : Int), Value.slice none 0 0, Value.slice none 0 0] 27) := ⟨_, rfl⟩
  have hsz4 : W4.heap.size = W3.heap.size + 1 := by rw [hW4, size_alloc']
  rw [← hW4] at hbp hP hO hbo
  rw [show (W3.alloc (Obj.cells #[Value.int .i64 (bn : Int), Value.slice none 0 0, Value.slice none 0 0] 27)).alloc (.cells #[.int .i64 0] 3) = W4.alloc (.cells #[.int .i64 0] 3) by rw [hW4]]
  obtain ⟨W5, hW5⟩ : ∃ W, W = W4.alloc (.cells #[.int .i64 0] 3) := ⟨_, rfl⟩
  rw [← hW5] at hO hbo ⊢
  have hb35 : Below W3.heap.size W3 W5 := hbp.trans (hbo.mono hbp.size)
  obtain ⟨xb, hxb⟩ : ∃ x, x = W1.heap.size := ⟨_, rfl⟩
  obtain ⟨p, hp⟩ : ∃ x, x = W3.heap.size := ⟨_, rfl⟩
  obtain ⟨BB, hBB⟩ : ∃ x, x = W3.heap.size + 1 := ⟨_, rfl⟩
  obtain ⟨Q, hQ⟩ : ∃ Q, Q = rowsQ RR OO := ⟨_, rfl⟩
  obtain ⟨R, hR⟩ : ∃ R, R = reached Q := ⟨_, rfl⟩
  have HQ := Lib.hid hQ
  have HRE := Lib.hid hR
  have HNUM := Lib.hid (show w.heap.size + 2 ≤ xb ∧ xb < p ∧ p < BB from by have := HW1.out; have := HWX.out; omega)
  have hR16 : R.length ≤ 16 := by
    rw [hR, hQ]
    have h1 := reached_len (rowsQ_auto HA.out).closed
    have h2 := rowsQ_len RR OO
    omega
  have hM5 : Hid (Making W5 BB W5.heap.size p (bn : Int) (.slice none 0 0) (.slice none 0 0) (.slice (some ⟨BB, 0, none⟩) 1 1) [] ((R.take 0).map (minRow Q R)) ((R.take 0).map fun s => (outQ RR OO).getD s.toNat 0) [0]) := by
    rw [hsz4, ← hBB] at hO
    rw [hp]
    exact Making.start (hP.below hbo) hO (by have := hbo.size; omega)
  have hOR : Hid (Order RR OO [0] (reachI Q 0)) := by rw [hQ]; exact order_start HA.out
  have hCV5 : Hid (OwnI W5 w.heap.size BB (.slice ca cls.length cc) cls) := ⟨HCV.out.below hb35, fun k hk => by have := (HCV.out.lt k hk).2; omega, by have := hbo.size; omega⟩
  have hXC5 : Hid (Cells3 W5 xb 27 (.int .i64 (bn : Int)) (.slice a1 RR.length c1) (.slice a2 OO.length c2)) := by rw [hxb]; exact HXC3.out.below hb35
  have hB5 : Hid (Below xb W1 W5) := by rw [hxb]; exact HBX3.out.trans (hb35.mono HBX3.out.size)
  rw [← hBB, ← hxb, ← hp]
  rw [← hxb] at HW1
  have HB2' : Hid (Below w.heap.size w W1) := HB2
  clear hW4 hsz4 hW5 hbp hP hO hbo hb35 hp hBB hQ hR HCV HXC3 HBX3 HWX j0 j1 j2 HB2
  have HZX : Hid (xb = W1.heap.size) := hxb
  clear hxb
  go_loopw [8, 9] (fun o' i' wr => ∃ (i : Nat) (od : List Int) (vn vo : Value) (us : List Value) (hi : Nat), i ≤ od.length ∧ od.length ≤ 16 ∧ i' = .int .i64 i ∧ Hid (Order RR OO od (reachI Q i)) ∧ Hid (Making wr BB hi p (bn : Int) vn vo o' us ((R.take i).map (minRow Q R)) ((R.take i).map fun s => (outQ RR OO).getD s.toNat 0) od) ∧ Hid (OwnI wr w.heap.size BB (.slice ca cls.length cc) cls) ∧ Hid (Cells3 wr xb 27 (.int .i64 (bn : Int)) (.slice a1 RR.length c1) (.slice a2 OO.length c2)) ∧ Hid (Below xb W1 wr)) (fun _ i' _ => 17 - (intOf i').toNat)
  case atStart => exact ⟨0, [0], _, _, [], W5.heap.size, by simp, by simp, rfl, hOR, hM5, hCV5, hXC5, hB5⟩
  case round =>
    clear hOR hM5 hCV5 hXC5 hB5
    obtain ⟨i, od, vn, vo, us, hi, hil, hod16, rfl, hOR, hM, hCV, hXC, hB⟩ := hrel
    obtain ⟨W6, rfl⟩ : ∃ W : World, W = wr := ⟨_, rfl⟩
    obtain ⟨na, nc, oa, oc, hvn, hvo⟩ := hM.out.form
    obtain ⟨ea, ec, he8, _⟩ := hM.out.extra.has.form
    subst he8
    obtain ⟨l1, hl1⟩ : ∃ l, l = (((R.take i).map (minRow Q R))).length := ⟨_, rfl⟩
    obtain ⟨l2, hl2⟩ : ∃ l, l = (((R.take i).map fun s => (outQ RR OO).getD s.toNat 0)).length := ⟨_, rfl⟩
    have HUSL : Hid (us.length = l1) := by show _ = _; rw [hl1]; exact hM.out.len
    have hl1' : l1 ≤ 16 := by rw [hl1]; simp; omega
    have hl2' : l2 ≤ 16 := by rw [hl2]; simp; omega
    have HL1 := Lib.hid hl1
    have HL2 := Lib.hid hl2
    rw [← hl1] at hvn
    rw [← hl2] at hvo
    subst hvn; subst hvo
    clear hl1 hl2
    have x0 := hXC.out.c0
    have x1 := hXC.out.c1
    have x2 := hXC.out.c2
    by_cases hlt : i < od.length
    case neg =>
      have hoe := order_end HA.out (by rw [← HQ.out]; exact hOR.out) hlt hil
      rw [← HQ.out, ← HRE.out] at hoe
      have HE : Hid (((R.take i).map (minRow Q R)) = minR RR OO ∧ ((R.take i).map fun s => (outQ RR OO).getD s.toNat 0) = minO RR OO) := by
        show _ ∧ _
        rw [hoe.1, List.take_length, HRE.out, HQ.out]
        exact ⟨rfl, rfl⟩
      have HW : Hid (OwnS W6 BB W6.heap.size (.agg #[.int .i64 (bn : Int), .slice na l1 nc, .slice oa l2 oc]) (bn : Int) (minR RR OO) (minO RR OO)) := by
        have h1 := hM.out.building.seq
        rw [HE.out.1, HE.out.2] at h1
        exact h1
      have hP := hM.out.cells
      have m0 := hP.c0
      have m1 := hP.c1
      have m2 := hP.c2
      have hZ6 := c3_of_below hB.out HZ2.out (by have := HNUM.out; omega)
      have HZ6 := Lib.hid hZ6
      have z0 := hZ6.c0
      have z1 := hZ6.c1
      have z2 := hZ6.c2
      have z3 := hZ6.f
      have HB6 : Hid (Below w.heap.size w W6) := HB2'.out.trans (hB.out.mono (by have := HNUM.out; omega))
      clear hP hoe hZ6 x0 x1 x2
      go_wp2
      have hZ3 := (((HZ6.out.set0 (.int .i64 (bn : Int))).set1 (.slice na l1 nc)).set2 (.slice oa l2 oc))
      have n0 := hZ3.c0
      have n1 := hZ3.c1
      have n2 := hZ3.c2
      refine bodyPost_ret (v := .tuple #[.agg #[.int .i64 (bn : Int), .slice na l1 nc, .slice oa l2 oc], .bool true]) (by simp [results, Try.results7, go_sem, n0, n1, n2]) rfl ⟨_, rfl, ?_, ?_⟩
      · have T0 : Plain.Touch w.heap.size (w.heap.size + 2) W6 (((W6.setCell ⟨w.heap.size + 1, 0, none⟩ (.int .i64 (bn : Int))).setCell ⟨w.heap.size + 1, 1, none⟩ (.slice na l1 nc)).setCell ⟨w.heap.size + 1, 2, none⟩ (.slice oa l2 oc)) :=
          ((Plain.Touch.of_set _ (by show _ ≤ _ + 1; omega) (by show _ + 1 < _; omega)).trans (Plain.Touch.of_set _ (by show _ ≤ _ + 1; omega) (by show _ + 1 < _; omega))).trans (Plain.Touch.of_set _ (by show _ ≤ _ + 1; omega) (by show _ + 1 < _; omega))
        have := (HW.out.touch T0 (.inr (by have := HNUM.out; omega))).lower (show w.heap.size ≤ BB by have := HNUM.out; omega)
        simpa only [size_setCell'] using this
      · exact ((HB6.out.setCell (by show _ ≤ _ + 1; omega) _).setCell (by show _ ≤ _ + 1; omega) _).setCell (by show _ ≤ _ + 1; omega) _
    case pos =>
      have hor := order_round HA.out (show Order RR OO od (reachI (rowsQ RR OO) i) by rw [← HQ.out]; exact hOR.out) hlt
      rw [← HQ.out, ← HRE.out] at hor
      obtain ⟨tn, r, o, hto, htn, hr, ho, hrl, hrB, hRi, hrow, hoq, hst⟩ := hor
      have HTO := Lib.hid hto
      have HRR := Lib.hid hr
      have HOO := Lib.hid ho
      have HRL := Lib.hid hrl
      have HRB := Lib.hid hrB
      have HRI := Lib.hid hRi
      have HROW := Lib.hid hrow
      have HOQ := Lib.hid hoq
      have HST := Lib.hid (show reachI (rowsQ RR OO) (i + 1) = addAll (reachI (rowsQ RR OO) i) (r.map (clsF RR OO)) by rw [← HQ.out]; exact hst)
      have hr4 : r.length ≤ 4 := by omega
      have hr0 : 0 < r.length := by omega
      have hOR0 : Hid (Order RR OO od (midL RR OO i r 0)) := by rw [midL_zero, ← HQ.out]; exact hOR.out
      have hb7 : Below W6.heap.size W6 (W6.alloc (.cells #[] 3)) := (Below.refl _ _).alloc (Nat.le_refl _) _
      have hRG : Hid (Rowing (W6.alloc (.cells #[] 3)) BB (W6.alloc (.cells #[] 3)).heap.size p (bn : Int) (.slice na l1 nc) (.slice oa l2 oc) (.slice ea od.length ec) (.slice (some ⟨W6.heap.size, 0, none⟩) 0 0) us ((R.take i).map (minRow Q R)) ((R.take i).map fun s => (outQ RR OO).getD s.toNat 0) od (partR RR OO r 0)) :=
        hM.out.begin hb7 (has_lit0 (enc := Value.int .i64) rfl (Nat.le_refl _))
      have hCV7 := Lib.hid (hCV.out.below hb7)
      have hXC7 := Lib.hid (hXC.out.below hb7)
      have hB7 : Hid (Below xb W1 (W6.alloc (.cells #[] 3))) := hB.out.alloc (by have := hXC.out.lt; omega) _
      obtain ⟨zr, hzr⟩ : ∃ z, z = W6.heap.size := ⟨_, rfl⟩
      rw [← hzr] at hRG
      clear hto hr ho hrl hrB hRi hrow hoq hst hOR hM hCV hXC hB hb7 x0 x1 x2
      go_wp2_with fail
      rw [← hzr]
      clear hzr
      go_loopw [8, 10, 11] (fun o' r' k' wr => ∃ (k : Nat) (od' : List Int) (hi' : Nat), k ≤ r.length ∧ od'.length ≤ 16 ∧ k' = .int .i64 k ∧ Hid (Order RR OO od' (midL RR OO i r k)) ∧ Hid (od'[i]? = some (tn : Int)) ∧ Hid (Rowing wr BB hi' p (bn : Int) (.slice na l1 nc) (.slice oa l2 oc) o' r' us ((R.take i).map (minRow Q R)) ((R.take i).map fun s => (outQ RR OO).getD s.toNat 0) od' (partR RR OO r k)) ∧ Hid (OwnI wr w.heap.size BB (.slice ca cls.length cc) cls) ∧ Hid (Cells3 wr xb 27 (.int .i64 (bn : Int)) (.slice a1 RR.length c1) (.slice a2 OO.length c2)) ∧ Hid (Below xb W1 wr)) (fun _ _ k' _ => r.length - (intOf k').toNat)
      case atStart => exact ⟨0, od, _, Nat.zero_le _, hod16, rfl, hOR0, HTO, hRG, hCV7, hXC7, hB7⟩
      case round =>
        clear hOR0 hRG hCV7 hXC7 hB7
        obtain ⟨k, od', hi', hkl, hod, rfl, hOR, hTN, hRG, hCV, hXC, hB⟩ := hrel
        obtain ⟨W8, rfl⟩ : ∃ W : World, W = wr := ⟨_, rfl⟩
        have hil' : i < od'.length := (List.getElem?_eq_some_iff.1 hTN.out).1
        obtain ⟨eq, es, ec', he8, hel⟩ := ints_at hRG.out.extra.has.lies (by omega)
        obtain ⟨ra, rc, hr10, _⟩ := hRG.out.row_.has.form
        rw [partR_len hkl] at hr10
        subst he8; subst hr10
        have HEL := Lib.hid hel
        have hBw : Below W1.heap.size W1 W8 := by rw [← HZX.out]; exact hB.out
        have HBW := Lib.hid hBw
        have x0 := hXC.out.c0
        have x1 := hXC.out.c1
        have x2 := hXC.out.c2
        clear hel hBw
        by_cases hlk : k < r.length
        case pos =>
          obtain ⟨y, hy⟩ : ∃ x, r[k]? = some x := ⟨_, List.getElem?_eq_getElem hlk⟩
          have hyb := HRB.out y (List.mem_of_getElem? hy)
          obtain ⟨yn, rfl⟩ : ∃ yn : Nat, y = (yn : Int) := ⟨y.toNat, by omega⟩
          have HY := Lib.hid hy
          have HYB := Lib.hid hyb
          obtain ⟨pa, off, hpa, q, t, c, o2', hcl⟩ := seq_row HX.out HRR.out hr0
          have o2 := old_cell HBW.out o2'
          have o3 := old_cell HBW.out (hcl k _ hy)
          have o1 := HEL.out i _ hTN.out
          rw [hpa] at x1
          have hkb : decide (k < bn) = true := decide_eq_true (by have := HRL.out; omega)
          have hkb2 : k < bn := by have := HRL.out; omega
          have hk0 : (0 : Int) ≤ (k : Int) := Int.natCast_nonneg _
          have hi00 : (0 : Int) ≤ (i : Int) := Int.natCast_nonneg _
          have ht0 : (0 : Int) ≤ (tn : Int) := Int.natCast_nonneg _
          have hkr : (k : Int) < (r.length : Int) := by omega
          have hio : (i : Int) < (od'.length : Int) := by omega
          have htR : (tn : Int) < (RR.length : Int) := by omega
          obtain ⟨cq, cs, cc', hcv, hcc⟩ := ints_at hCV.out.has.lies (by have := HCL.out; omega)
          injection hcv with f1 f2 f3
          subst f1
          have hyc : yn < cls.length := by have := HCL.out; omega
          obtain ⟨cy, hcy⟩ : ∃ z, cls[yn]? = some z := ⟨_, List.getElem?_eq_getElem hyc⟩
          have HCY : Hid (clsF RR OO (yn : Int) = cy) := by show _ = _; rw [clsF, Int.toNat_natCast, ← HCE.out, List.getD_eq_getElem?_getD, hcy]; rfl
          have HCYL := Lib.hid hcy
          have HCC := Lib.hid hcc
          clear hy hyb hpa hcl o2' hcc f2 f3 hcy
          go_wp2
          go_quiet (fail)
          have HD8 := Lib.hid (below_drewN (Below.refl W8.heap.size W8) nq)
          go_wp2_with fail
          obtain ⟨W9, hW9⟩ : ∃ W, W = W8.drewN nq := ⟨_, rfl⟩
          rw [← hW9] at HD8 ⊢
          clear hW9 o1 o2 o3 x0 x1 x2
          go_loopw [13, 14] (fun f' n' wr => ∃ (n : Nat) (f : Int), n ≤ od'.length ∧ n' = .int .i64 n ∧ f' = .int .i64 f ∧ Hid (FoundC (midL RR OO i r k) cy n f) ∧ Hid (Below W8.heap.size W8 wr)) (fun _ n' _ => od'.length - (intOf n').toNat)
          case atStart => exact ⟨0, -1, Nat.zero_le _, rfl, rfl, .inl ⟨rfl, fun j hj => by omega⟩, HD8⟩
          case round =>
            clear HD8
            obtain ⟨n, f, hnl, rfl, rfl, hF, hBx⟩ := hrel
            have hml : (midL RR OO i r k).length = od'.length := by rw [← hOR.out.1, List.length_map]
            have HML := Lib.hid hml
            clear hml
            by_cases hgo : n < od'.length ∧ f < 0
            case pos =>
              obtain ⟨hn2, hf⟩ := hgo
              have hdf := decide_eq_true hf
              obtain ⟨x, hx⟩ : ∃ x, od'[n]? = some x := ⟨_, List.getElem?_eq_getElem hn2⟩
              have hxb := hOR.out.2 x (List.mem_of_getElem? hx)
              obtain ⟨xn, rfl⟩ : ∃ xn : Nat, x = (xn : Int) := ⟨x.toNat, by omega⟩
              have hxc : xn < cls.length := by have := HCL.out; omega
              obtain ⟨cx, hcx⟩ : ∃ z, cls[xn]? = some z := ⟨_, List.getElem?_eq_getElem hxc⟩
              have HLN : Hid ((midL RR OO i r k)[n]? = some cx) := by
                show _ = _
                rw [← hOR.out.1, List.getElem?_map, hx, Option.map_some, clsF, Int.toNat_natCast, ← HCE.out, List.getD_eq_getElem?_getD, hcx]
                rfl
              have q1 := old_cell hBx.out (HEL.out n _ hx)
              have q2 := old_cell hBx.out (HCC.out xn _ hcx)
              have q3 := old_cell hBx.out (HCC.out yn _ HCYL.out)
              have hn0 : (0 : Int) ≤ (n : Int) := Int.natCast_nonneg _
              have hx0 : (0 : Int) ≤ (xn : Int) := Int.natCast_nonneg _
              have hy0 : (0 : Int) ≤ (yn : Int) := Int.natCast_nonneg _
              have hnd : (n : Int) < (od'.length : Int) := by omega
              have hxcl : (xn : Int) < (cls.length : Int) := by omega
              have hycl : (yn : Int) < (cls.length : Int) := by omega
              have HB4 := Lib.hid (fun m => below_drewN hBx.out m)
              have HFN := Lib.hid hf
              clear hx hxb hcx hf
              by_cases he : cx = cy
              · have hdx : (cx == cy) = true := by simpa using he
                have HFY : Hid (FoundC (midL RR OO i r k) cy (n + 1) (n : Int)) := foundC_yes (midL_nodup HA.out) (by rw [← he]; exact HLN.out)
                clear he
                go_wp2
                go_quiet (fail)
                go_wp2
                go_roundw
                case rel => exact ⟨n + 1, (n : Int), by omega, by go_num, rfl, HFY, HB4.out _⟩
                case measure => simp [intOf]; omega
              · have hdx : (cx == cy) = false := by simpa using he
                have HFY : Hid (FoundC (midL RR OO i r k) cy (n + 1) f) := foundC_no hF.out HFN.out HLN.out he
                clear he
                go_wp2
                go_quiet (fail)
                go_wp2
                go_roundw
                case rel => exact ⟨n + 1, f, by omega, by go_num, rfl, HFY, HB4.out _⟩
                case measure => simp [intOf]; omega
            case neg =>
              obtain ⟨W10, rfl⟩ : ∃ W : World, W = wr := ⟨_, rfl⟩
              have hfe := foundC_end hF.out (by have := HML.out; omega) (by have := HML.out; omega)
              have HRG10 := Lib.hid (hRG.out.below hBx.out)
              have HCV10 := Lib.hid (hCV.out.below hBx.out)
              have HXC10 := Lib.hid (hXC.out.below hBx.out)
              have HB10 : Hid (Below xb W1 W10) := hB.out.trans (hBx.out.mono (by have := hXC.out.lt; omega))
              have HPS := Lib.hid (partR_succ (rows := RR) (out := OO) HY.out)
              have HPL := Lib.hid (partR_len (rows := RR) (out := OO) hkl)
              have HLE := Lib.hid (show BB ≤ W10.heap.size from Nat.le_trans HRG10.out.lo HRG10.out.le)
              have HXB := Lib.hid (show xb ≤ BB by have := HNUM.out; omega)
              rcases hfe with ⟨hf1, hno⟩ | ⟨hf1, hyes, hfx⟩
              · have hnl2 : ¬ n < od'.length := fun h => hgo ⟨h, by omega⟩
                have hdf : decide (f < 0) = true := decide_eq_true (by omega)
                have hmn := mid_new HA.out HST.out HY.out (by rw [HCY.out]; exact hno) hOR.out HYB.out
                rw [HCY.out, ← HQ.out, ← HRE.out, HML.out] at hmn
                have HON := Lib.hid hmn.1
                have HPN : Hid (partR RR OO r (k + 1) = partR RR OO r k ++ [(od'.length : Int)]) := by
                  show _ = _
                  rw [HPS.out, HCY.out, ← HQ.out, ← HRE.out, hmn.2]
                have hod3 : od'.length + 1 ≤ 16 := by
                  have h1 := hmn.1.1
                  have h2 := congrArg List.length h1
                  rw [List.length_map, List.length_append] at h2
                  have h3 := midL_len (k := k + 1) HA.out HST.out
                  simp at h2
                  omega
                have HTN2 : Hid ((od' ++ [(yn : Int)])[i]? = some (tn : Int)) := by show _ = _; rw [List.getElem?_append_left hil']; exact hTN.out
                clear hgo hno hmn hf1
                go_wp2_with (first
                  | (at_builtin; refine wpList_append_list (enc := Value.int .i64) (e := 3) rfl (.tmp 80) (.tmp 82) 25 rfl BB i0 (.int .i64 0) 8 Try.underlying25 hi0 hz0 hz1 hz2 rfl (.slice (some ⟨eq, es, none⟩) od'.length ec') od' rfl (has_alloc HRG10.out.extra.has _) (.slice (some ⟨W10.heap.size, 0, none⟩) 1 1) [(yn : Int)] rfl (lies_lit1 (enc := Value.int .i64) _ rfl) (fun _ _ => rfl) (by simp only [List.length_cons, List.length_nil]; omega) (by simp only [List.length_cons, List.length_nil]; omega) (by have := HLE.out; simp; omega) ?_; intro v8 w8 hv8 hg8 hb8; obtain ⟨a8, c8, hvf, _⟩ := hv8.form; rw [show (od' ++ [(yn : Int)]).length = od'.length + 1 from by simp] at hvf; subst hvf; have hg8' := grown_alloc hg8; have HRG8 := Lib.hid (HRG10.out.more hv8 hg8' (fun k hk => (hb8 k hk).imp id (fun h => by simp at h; omega))); have HLE8 := Lib.hid (Nat.le_trans HLE.out hg8'.size))
                  | (at_builtin; refine wpList_append_list (enc := Value.int .i64) (e := 3) rfl (.tmp 84) (.tmp 86) 25 rfl BB i0 (.int .i64 0) 8 Try.underlying25 hi0 hz0 hz1 hz2 rfl (.slice ra k rc) (partR RR OO r k) rfl (has_alloc HRG8.out.row_.has _) (.slice (some ⟨w8.heap.size, 0, none⟩) 1 1) [(od'.length : Int)] rfl (lies_lit1 (enc := Value.int .i64) _ rfl) (fun _ _ => rfl) (by rw [HPL.out]; simp only [List.length_cons, List.length_nil]; omega) (by rw [HPL.out]; simp only [List.length_cons, List.length_nil]; omega) (by have := HLE8.out; simp; omega) ?_; intro v9 w9 hv9 hg9 hb9; have hg9' := grown_alloc hg9))
                have HRG9 := HRG8.out.grow hv9 hg9' (fun k hk => (hb9 k hk).imp id (fun h => by simp at h; omega))
                rw [← HPN.out] at HRG9
                have HR9 := Lib.hid HRG9
                have hp1 : ∀ k, (Value.slice (some ⟨eq, es, none⟩) od'.length ec').ownBlock = some k → k < w.heap.size ∨ BB ≤ k := fun k hk => .inr (HRG10.out.extra.has.lt k hk).1
                have hp2 : ∀ k, (Value.slice ra k rc).ownBlock = some k → True := fun _ _ => trivial
                have HCV9 := Lib.hid ((HCV10.out.grown hg8' hp1).grown hg9' (fun k hk => .inr (HRG8.out.row_.has.lt k hk).1))
                have HXC9 := Lib.hid ((HXC10.out.grown hg8' (has_ne_c3 HRG10.out.extra.has HXC10.out (by decide))).grown hg9' (has_ne_c3 HRG8.out.row_.has (HXC10.out.grown hg8' (has_ne_c3 HRG10.out.extra.has HXC10.out (by decide))) (by decide)))
                have HB9 : Hid (Below xb W1 w9) := (HB10.out.grown hg8' (Nat.le_trans HXB.out HLE.out) (fun k hk => Nat.le_trans HXB.out (HRG10.out.extra.has.lt k hk).1)).grown hg9' (Nat.le_trans HXB.out HLE8.out) (fun k hk => Nat.le_trans HXB.out (HRG8.out.row_.has.lt k hk).1)
                clear hv8 hg8 hb8 hg8' hv9 hg9 hb9 hg9' HRG9 HRG8 HRG10 HCV10 HXC10 HB10 hp1 hp2
                go_wp2
                go_roundw
                case rel => exact ⟨k + 1, od' ++ [(yn : Int)], w9.heap.size, by omega, by simp; omega, by go_num, HON, HTN2, HR9, HCV9, HXC9, HB9⟩
                case measure => simp [intOf]; omega
              · have hdf : decide (f < 0) = false := decide_eq_false (by omega)
                have hmo := mid_old HA.out HST.out HY.out (by rw [HCY.out]; exact hyes)
                rw [HCY.out, ← HQ.out, ← HRE.out] at hmo
                have HON : Hid (Order RR OO od' (midL RR OO i r (k + 1))) := by rw [hmo.1]; exact hOR.out
                have HPN : Hid (partR RR OO r (k + 1) = partR RR OO r k ++ [f]) := by
                  show _ = _
                  rw [HPS.out, HCY.out, ← HQ.out, ← HRE.out, hmo.2, hfx]
                clear hgo hyes hfx hmo hf1
                by_cases hnl2 : n < od'.length
                all_goals
                  go_wp2_with (at_builtin; refine wpList_append_list (enc := Value.int .i64) (e := 3) rfl (.tmp 84) (.tmp 86) 25 rfl BB i0 (.int .i64 0) 8 Try.underlying25 hi0 hz0 hz1 hz2 rfl (.slice ra k rc) (partR RR OO r k) rfl (has_alloc HRG10.out.row_.has _) (.slice (some ⟨W10.heap.size, 0, none⟩) 1 1) [f] rfl (lies_lit1 (enc := Value.int .i64) _ rfl) (fun _ _ => rfl) (by rw [HPL.out]; simp only [List.length_cons, List.length_nil]; omega) (by rw [HPL.out]; simp only [List.length_cons, List.length_nil]; omega) (by have := HLE.out; simp; omega) ?_; intro v9 w9 hv9 hg9 hb9; have hg9' := grown_alloc hg9)
                  have HRG9 := HRG10.out.grow hv9 hg9' (fun k hk => (hb9 k hk).imp id (fun h => by simp at h; omega))
                  rw [← HPN.out] at HRG9
                  have HR9 := Lib.hid HRG9
                  have HCV9 := Lib.hid (HCV10.out.grown hg9' (fun k hk => .inr (HRG10.out.row_.has.lt k hk).1))
                  have HXC9 := Lib.hid (HXC10.out.grown hg9' (has_ne_c3 HRG10.out.row_.has HXC10.out (by decide)))
                  have HB9 : Hid (Below xb W1 w9) := HB10.out.grown hg9' (Nat.le_trans HXB.out HLE.out) (fun k hk => Nat.le_trans HXB.out (HRG10.out.row_.has.lt k hk).1)
                  clear hv9 hg9 hb9 hg9' HRG9 HRG10 HCV10 HXC10 HB10
                  go_wp2
                  go_roundw
                  case rel => exact ⟨k + 1, od', w9.heap.size, by omega, hod, by go_num, HON, hTN, HR9, HCV9, HXC9, HB9⟩
                  case measure => simp [intOf]; omega
        case neg =>
          obtain rfl : k = r.length := by omega
          have hkd : decide (r.length < bn) = false := decide_eq_false (by have := HRL.out; omega)
          have HON : Hid (Order RR OO od' (reachI Q (i + 1))) := by
            have h1 := hOR.out
            rw [midL_end HST.out, ← HQ.out] at h1
            exact h1
          have HPE : Hid (partR RR OO r r.length = minRow Q R (clsF RR OO tn)) := by
            show _ = _
            rw [HQ.out, HRE.out, HQ.out]
            exact partR_end (by rw [← HQ.out]; exact HROW.out)
          have HLT := Lib.hid (take_map_snoc (minRow Q R) HRI.out)
          have HLO := Lib.hid (take_map_snoc (fun s : Int => (outQ RR OO).getD s.toNat 0) HRI.out)
          have hRG8 := hRG.out
          rw [HPE.out] at hRG8
          have HRG8 := Lib.hid hRG8
          have d1 := HRG8.out.cells.c1
          have d2 := (HRG8.out.cells.alloc (.cells #[Value.slice ra r.length rc] 25)).c1
          have hpl := HRG8.out.cells.lt
          have HNP := Lib.hid (has_ne_c3 HRG8.out.top HRG8.out.cells (by decide))
          have HNC := Lib.hid (has_ne_c3 HRG8.out.top hXC.out (by decide))
          have HLO8 := Lib.hid (show BB ≤ W8.heap.size from Nat.le_trans HRG8.out.lo HRG8.out.le)
          clear hRG hRG8 hOR hlk hkl x1 x2
          go_wp2_with (at_builtin; refine wpList_append_list (enc := id) (e := 25) rfl (.tmp 89) (.tmp 91) 24 rfl BB i2 (.slice none 0 0) 24 Try.underlying24 hi2 hz20 hz21 hz22 rfl (.slice na l1 nc) us rfl (has_alloc HRG8.out.top _) (.slice (some ⟨W8.heap.size, 0, none⟩) 1 1) [.slice ra r.length rc] rfl (lies_lit1v _ rfl) (fun y hy => by simp at hy; subst hy; rfl) (by rw [HUSL.out]; simp; omega) (by rw [HUSL.out]; simp; omega) (by have := HLO8.out; simp; omega) ?_; intro v' w2 hv' hg2 _; obtain ⟨a3, c3, hvf, _⟩ := hv'.form; rw [show (us ++ [Value.slice ra r.length rc]).length = l1 + 1 from by rw [List.length_append, HUSL.out]; rfl] at hvf; subst hvf; have hg3 := grown_alloc hg2; have hc2 := HRG8.out.cells.grown hg3 HNP.out; have d3 := hc2.c1; have df := hc2.f)
          obtain ⟨l3, hl3⟩ : ∃ l, l = l1 + 1 := ⟨_, rfl⟩
          rw [← hl3] at hv' ⊢
          have HM5 := Lib.hid (HRG8.out.done hv' hg3)
          have HG5 : Hid (BB ≤ w2.heap.size) := Nat.le_trans HLO8.out hg3.size
          have hne1 : (p : Nat) ≠ xb := by have := HNUM.out; omega
          have hne2 : xb ≤ p := by have := HNUM.out; omega
          have hne3 : xb ≤ BB := by have := HNUM.out; omega
          have HC5 := Lib.hid ((hXC.out.grown hg3 HNC.out).other (a := ⟨p, 1, none⟩) hne1 (.slice a3 l3 c3))
          have HB5 : Hid (Below xb W1 (w2.setCell ⟨p, 1, none⟩ (.slice a3 l3 c3))) := (hB.out.grown hg3 (Nat.le_trans hne3 HLO8.out) (fun k hk => Nat.le_trans hne3 (HRG8.out.top.lt k hk).1)).setCell hne2 _
          have hcv5 := hCV.out.grown hg3 (fun k hk => .inr (HRG8.out.top.lt k hk).1)
          have HCV5 : Hid (OwnI (w2.setCell ⟨p, 1, none⟩ (.slice a3 l3 c3)) w.heap.size BB (.slice ca cls.length cc) cls) :=
            hcv5.set (a := ⟨p, 1, none⟩) (has_ne_c3 hcv5.has hc2 (by decide)) _
          have HG6 : Hid (BB ≤ (w2.setCell ⟨p, 1, none⟩ (.slice a3 l3 c3)).heap.size) := by show _ ≤ _; rw [size_setCell']; exact HG5.out
          obtain ⟨W5, hW5⟩ : ∃ W, W = w2.setCell ⟨p, 1, none⟩ (.slice a3 l3 c3) := ⟨_, rfl⟩
          rw [← hW5] at HM5 HC5 HB5 HCV5 HG6 ⊢
          have HW5 := Lib.hid (show w2.heap.size = W5.heap.size by rw [hW5, size_setCell'])
          rw [HW5.out] at HM5
          clear hcv5 hv' hg2 hg3 hc2 d1 d2 d3 df hpl HRG8 hXC hB hCV hW5 hl3 HNP HNC HLO8 HG5 x0 HEL HBW
          have HVO := Lib.hid HM5.out.terms
          have HOLN : Hid ((((R.take i).map fun s => (outQ RR OO).getD s.toNat 0)).length = l2) := HL2.out.symm
          obtain ⟨eq2, es2, ec2, he2, hel2⟩ := ints_at HM5.out.extra.has.lies (by omega)
          obtain ⟨rfl, rfl, rfl⟩ : eq = eq2 ∧ es = es2 ∧ ec' = ec2 := by
            injection he2 with h1 h2 h3
            injection h1 with h1
            injection h1 with h1 h2
            exact ⟨h1, h2, h3⟩
          have o1 := hel2 i _ hTN.out
          obtain ⟨po, oo, hpo, ho1⟩ : ∃ po oo, a2 = some ⟨po, oo, none⟩ ∧ W1.cell? ⟨po, oo + tn, none⟩ = some (.int .i64 o) := by
            obtain ⟨q', s', h1, h2⟩ := HX.out.cells.2 tn o HOO.out
            exact ⟨q', s', h1, h2⟩
          have HBW5 : Hid (Below W1.heap.size W1 W5) := by show Below _ _ _; rw [← HZX.out]; exact HB5.out
          have x2 := HC5.out.c2
          rw [hpo] at x2
          have o2 := old_cell HBW5.out ho1
          have c4 := HM5.out.cells.c2
          have c5 := (HM5.out.cells.alloc (.cells #[Value.int .i64 o] 3)).c2
          have hpl := HM5.out.cells.lt
          have hi00 : (0 : Int) ≤ (i : Int) := Int.natCast_nonneg _
          have ht0 : (0 : Int) ≤ (tn : Int) := Int.natCast_nonneg _
          have hio : (i : Int) < (od'.length : Int) := by omega
          have htO : (tn : Int) < (OO.length : Int) := by have := HOL.out; omega
          have HNO := Lib.hid (has_ne_c3 HVO.out.has HM5.out.cells (by decide))
          have HNC := Lib.hid (has_ne_c3 HVO.out.has HC5.out (by decide))
          clear hel2 he2 hpo ho1
          go_region_law ((refine step_append_at_list (enc := Value.int .i64) (e := 3) rfl (.tmp 95) (.tmp 104) 25 rfl BB i0 (.int .i64 0) 8 Try.underlying25 hi0 hz0 hz1 hz2 rfl (.slice oa l2 oc) ((R.take i).map fun s => (outQ RR OO).getD s.toNat 0) rfl (by repeat (first | with_reducible exact HVO.out.has | with_reducible apply has_drew | with_reducible apply has_alloc)) (Value.slice (some ⟨_, 0, none⟩) 1 1) [o] rfl (by repeat (first | with_reducible apply lies_drew | (with_reducible refine lies_lit1 (enc := Value.int .i64) _ rfl) | with_reducible apply lies_alloc)) (fun _ _ => rfl) (by rw [HOLN.out]; simp; omega) (by rw [HOLN.out]; simp; omega) (by have := HG6.out; simp; omega) ?_; intro vt w6 ho6 hg6 hb6; obtain ⟨a6, c6, hvf, _⟩ := ho6.form; rw [show (((R.take i).map fun s => (outQ RR OO).getD s.toNat 0) ++ [o]).length = l2 + 1 from by rw [List.length_append, HOLN.out]; rfl] at hvf; subst hvf; refine with_fact (T := W5.grownBy w6 (Value.slice oa l2 oc).ownBlock) ?_ ?_; (focus (exact grown_alloc (grown_drew hg6))); intro hg7; have hc7 := HM5.out.cells.grown hg7 HNO.out; have r1 := hc7.c2; have r3 := hc7.f))
          all_goals
            have hm7 := HM5.out.term ho6 hg7 (fun k hk => (hb6 k hk).imp id (fun h => by simp at h; omega))
            rw [← HLT.out] at hm7
            have HM8 : Hid (Making (w6.setCell ⟨p, 2, none⟩ (.slice a6 (l2 + 1) c6)) BB w6.heap.size p (bn : Int) (.slice a3 l3 c3) (.slice a6 (l2 + 1) c6) (.slice (some ⟨eq, es, none⟩) od'.length ec') (us ++ [.slice ra r.length rc]) ((R.take (i + 1)).map (minRow Q R)) ((R.take (i + 1)).map fun s => (outQ RR OO).getD s.toNat 0) od') := by
              have h1 := hm7
              rw [← HOQ.out, ← HLO.out] at h1
              exact h1
            have HC7 := Lib.hid ((HC5.out.grown hg7 HNC.out).other (a := ⟨p, 2, none⟩) hne1 (.slice a6 (l2 + 1) c6))
            have HB7 : Hid (Below xb W1 (w6.setCell ⟨p, 2, none⟩ (.slice a6 (l2 + 1) c6))) := (HB5.out.grown hg7 (Nat.le_trans hne3 HG6.out) (fun k hk => Nat.le_trans hne3 (HVO.out.has.lt k hk).1)).setCell hne2 _
            have hcv7 := HCV5.out.grown hg7 (fun k hk => .inr (HVO.out.has.lt k hk).1)
            have HCV7 : Hid (OwnI (w6.setCell ⟨p, 2, none⟩ (.slice a6 (l2 + 1) c6)) w.heap.size BB (.slice ca cls.length cc) cls) :=
              hcv7.set (a := ⟨p, 2, none⟩) (has_ne_c3 hcv7.has hc7 (by decide)) _
            clear ho6 hb6 hg6 hg7 hc7 r1 r3 c4 c5 o1 o2 x2 hpl HM5 HVO HNO HNC hm7 hcv7
            go_wp2
            go_roundw
            case rel => exact ⟨i + 1, od', _, _, _, w6.heap.size, by omega, hod, by go_num, HON, HM8, HCV7, HC7, HB7⟩
            case measure => simp [intOf]; omega
set_option maxHeartbeats 1000000 in
theorem spec_min (v : Value) (b : Int) (rows : List (List Int)) (out : List Int) (w : World) (h : LiesS w v b rows out) (hs : rows.length + tot rows + out.length ≤ 1048576) :
    Calls Try.prog 7 #[v] w (GivesK (formB b rows out) (minRV b rows out) (minOV b rows out) (formK b rows out) w) := by
  cases hk : formK b rows out with
  | false =>
    have hk' : ¬ formK b rows out = true := by rw [hk]; simp
    rw [minRV, if_neg hk', minOV, if_neg hk', formB, if_neg hk']
    exact spec_min_no v b rows out w h hs hk
  | true =>
    rw [minRV, if_pos hk, minOV, if_pos hk]
    exact spec_min_yes v b rows out w h hs hk
end Mins
end Go.Proofs.Ytpndclpmhelikaa
/- Contracts of IsMinimal and AreSameTerms, program and model: by the minimal forms. Conditions: the arguments' sizes, as each states. -/
namespace Go.Proofs.Ytpndclpmhelikaa
open Go.ChangeShapes Go.WideShapes Go.ChangeAt Go.RowKit
open Go.PlainAid Plain
set_option linter.unusedVariables false
namespace Mins
open Seqs
def isMinB (b : Int) (rows : List (List Int)) (out : List Int) : Bool := formK b rows out && ((minRV b rows out).length : Int) == (rows.length : Int)
def sameT (b b' : Int) (rows rows' : List (List Int)) (out out' : List Int) : Bool :=
  (formK b rows out && formK b' rows' out') && sameB (formB b rows out) (formB b' rows' out') (minRV b rows out) (minRV b' rows' out') (minOV b rows out) (minOV b' rows' out')
set_option maxHeartbeats 1000000 in
theorem impl_ismin (v : Value) (b : Int) (rows : List (List Int)) (out : List Int) (w : World) (h : LiesS w v b rows out) (hs : rows.length + tot rows + out.length ≤ 1048576) : Calls Try.prog 9 #[v] w fun e w' => e = .returned (.bool (isMinB b rows out)) ∧ Below w.heap.size w w' := by
  have HSZ := Lib.hid hs
  clear hs
  have HS := Lib.hid h
  obtain ⟨an, cn, ao, co, rfl⟩ := h.form
  clear h
  have HB : Hid (Below w.heap.size w (w.alloc (Obj.cells #[Value.int .i64 b, Value.slice an rows.length cn, Value.slice ao out.length co] 27))) := (Below.refl _ _).alloc (Nat.le_refl _) _
  have HC := Lib.hid (Cells3.new w 27 (.int .i64 b) (.slice an rows.length cn) (.slice ao out.length co))
  have k0 := HC.out.c0
  have k1 := HC.out.c1
  have k2 := HC.out.c2
  have hk0 : isMinB b rows out = (formK b rows out && ((minRV b rows out).length : Int) == (rows.length : Int)) := rfl
  have HCF := Lib.hid (impl_min _ b rows out _ (HS.out.below HB.out) HSZ.out)
  obtain ⟨B, hB⟩ : ∃ B, B = formB b rows out := ⟨_, rfl⟩
  obtain ⟨RR, hRR⟩ : ∃ R, R = minRV b rows out := ⟨_, rfl⟩
  obtain ⟨OO, hOO⟩ : ∃ O, O = minOV b rows out := ⟨_, rfl⟩
  rw [← hB, ← hRR, ← hOO] at HCF
  rw [hk0, ← hRR]
  clear hk0 hB hRR hOO
  obtain ⟨KK, hKK⟩ : ∃ K, K = formK b rows out := ⟨_, rfl⟩
  rw [← hKK] at HCF ⊢
  clear hKK
  obtain ⟨q, hq⟩ : ∃ q, q = ((RR.length : Int) == (rows.length : Int)) := ⟨_, rfl⟩
  have hq' := hq.symm
  rw [← hq]
  clear hq
  go_enter Try.func9, Try.ntmps9
  go_wp2_with fail
  refine HCF.out.mono ?_
  rintro e W1 ⟨v1, rfl, hv1, b1⟩
  obtain ⟨a1, c1, a2, c2, rfl⟩ := hv1.form
  have HB2 := Lib.hid (HB.out.trans (b1.mono HB.out.size))
  have HC2 := Lib.hid (HC.out.below b1)
  have HX := Lib.hid (Cells3.new W1 27 (.int .i64 B) (.slice a1 RR.length c1) (.slice a2 OO.length c2))
  have HC3 := Lib.hid (HC2.out.alloc (.cells #[.int .i64 B, .slice a1 RR.length c1, .slice a2 OO.length c2] 27))
  have HB3 := Lib.hid (HB2.out.alloc HB2.out.size (.cells #[.int .i64 B, .slice a1 RR.length c1, .slice a2 OO.length c2] 27))
  have j1 := HX.out.c1
  have j2 := HC3.out.c1
  clear b1 hv1 HC HB HC2 HCF k0 k1 k2
  cases KK
  all_goals
    go_wp2
    go_ret
    exact ⟨rfl, HB3.out⟩
set_option maxHeartbeats 1000000 in
theorem spec_ismin (v : Value) (b : Int) (rows : List (List Int)) (out : List Int) (w : World) (h : LiesS w v b rows out) (hs : rows.length + tot rows + out.length ≤ 1048576) : Calls Try.prog 10 #[v] w fun e w' => e = .returned (.bool (isMinB b rows out)) ∧ Below w.heap.size w w' := by
  have HSZ := Lib.hid hs
  clear hs
  have HS := Lib.hid h
  obtain ⟨an, cn, ao, co, rfl⟩ := h.form
  clear h
  have HB : Hid (Below w.heap.size w (w.alloc (Obj.cells #[Value.int .i64 b, Value.slice an rows.length cn, Value.slice ao out.length co] 27))) := (Below.refl _ _).alloc (Nat.le_refl _) _
  have HC := Lib.hid (Cells3.new w 27 (.int .i64 b) (.slice an rows.length cn) (.slice ao out.length co))
  have k0 := HC.out.c0
  have k1 := HC.out.c1
  have k2 := HC.out.c2
  have hk0 : isMinB b rows out = (formK b rows out && ((minRV b rows out).length : Int) == (rows.length : Int)) := rfl
  have HCF := Lib.hid (spec_min _ b rows out _ (HS.out.below HB.out) HSZ.out)
  obtain ⟨B, hB⟩ : ∃ B, B = formB b rows out := ⟨_, rfl⟩
  obtain ⟨RR, hRR⟩ : ∃ R, R = minRV b rows out := ⟨_, rfl⟩
  obtain ⟨OO, hOO⟩ : ∃ O, O = minOV b rows out := ⟨_, rfl⟩
  rw [← hB, ← hRR, ← hOO] at HCF
  rw [hk0, ← hRR]
  clear hk0 hB hRR hOO
  obtain ⟨KK, hKK⟩ : ∃ K, K = formK b rows out := ⟨_, rfl⟩
  rw [← hKK] at HCF ⊢
  clear hKK
  obtain ⟨q, hq⟩ : ∃ q, q = ((RR.length : Int) == (rows.length : Int)) := ⟨_, rfl⟩
  have hq' := hq.symm
  rw [← hq]
  clear hq
  go_enter Try.func10, Try.ntmps10
  go_wp2_with fail
  refine HCF.out.mono ?_
  rintro e W1 ⟨v1, rfl, hv1, b1⟩
  obtain ⟨a1, c1, a2, c2, rfl⟩ := hv1.form
  have HB2 := Lib.hid (HB.out.trans (b1.mono HB.out.size))
  have HC2 := Lib.hid (HC.out.below b1)
  have HX := Lib.hid (Cells3.new W1 27 (.int .i64 B) (.slice a1 RR.length c1) (.slice a2 OO.length c2))
  have HC3 := Lib.hid (HC2.out.alloc (.cells #[.int .i64 B, .slice a1 RR.length c1, .slice a2 OO.length c2] 27))
  have HB3 := Lib.hid (HB2.out.alloc HB2.out.size (.cells #[.int .i64 B, .slice a1 RR.length c1, .slice a2 OO.length c2] 27))
  have j1 := HX.out.c1
  have j2 := HC3.out.c1
  clear b1 hv1 HC HB HC2 HCF k0 k1 k2
  cases KK
  all_goals
    go_wp2
    go_ret
    exact ⟨rfl, HB3.out⟩
set_option maxHeartbeats 1000000 in
theorem impl_sameterms (u v : Value) (b b' : Int) (rows rows' : List (List Int)) (out out' : List Int) (w : World) (h1 : LiesS w u b rows out) (h2 : LiesS w v b' rows' out') (hs : rows.length + tot rows + out.length ≤ 1048576) (hs' : rows'.length + tot rows' + out'.length ≤ 1048576) : Calls Try.prog 21 #[u, v] w fun e w' => e = .returned (.bool (sameT b b' rows rows' out out')) ∧ Below w.heap.size w w' := by
  have HSZ := Lib.hid hs
  have HSZ' := Lib.hid hs'
  clear hs hs'
  have HS := Lib.hid h1
  have HS' := Lib.hid h2
  obtain ⟨an, cn, ao, co, rfl⟩ := h1.form
  obtain ⟨an', cn', ao', co', rfl⟩ := h2.form
  clear h1 h2
  have HB : Hid (Below w.heap.size w ((w.alloc (Obj.cells #[Value.int .i64 b, Value.slice an rows.length cn, Value.slice ao out.length co] 27)).alloc (Obj.cells #[Value.int .i64 b', Value.slice an' rows'.length cn', Value.slice ao' out'.length co'] 27))) := ((Below.refl _ _).alloc (Nat.le_refl _) _).alloc (by simp) _
  have hC' := Cells3.new (w.alloc (Obj.cells #[Value.int .i64 b, Value.slice an rows.length cn, Value.slice ao out.length co] 27)) 27 (.int .i64 b') (.slice an' rows'.length cn') (.slice ao' out'.length co')
  rw [size_alloc'] at hC'
  have HC := Lib.hid ((Cells3.new w 27 (.int .i64 b) (.slice an rows.length cn) (.slice ao out.length co)).alloc (Obj.cells #[Value.int .i64 b', Value.slice an' rows'.length cn', Value.slice ao' out'.length co'] 27))
  have HC' := Lib.hid hC'
  clear hC'
  have hk0 : sameT b b' rows rows' out out' = ((formK b rows out && formK b' rows' out') && sameB (formB b rows out) (formB b' rows' out') (minRV b rows out) (minRV b' rows' out') (minOV b rows out) (minOV b' rows' out')) := rfl
  have HCF := Lib.hid (impl_min _ b rows out _ (HS.out.below HB.out) HSZ.out)
  have HCG := Lib.hid (fun (W : World) (hW : Below w.heap.size w W) => impl_min _ b' rows' out' W (HS'.out.below hW) HSZ'.out)
  obtain ⟨B1, hB1⟩ : ∃ B, B = formB b rows out := ⟨_, rfl⟩
  obtain ⟨R1, hR1⟩ : ∃ R, R = minRV b rows out := ⟨_, rfl⟩
  obtain ⟨O1, hO1⟩ : ∃ O, O = minOV b rows out := ⟨_, rfl⟩
  obtain ⟨K1, hK1⟩ : ∃ O, O = formK b rows out := ⟨_, rfl⟩
  obtain ⟨B2, hB2⟩ : ∃ B, B = formB b' rows' out' := ⟨_, rfl⟩
  obtain ⟨R2, hR2⟩ : ∃ R, R = minRV b' rows' out' := ⟨_, rfl⟩
  obtain ⟨O2, hO2⟩ : ∃ O, O = minOV b' rows' out' := ⟨_, rfl⟩
  obtain ⟨K2, hK2⟩ : ∃ O, O = formK b' rows' out' := ⟨_, rfl⟩
  rw [← hB1, ← hR1, ← hO1, ← hK1] at HCF
  rw [← hB2, ← hR2, ← hO2, ← hK2] at HCG
  rw [hk0, ← hB1, ← hR1, ← hO1, ← hK1, ← hB2, ← hR2, ← hO2, ← hK2]
  clear hk0 hB1 hR1 hO1 hK1 hB2 hR2 hO2 hK2
  have k0 := HC.out.c0
  have k1 := HC.out.c1
  have k2 := HC.out.c2
  go_enter Try.func21, Try.ntmps21
  go_wp2_with fail
  refine HCF.out.mono ?_
  rintro e W1 ⟨v1, rfl, hv1, b1⟩
  obtain ⟨a1, c1, a2, c2, rfl⟩ := hv1.form
  have HB2 := Lib.hid (HB.out.trans (b1.mono HB.out.size))
  have HC2' := Lib.hid ((HC'.out.below b1).alloc (.cells #[.int .i64 B1, .slice a1 R1.length c1, .slice a2 O1.length c2] 27))
  have HX := Lib.hid (Cells3.new W1 27 (.int .i64 B1) (.slice a1 R1.length c1) (.slice a2 O1.length c2))
  have HB3 := Lib.hid (HB2.out.alloc HB2.out.size (.cells #[.int .i64 B1, .slice a1 R1.length c1, .slice a2 O1.length c2] 27))
  have HL := Lib.hid (hv1.lies.below ((Below.refl W1.heap.size W1).alloc (Nat.le_refl _) (.cells #[.int .i64 B1, .slice a1 R1.length c1, .slice a2 O1.length c2] 27)))
  have k3 := HC2'.out.c0
  have k4 := HC2'.out.c1
  have k5 := HC2'.out.c2
  clear b1 hv1 HC HC' HB HB2 HCF k0 k1 k2
  obtain ⟨W2, hW2⟩ : ∃ W, W = W1.alloc (.cells #[.int .i64 B1, .slice a1 R1.length c1, .slice a2 O1.length c2] 27) := ⟨_, rfl⟩
  go_wp2_with fail
  rw [← hW2] at HC2' HX HB3 HL k3 k4 k5 ⊢
  clear hW2
  refine (HCG.out _ HB3.out).mono ?_
  rintro e W3 ⟨v2, rfl, hv2, b2⟩
  obtain ⟨a3, c3, a4, c4, rfl⟩ := hv2.form
  have HB4 := Lib.hid (HB3.out.trans (b2.mono HB3.out.size))
  have HX2 := Lib.hid ((HX.out.below b2).alloc (.cells #[.int .i64 B2, .slice a3 R2.length c3, .slice a4 O2.length c4] 27))
  have HY := Lib.hid (Cells3.new W3 27 (.int .i64 B2) (.slice a3 R2.length c3) (.slice a4 O2.length c4))
  have HB5 := Lib.hid (HB4.out.alloc HB4.out.size (.cells #[.int .i64 B2, .slice a3 R2.length c3, .slice a4 O2.length c4] 27))
  have HL2 := Lib.hid ((HL.out.below b2).below ((Below.refl W3.heap.size W3).alloc (Nat.le_refl _) (.cells #[.int .i64 B2, .slice a3 R2.length c3, .slice a4 O2.length c4] 27)))
  have HM2 := Lib.hid (hv2.lies.below ((Below.refl W3.heap.size W3).alloc (Nat.le_refl _) (.cells #[.int .i64 B2, .slice a3 R2.length c3, .slice a4 O2.length c4] 27)))
  have k0 := HX2.out.c0
  have k1 := HX2.out.c1
  have k2 := HX2.out.c2
  have k6 := HY.out.c0
  have k7 := HY.out.c1
  have k8 := HY.out.c2
  clear b2 hv2 HC2' HX HB4 HCG k3 k4 k5 HL
  cases K1
  · go_wp2
    go_ret
    exact ⟨rfl, HB5.out⟩
  cases K2
  · go_wp2
    go_ret
    exact ⟨rfl, HB5.out⟩
  · go_wp2_with fail
    refine (impl_equal _ _ B1 B2 R1 R2 O1 O2 _ HL2.out HM2.out).mono ?_
    rintro e W5 ⟨rfl, b3⟩
    have HB6 := Lib.hid (HB5.out.trans (b3.mono HB5.out.size))
    clear b3
    go_wp2
    go_ret
    exact ⟨rfl, HB6.out⟩
set_option maxHeartbeats 1000000 in
theorem spec_sameterms (u v : Value) (b b' : Int) (rows rows' : List (List Int)) (out out' : List Int) (w : World) (h1 : LiesS w u b rows out) (h2 : LiesS w v b' rows' out') (hs : rows.length + tot rows + out.length ≤ 1048576) (hs' : rows'.length + tot rows' + out'.length ≤ 1048576) : Calls Try.prog 22 #[u, v] w fun e w' => e = .returned (.bool (sameT b b' rows rows' out out')) ∧ Below w.heap.size w w' := by
  have HSZ := Lib.hid hs
  have HSZ' := Lib.hid hs'
  clear hs hs'
  have HS := Lib.hid h1
  have HS' := Lib.hid h2
  obtain ⟨an, cn, ao, co, rfl⟩ := h1.form
  obtain ⟨an', cn', ao', co', rfl⟩ := h2.form
  clear h1 h2
  have HB : Hid (Below w.heap.size w ((w.alloc (Obj.cells #[Value.int .i64 b, Value.slice an rows.length cn, Value.slice ao out.length co] 27)).alloc (Obj.cells #[Value.int .i64 b', Value.slice an' rows'.length cn', Value.slice ao' out'.length co'] 27))) := ((Below.refl _ _).alloc (Nat.le_refl _) _).alloc (by simp) _
  have hC' := Cells3.new (w.alloc (Obj.cells #[Value.int .i64 b, Value.slice an rows.length cn, Value.slice ao out.length co] 27)) 27 (.int .i64 b') (.slice an' rows'.length cn') (.slice ao' out'.length co')
  rw [size_alloc'] at hC'
  have HC := Lib.hid ((Cells3.new w 27 (.int .i64 b) (.slice an rows.length cn) (.slice ao out.length co)).alloc (Obj.cells #[Value.int .i64 b', Value.slice an' rows'.length cn', Value.slice ao' out'.length co'] 27))
  have HC' := Lib.hid hC'
  clear hC'
  have hk0 : sameT b b' rows rows' out out' = ((formK b rows out && formK b' rows' out') && sameB (formB b rows out) (formB b' rows' out') (minRV b rows out) (minRV b' rows' out') (minOV b rows out) (minOV b' rows' out')) := rfl
  have HCF := Lib.hid (spec_min _ b rows out _ (HS.out.below HB.out) HSZ.out)
  have HCG := Lib.hid (fun (W : World) (hW : Below w.heap.size w W) => spec_min _ b' rows' out' W (HS'.out.below hW) HSZ'.out)
  obtain ⟨B1, hB1⟩ : ∃ B, B = formB b rows out := ⟨_, rfl⟩
  obtain ⟨R1, hR1⟩ : ∃ R, R = minRV b rows out := ⟨_, rfl⟩
  obtain ⟨O1, hO1⟩ : ∃ O, O = minOV b rows out := ⟨_, rfl⟩
  obtain ⟨K1, hK1⟩ : ∃ O, O = formK b rows out := ⟨_, rfl⟩
  obtain ⟨B2, hB2⟩ : ∃ B, B = formB b' rows' out' := ⟨_, rfl⟩
  obtain ⟨R2, hR2⟩ : ∃ R, R = minRV b' rows' out' := ⟨_, rfl⟩
  obtain ⟨O2, hO2⟩ : ∃ O, O = minOV b' rows' out' := ⟨_, rfl⟩
  obtain ⟨K2, hK2⟩ : ∃ O, O = formK b' rows' out' := ⟨_, rfl⟩
  rw [← hB1, ← hR1, ← hO1, ← hK1] at HCF
  rw [← hB2, ← hR2, ← hO2, ← hK2] at HCG
  rw [hk0, ← hB1, ← hR1, ← hO1, ← hK1, ← hB2, ← hR2, ← hO2, ← hK2]
  clear hk0 hB1 hR1 hO1 hK1 hB2 hR2 hO2 hK2
  have k0 := HC.out.c0
  have k1 := HC.out.c1
  have k2 := HC.out.c2
  go_enter Try.func22, Try.ntmps22
  go_wp2_with fail
  refine HCF.out.mono ?_
  rintro e W1 ⟨v1, rfl, hv1, b1⟩
  obtain ⟨a1, c1, a2, c2, rfl⟩ := hv1.form
  have HB2 := Lib.hid (HB.out.trans (b1.mono HB.out.size))
  have HC2' := Lib.hid ((HC'.out.below b1).alloc (.cells #[.int .i64 B1, .slice a1 R1.length c1, .slice a2 O1.length c2] 27))
  have HX := Lib.hid (Cells3.new W1 27 (.int .i64 B1) (.slice a1 R1.length c1) (.slice a2 O1.length c2))
  have HB3 := Lib.hid (HB2.out.alloc HB2.out.size (.cells #[.int .i64 B1, .slice a1 R1.length c1, .slice a2 O1.length c2] 27))
  have HL := Lib.hid (hv1.lies.below ((Below.refl W1.heap.size W1).alloc (Nat.le_refl _) (.cells #[.int .i64 B1, .slice a1 R1.length c1, .slice a2 O1.length c2] 27)))
  have k3 := HC2'.out.c0
  have k4 := HC2'.out.c1
  have k5 := HC2'.out.c2
  clear b1 hv1 HC HC' HB HB2 HCF k0 k1 k2
  obtain ⟨W2, hW2⟩ : ∃ W, W = W1.alloc (.cells #[.int .i64 B1, .slice a1 R1.length c1, .slice a2 O1.length c2] 27) := ⟨_, rfl⟩
  go_wp2_with fail
  rw [← hW2] at HC2' HX HB3 HL k3 k4 k5 ⊢
  clear hW2
  refine (HCG.out _ HB3.out).mono ?_
  rintro e W3 ⟨v2, rfl, hv2, b2⟩
  obtain ⟨a3, c3, a4, c4, rfl⟩ := hv2.form
  have HB4 := Lib.hid (HB3.out.trans (b2.mono HB3.out.size))
  have HX2 := Lib.hid ((HX.out.below b2).alloc (.cells #[.int .i64 B2, .slice a3 R2.length c3, .slice a4 O2.length c4] 27))
  have HY := Lib.hid (Cells3.new W3 27 (.int .i64 B2) (.slice a3 R2.length c3) (.slice a4 O2.length c4))
  have HB5 := Lib.hid (HB4.out.alloc HB4.out.size (.cells #[.int .i64 B2, .slice a3 R2.length c3, .slice a4 O2.length c4] 27))
  have HL2 := Lib.hid ((HL.out.below b2).below ((Below.refl W3.heap.size W3).alloc (Nat.le_refl _) (.cells #[.int .i64 B2, .slice a3 R2.length c3, .slice a4 O2.length c4] 27)))
  have HM2 := Lib.hid (hv2.lies.below ((Below.refl W3.heap.size W3).alloc (Nat.le_refl _) (.cells #[.int .i64 B2, .slice a3 R2.length c3, .slice a4 O2.length c4] 27)))
  have k0 := HX2.out.c0
  have k1 := HX2.out.c1
  have k2 := HX2.out.c2
  have k6 := HY.out.c0
  have k7 := HY.out.c1
  have k8 := HY.out.c2
  clear b2 hv2 HC2' HX HB4 HCG k3 k4 k5 HL
  cases K1
  · go_wp2
    go_ret
    exact ⟨rfl, HB5.out⟩
  cases K2
  · go_wp2
    go_ret
    exact ⟨rfl, HB5.out⟩
  · go_wp2_with fail
    refine (spec_equal _ _ B1 B2 R1 R2 O1 O2 _ HL2.out HM2.out).mono ?_
    rintro e W5 ⟨rfl, b3⟩
    have HB6 := Lib.hid (HB5.out.trans (b3.mono HB5.out.size))
    clear b3
    go_wp2
    go_ret
    exact ⟨rfl, HB6.out⟩
end Mins
end Go.Proofs.Ytpndclpmhelikaa
/- Plain facts: the minimal form of a minimal form is itself. No conditions beyond those that each fact states. -/
namespace Go.Proofs.Ytpndclpmhelikaa
open Plain
open Seqs
set_option linter.unusedVariables false
namespace Mins
/-- A map of states that goes along with the digits and the terms keeps apart what is apart. -/
theorem hom_cls {X Y : List (List Int)} {ox oy : List Int} {n : Nat} (A : Auto X ox n) (B : Auto Y oy n) (φ : Nat → Nat)
    (hφ : ∀ i < X.length, φ i < Y.length ∧ oy.getD (φ i) 0 = ox.getD i 0 ∧ ∀ d < n, ((Y.getD (φ i) []).getD d 0).toNat = φ ((X.getD i []).getD d 0).toNat) :
    ∀ (k : Nat) {i j : Nat}, i < X.length → j < X.length → ((clsR X ox k).getD i 0 = (clsR X ox k).getD j 0 ↔ (clsR Y oy k).getD (φ i) 0 = (clsR Y oy k).getD (φ j) 0)
  | 0, i, j, hi, hj => by
    rw [clsR_zero, clsR_zero]
    have h1 := (hφ i hi).1
    have h2 := (hφ j hj).1
    simp [List.getD_eq_getElem?_getD, hi, hj, h1, h2]
  | k + 1, i, j, hi, hj => by
    obtain ⟨hi1, hi2, hi3⟩ := hφ i hi
    obtain ⟨hj1, hj2, hj3⟩ := hφ j hj
    rw [cls_iff hi hj, cls_iff hi1 hj1, keyC_iff A hi hj, keyC_iff B hi1 hj1, hi2, hj2]
    refine and_congr_right fun _ => forall_congr' fun d => forall_congr' fun hd => ?_
    rw [hi3 d hd, hj3 d hd]
    exact hom_cls A B φ hφ k (next_lt A hi hd).2 (next_lt A hj hd).2
theorem classes_late {X : List (List Int)} {ox : List Int} {n : Nat} (A : Auto X ox n) {K : Nat} (h : X.length + 1 ≤ K) : clsR X ox K = classes X ox := stable_on (k := X.length + 1) (classes_fix A).1 K h
theorem hom_classes {X Y : List (List Int)} {ox oy : List Int} {n : Nat} (A : Auto X ox n) (B : Auto Y oy n) (φ : Nat → Nat)
    (hφ : ∀ i < X.length, φ i < Y.length ∧ oy.getD (φ i) 0 = ox.getD i 0 ∧ ∀ d < n, ((Y.getD (φ i) []).getD d 0).toNat = φ ((X.getD i []).getD d 0).toNat)
    {i j : Nat} (hi : i < X.length) (hj : j < X.length) : (classes X ox).getD i 0 = (classes X ox).getD j 0 ↔ (classes Y oy).getD (φ i) 0 = (classes Y oy).getD (φ j) 0 := by
  have h := hom_cls A B φ hφ (X.length + Y.length + 1) hi hj
  rw [classes_late A (by omega), classes_late B (by omega)] at h
  exact h
/-- No two states are in one class. -/
def Apart (X : List (List Int)) (ox : List Int) : Prop := ∀ i j, i < X.length → j < X.length → (classes X ox).getD i 0 = (classes X ox).getD j 0 → i = j
theorem row_width {X : List (List Int)} {ox : List Int} {n : Nat} (A : Auto X ox n) {i : Nat} (hi : i < X.length) : (X.getD i []).length = n := by
  rw [List.getD_eq_getElem?_getD, List.getElem?_eq_getElem hi]
  exact A.width _ (List.getElem_mem _)
theorem map_getD {f : Int → Int} {l : List Int} {d : Nat} (h : d < l.length) : (l.map f).getD d 0 = f (l.getD d 0) := by
  rw [List.getD_eq_getElem?_getD, List.getElem?_map, List.getD_eq_getElem?_getD, List.getElem?_eq_getElem h]
  rfl
theorem getD_mem {l : List Int} {d : Nat} (h : d < l.length) : l.getD d 0 ∈ l := by
  rw [List.getD_eq_getElem?_getD, List.getElem?_eq_getElem h]
  exact List.getElem_mem _
theorem cls_surj {rows : List (List Int)} {out : List Int} {n : Nat} (A : Auto rows out n) {c : Nat} (hc : c < (rowsQ rows out).length) : ∃ s < rows.length, ((classes rows out).getD s 0).toNat = c := by
  have hc' : c < (keysQ rows out).length := by simpa [rowsQ] using hc
  have hk := List.getElem?_eq_getElem hc'
  obtain ⟨s, hs, e⟩ := keysQ_mem (List.getElem_mem hc')
  refine ⟨s, hs, ?_⟩
  rw [(class_at A hs).1, Int.toNat_natCast]
  rw [e] at hk
  exact idxOf_get (dist_nodup _) hk
theorem apart_Q {rows : List (List Int)} {out : List Int} {n : Nat} (A : Auto rows out n) : Apart (rowsQ rows out) (outQ rows out) := by
  intro i j hi hj h
  obtain ⟨s, hs, rfl⟩ := cls_surj A hi
  obtain ⟨t, ht, rfl⟩ := cls_surj A hj
  have h1 := (hom_classes A (rowsQ_auto A) (fun s => ((classes rows out).getD s 0).toNat) (fun i hi => by
    have h1 := class_lt A hi
    refine ⟨by omega, (rowsQ_at A hi).2, fun d hd => ?_⟩
    have h2 := (rowsQ_at A hi).1
    show ((rowOf (rowsQ rows out) ((classes rows out).getD i 0)).getD d 0).toNat = _
    rw [h2, map_getD (by rw [row_width A hi]; exact hd)]) hs ht).2 h
  rw [h1]
theorem apart_S {Q : List (List Int)} {o : List Int} {n : Nat} (A : Auto Q o n) (hI : Apart Q o) : Apart (searchR Q) (searchO Q o) := by
  intro i j hi hj h
  have hnd : (reached Q).Nodup := (reachI_ok A.closed _).1
  have hb : ∀ s ∈ reached Q, 0 ≤ s ∧ s < Q.length := (reachI_ok A.closed _).2
  have hl : (searchR Q).length = (reached Q).length := by simp [searchR]
  have g : ∀ k, k < (reached Q).length → (reached Q)[k]? = some ((reached Q).getD k 0) := fun k hk => by
    rw [List.getD_eq_getElem?_getD, List.getElem?_eq_getElem hk]; rfl
  have gm : ∀ k, k < (reached Q).length → (reached Q).getD k 0 ∈ reached Q := fun k hk => List.mem_of_getElem? (g k hk)
  have h1 := (hom_classes (searchR_auto A) A (fun k => ((reached Q).getD k 0).toNat) (fun k hk => by
    rw [hl] at hk
    have h1 := hb _ (gm k hk)
    refine ⟨by omega, ?_, fun d hd => ?_⟩
    · rw [searchO, List.getD_eq_getElem?_getD (l := List.map _ _), List.getElem?_map, g k hk]
      rfl
    · have e : (searchR Q).getD k [] = minRow Q (reached Q) ((reached Q).getD k 0) := by
        rw [searchR, List.getD_eq_getElem?_getD (l := List.map _ _), List.getElem?_map, g k hk]
        rfl
      have hw : (rowOf Q ((reached Q).getD k 0)).length = n := A.width _ (rowOf_mem h1.1 h1.2)
      rw [e, minRow]
      have hd' : d < (rowOf Q ((reached Q).getD k 0)).length := by omega
      rw [map_getD hd', Int.toNat_natCast]
      have hm : (rowOf Q ((reached Q).getD k 0)).getD d 0 ∈ rowOf Q ((reached Q).getD k 0) := getD_mem hd'
      have h3 := get_idxOf (reached_next A.closed (gm k hk) hm)
      show ((rowOf Q ((reached Q).getD k 0)).getD d 0).toNat = ((reached Q).getD (ix (reached Q) ((rowOf Q ((reached Q).getD k 0)).getD d 0)) 0).toNat
      rw [List.getD_eq_getElem?_getD (l := reached Q) (i := ix _ _), h3]
      rfl) hi hj).1 h
  rw [hl] at hi hj
  have h2 := hb _ (gm i hi)
  have h3 := hb _ (gm j hj)
  have h4 := hI _ _ (by omega) (by omega) h1
  have h5 : (reached Q).getD i 0 = (reached Q).getD j 0 := by omega
  have h6 := idxOf_get hnd (g i hi)
  have h7 := idxOf_get hnd (g j hj)
  rw [← h6, ← h7, h5]
theorem nodup_map_on {α β : Type} {f : α → β} : ∀ {l : List α}, l.Nodup → (∀ a ∈ l, ∀ b ∈ l, f a = f b → a = b) → (l.map f).Nodup
  | [], _, _ => List.nodup_nil
  | a :: l, hn, hf => by
    rw [List.nodup_cons] at hn
    rw [List.map_cons, List.nodup_cons]
    refine ⟨fun hm => ?_, nodup_map_on hn.2 fun x hx y hy => hf x (by simp [hx]) y (by simp [hy])⟩
    obtain ⟨b, hb, e⟩ := List.mem_map.1 hm
    have := hf b (by simp [hb]) a (by simp) e
    exact hn.1 (this ▸ hb)
theorem addAll_fresh {α : Type} [DecidableEq α] : ∀ (xs l : List α), (l ++ xs).Nodup → addAll l xs = l ++ xs
  | [], l, _ => by simp [addAll_nil]
  | x :: xs, l, h => by
    have hx : x ∉ l := fun hx => by
      rw [List.nodup_append] at h
      exact h.2.2 x hx x (by simp) rfl
    rw [addAll_cons, addTo_new hx, addAll_fresh xs (l ++ [x]) (by simpa using h)]
    simp
theorem dist_fresh {α : Type} [DecidableEq α] {l : List α} (h : l.Nodup) : dist l = l := by
  rw [dist, addAll_fresh l [] (by simpa using h)]
  rfl
/-- An automaton whose states are apart is its own merged automaton. -/
theorem own_Q {X : List (List Int)} {ox : List Int} {n : Nat} (A : Auto X ox n) (hI : Apart X ox) : rowsQ X ox = X ∧ outQ X ox = ox := by
  have hnd : (keysOf X ox (classes X ox)).Nodup := nodup_map_on List.nodup_range fun i hi j hj h => by
    rw [List.mem_range] at hi hj
    have h1 := (cls_iff (k := X.length + 1) hi hj).2 h
    have h2 : clsR X ox (X.length + 1 + 1) = classes X ox := (classes_fix A).1
    rw [h2] at h1
    exact hI i j hi hj h1
  have hd := dist_fresh hnd
  have hc : ∀ i < X.length, (classes X ox).getD i 0 = (i : Int) := fun i hi => by
    have h1 : (keysOf X ox (classes X ox))[i]? = some (keyC X ox (classes X ox) i) := by simp [keysOf, hi]
    rw [(class_at A hi).1, keysQ, hd, idxOf_get hnd h1]
  constructor
  · rw [rowsQ, keysQ, hd, keysOf, List.map_map]
    apply List.ext_getElem?
    intro i
    rcases Nat.lt_or_ge i X.length with hi | hi
    · rw [List.getElem?_map, List.getElem?_range hi, List.getElem?_eq_getElem hi]
      show some (keyC X ox (classes X ox) i).tail = _
      have e : X.getD i [] = X[i] := by rw [List.getD_eq_getElem?_getD, List.getElem?_eq_getElem hi]; rfl
      rw [keyC, List.tail_cons, e]
      congr 1
      refine (List.map_congr_left fun x hx => ?_).trans (List.map_id _)
      have h1 := A.closed.2 _ (List.getElem_mem hi) x hx
      rw [hc _ (by omega)]
      show ((x.toNat : Nat) : Int) = x
      omega
    · rw [List.getElem?_eq_none (by simpa using hi), List.getElem?_eq_none hi]
  · rw [outQ, keysQ, hd, keysOf, List.map_map]
    apply List.ext_getElem?
    intro i
    rcases Nat.lt_or_ge i X.length with hi | hi
    · have hi' : i < ox.length := by rw [A.terms]; exact hi
      rw [List.getElem?_map, List.getElem?_range hi, List.getElem?_eq_getElem hi']
      show some ((keyC X ox (classes X ox) i).headD 0) = _
      rw [keyC, List.getD_eq_getElem?_getD, List.getElem?_eq_getElem hi']
      rfl
    · rw [List.getElem?_eq_none (by simpa using hi), List.getElem?_eq_none (by rw [A.terms]; exact hi)]
/-- What a search among found states finds. -/
theorem reach_S {Q : List (List Int)} {o : List Int} {n : Nat} (A : Auto Q o n) : ∀ i, reachI (searchR Q) i = (reachI Q i).map fun x => (ix (reached Q) x : Int)
  | 0 => by
    have hnd : (reached Q).Nodup := (reachI_ok A.closed _).1
    have h := idxOf_get hnd (reached_zero Q)
    simp only [reachI, List.map_cons, List.map_nil]
    rw [h]
    rfl
  | i + 1 => by
    have ih := reach_S A i
    cases hs : (reachI Q i)[i]? with
    | none =>
      have h1 : (reachI (searchR Q) i)[i]? = none := by rw [ih, List.getElem?_map, hs]; rfl
      rw [reachI, h1, reachI, hs]
      exact ih
    | some s =>
      have hnd : (reached Q).Nodup := (reachI_ok A.closed _).1
      have hL : (reached Q)[i]? = some s := by
        obtain ⟨t, ht⟩ := reachI_sub A.closed i
        rw [← ht, List.getElem?_append_left (List.getElem?_eq_some_iff.1 hs).1]
        exact hs
      have h1 : (reachI (searchR Q) i)[i]? = some (i : Int) := by
        rw [ih, List.getElem?_map, hs, Option.map_some, idxOf_get hnd hL]
      have h2 : rowOf (searchR Q) (i : Int) = (rowOf Q s).map fun x => (ix (reached Q) x : Int) := by
        rw [rowOf, searchR, Int.toNat_natCast, List.getD_eq_getElem?_getD, List.getElem?_map, hL]
        rfl
      rw [reachI_step h1, reachI_step hs, ih, h2]
      refine addAll_map (fun x => (ix (reached Q) x : Int)) (reached Q) (fun a ha b hb e => idxOf_inj ha hb (by have e' : (ix (reached Q) a : Int) = ix (reached Q) b := e; omega)) _ _ (fun x hx => ?_) (fun x hx => reached_next A.closed (List.mem_of_getElem? hL) hx)
      obtain ⟨t, ht⟩ := reachI_sub A.closed i
      rw [← ht]
      exact List.mem_append_left _ hx
theorem reached_S {Q : List (List Int)} {o : List Int} {n : Nat} (A : Auto Q o n) : reached (searchR Q) = (List.range (searchR Q).length).map fun i : Nat => (i : Int) := by
  have hl : (searchR Q).length = (reached Q).length := by simp [searchR]
  have hnd : (reached Q).Nodup := (reachI_ok A.closed _).1
  show reachI (searchR Q) (searchR Q).length = _
  rw [hl, reach_S A, reachI_end A.closed (reachI_sub A.closed _).length_le]
  apply List.ext_getElem?
  intro i
  rcases Nat.lt_or_ge i (reached Q).length with hi | hi
  · have h := List.getElem?_eq_getElem hi
    rw [List.getElem?_map, List.getElem?_map, h, List.getElem?_range hi, Option.map_some, idxOf_get hnd h]
    rfl
  · rw [List.getElem?_eq_none (by simpa using hi), List.getElem?_eq_none (by simpa using hi)]
/-- An automaton whose states are found in their order is what a search makes of it. -/
theorem own_S {X : List (List Int)} {ox : List Int} {n : Nat} (A : Auto X ox n) (hr : reached X = (List.range X.length).map fun i : Nat => (i : Int)) : searchR X = X ∧ searchO X ox = ox := by
  have hnd : (reached X).Nodup := (reachI_ok A.closed _).1
  have hg : ∀ i < X.length, (reached X)[i]? = some (i : Int) := fun i hi => by
    rw [hr, List.getElem?_map, List.getElem?_range hi]; rfl
  have hl : (reached X).length = X.length := by rw [hr]; simp
  constructor
  · apply List.ext_getElem?
    intro i
    rw [searchR, List.getElem?_map]
    rcases Nat.lt_or_ge i X.length with hi | hi
    · rw [hg i hi, List.getElem?_eq_getElem hi]
      have e : rowOf X (i : Int) = X[i] := by rw [rowOf, Int.toNat_natCast, List.getD_eq_getElem?_getD, List.getElem?_eq_getElem hi]; rfl
      rw [Option.map_some, minRow, e]
      congr 1
      refine (List.map_congr_left fun x hx => ?_).trans (List.map_id _)
      have h1 := A.closed.2 _ (List.getElem_mem hi) x hx
      have h2 := hg x.toNat (by omega)
      rw [Int.toNat_of_nonneg h1.1] at h2
      rw [idxOf_get hnd h2]
      show ((x.toNat : Nat) : Int) = x
      omega
    · rw [List.getElem?_eq_none (by rw [hl]; exact hi), List.getElem?_eq_none hi]
      rfl
  · apply List.ext_getElem?
    intro i
    rw [searchO, List.getElem?_map]
    rcases Nat.lt_or_ge i X.length with hi | hi
    · have hi' : i < ox.length := by rw [A.terms]; exact hi
      rw [hg i hi, List.getElem?_eq_getElem hi', Option.map_some, Int.toNat_natCast, List.getD_eq_getElem?_getD, List.getElem?_eq_getElem hi']
      rfl
    · rw [List.getElem?_eq_none (by rw [hl]; exact hi), List.getElem?_eq_none (by rw [A.terms]; exact hi)]
      rfl
theorem min_own {rows : List (List Int)} {out : List Int} {n : Nat} (A : Auto rows out n) : minR (minR rows out) (minO rows out) = minR rows out ∧ minO (minR rows out) (minO rows out) = minO rows out := by
  have B := rowsQ_auto A
  have C := searchR_auto B
  obtain ⟨h1, h2⟩ := own_Q C (apart_S B (apart_Q A))
  obtain ⟨h3, h4⟩ := own_S C (reached_S B)
  unfold minR minO
  rw [h1, h2]
  exact ⟨h3, h4⟩
theorem form_steady {b : Int} {rows : List (List Int)} {out : List Int} (hk : formK b rows out = true) : nextS (formR b rows out) 0 0 = 0 := by
  rcases form_parts b rows out with ⟨h1, _, _, h2, h3⟩ | ⟨h1, _⟩ | ⟨hq, _, _, _, _, h2, h3⟩
  · rw [h2]
    simp only [steadyB, Bool.and_eq_true, decide_eq_true_eq] at h1
    exact h1.2
  · rw [hk] at h1; cases h1
  · rw [h2]; rfl
theorem min_steady {rows : List (List Int)} {out : List Int} {n : Nat} (A : Auto rows out n) (hn : 0 < n) (h : nextS rows 0 0 = 0) : nextS (minR rows out) 0 0 = 0 := by
  have hz := reached_zero (rowsQ rows out)
  have B := rowsQ_auto A
  have h0 : 0 < rows.length := A.closed.1
  have hq : (rowOf (rowsQ rows out) 0).getD 0 0 = 0 := by
    have h1 := (rowsQ_at A h0).1
    rw [class_zero A] at h1
    rw [h1, map_getD (by rw [row_width A h0]; exact hn)]
    have h2 : (rows.getD 0 []).getD 0 0 = 0 := h
    rw [h2]
    exact class_zero A
  show ((searchR (rowsQ rows out)).getD 0 []).getD 0 0 = 0
  have e : (searchR (rowsQ rows out)).getD 0 [] = minRow (rowsQ rows out) (reached (rowsQ rows out)) 0 := by
    rw [searchR, List.getD_eq_getElem?_getD (l := List.map _ _), List.getElem?_map, hz]
    rfl
  have hw : (rowOf (rowsQ rows out) 0).length = n := B.width _ (rowOf_mem (by omega) (by have := B.closed.1; omega))
  have hnd : (reached (rowsQ rows out)).Nodup := (reachI_ok B.closed _).1
  rw [e, minRow, map_getD (by omega), hq, idxOf_get hnd hz]
  rfl
/-- The minimal form has a steady form: itself; its minimal form is itself. -/
theorem min_min {b : Int} {rows : List (List Int)} {out : List Int} (hk : formK b rows out = true) :
    formK b (minRV b rows out) (minOV b rows out) = true ∧ minRV b (minRV b rows out) (minOV b rows out) = minRV b rows out ∧ minOV b (minRV b rows out) (minOV b rows out) = minOV b rows out ∧ isMinB b (minRV b rows out) (minOV b rows out) = true := by
  have hv := form_valid hk
  have hm := min_valid hk
  have hB : formB b rows out = b := by rw [formB, if_pos hk]
  rw [hB] at hv hm
  have hA := hv.auto
  have hs : steadyB b (minRV b rows out) (minOV b rows out) = true := by
    rw [steadyB, seqB_yes hm, Bool.true_and, decide_eq_true_eq, minRV, if_pos hk]
    exact min_steady hA (by have := hv.1; omega) (form_steady hk)
  have hk' : formK b (minRV b rows out) (minOV b rows out) = true := by rw [formK, hs]; rfl
  have h1 : formR b (minRV b rows out) (minOV b rows out) = minRV b rows out := by rw [formR, if_pos hs]
  have h2 : formO b (minRV b rows out) (minOV b rows out) = minOV b rows out := by rw [formO, if_pos hs]
  have h3 : minRV b (minRV b rows out) (minOV b rows out) = minRV b rows out := by
    rw [minRV, if_pos hk', h1, h2]
    rw [show minRV b rows out = minR (formR b rows out) (formO b rows out) from by rw [minRV, if_pos hk], show minOV b rows out = minO (formR b rows out) (formO b rows out) from by rw [minOV, if_pos hk]]
    exact (min_own hA).1
  have h4 : minOV b (minRV b rows out) (minOV b rows out) = minOV b rows out := by
    rw [minOV, if_pos hk', h1, h2]
    rw [show minRV b rows out = minR (formR b rows out) (formO b rows out) from by rw [minRV, if_pos hk], show minOV b rows out = minO (formR b rows out) (formO b rows out) from by rw [minOV, if_pos hk]]
    exact (min_own hA).2
  refine ⟨hk', h3, h4, ?_⟩
  rw [isMinB, hk', h3]
  simp
end Mins
end Go.Proofs.Ytpndclpmhelikaa
