/- Contract of the model's FormatSequence. No conditions beyond those that each states. -/
import Derived.Test.YtbebifnnnmgihabDoorFmtI
import Derived.Deep.RegionHeld3
import Derived.BigQuiet
import Derived.Deep.QuietTactic
import Derived.IntWalk
namespace Go.Proofs.YtbebifnnnmgihabDoor
open Go.RowKit
open Go.PlainAid Plain
set_option linter.unusedVariables false
namespace Fmt
open Seqs
theorem cat (l r : List UInt8) : (⟨l.toArray⟩ : ByteArray) ++ (⟨r.toArray⟩ : ByteArray) = ⟨(l ++ r).toArray⟩ := by
  apply ByteArray.ext
  simp
theorem hex_part (x : Nat) (h : x < 16) : HEX.extract x (x + 1) = ⟨#[hexU (x : Int)]⟩ := by
  have : x = 0 ∨ x = 1 ∨ x = 2 ∨ x = 3 ∨ x = 4 ∨ x = 5 ∨ x = 6 ∨ x = 7 ∨ x = 8 ∨ x = 9 ∨ x = 10 ∨ x = 11 ∨ x = 12 ∨ x = 13 ∨ x = 14 ∨ x = 15 := by omega
  rcases this with rfl | rfl | rfl | rfl | rfl | rfl | rfl | rfl | rfl | rfl | rfl | rfl | rfl | rfl | rfl | rfl <;> rfl
set_option maxHeartbeats 1000000 in

theorem digits (v : Value) (r : List Int) (w : World) (h : Lies (Value.int .i64) w v r) (hl : r.length ≤ 100) (hx : ∀ x ∈ r, 0 ≤ x ∧ x < 16) :
    Calls Tryd.prog 21 #[v] w fun e w' => e = .returned (.string ⟨(r.map hexU).toArray⟩) ∧ Below w.heap.size w w' := by
  obtain ⟨_, a, ca, rfl, _, hc⟩ := h
  have HC := Lib.hid hc
  have HX := Lib.hid hx
  clear hc hx
  have hsz := hex_size
  unfold HEX at hsz
  go_enter Tryd.func21, Tryd.ntmps21
  go_wp2
  go_loopw [3, 5] (fun s' i' wr => ∃ k : Nat, k ≤ r.length ∧ i' = .int .i64 k ∧ s' = .string ⟨((r.take k).map hexU).toArray⟩ ∧ ∃ n, wr = w.drewN n) (fun _ i' _ => r.length - (intOf i').toNat)
  case atStart => exact ⟨0, Nat.zero_le _, rfl, rfl, 0, rfl⟩
  case round =>
    obtain ⟨k, hk, rfl, rfl, n, rfl⟩ := hrel
    by_cases hlt : k < r.length
    · obtain ⟨x, hx⟩ : ∃ x, r[k]? = some x := ⟨_, List.getElem?_eq_getElem hlt⟩
      obtain ⟨q, s, rfl, hcell⟩ := HC.out k x hx
      have hxb := HX.out x (List.mem_of_getElem? hx)
      obtain ⟨xn, rfl⟩ := Int.eq_ofNat_of_zero_le hxb.1
      have hx16 : xn < 16 := by have := hxb.2; omega
      have HP := Lib.hid (hex_part xn hx16)
      have HSN := Lib.hid (show (r.take (k + 1)).map hexU = (r.take k).map hexU ++ [hexU (xn : Int)] from by
        obtain ⟨h1, h2⟩ := List.getElem?_eq_some_iff.1 hx
        rw [List.take_succ_eq_append_getElem h1, h2]
        simp)
      have hi0 : (0 : Int) ≤ (k : Int) := Int.natCast_nonneg _
      have hi1 : (k : Int) < (r.length : Int) := by omega
      have hx0 : (0 : Int) ≤ (xn : Int) := Int.natCast_nonneg _
      have hx1 : (xn : Int) + 1 ≤ 16 := by omega
      clear hx hxb
      go_wp2
      have e1 : IntKind.i64.wrap ((xn : Int) + 1) = (xn : Int) + 1 := IntWalk.i64_in _ (by omega)
      have e2 : 0 ≤ (xn : Int) + 1 := by omega
      have e3 : ((xn : Int) + 1).toNat = xn + 1 := by omega
      have e4 : (xn : Int) ≤ (xn : Int) + 1 := by omega
      have e5 : xn + 1 ≤ 16 := by omega
      have e6 : xn ≤ xn + 1 := by omega
      go_quiet (fail)
      clear e1 e2 e3 e4 e5 e6
      go_wp2
      go_roundw
      case rel =>
        refine ⟨k + 1, by omega, by go_num, ?_, _, rfl⟩
        have h1 := HP.out
        unfold HEX at h1
        rw [h1, ← List.map_take, HSN.out]
        exact congrArg Value.string (cat _ [hexU (xn : Int)])
      case measure => simp [intOf]; omega
    · obtain rfl : k = r.length := by omega
      go_wp2
      go_ret
      exact ⟨ret_str (by rw [List.take_length]), below_drewN (Below.refl _ _) _⟩

theorem digits' (D : ByteArray) (v : Value) (r : List Int) (hD : D = ⟨(r.map hexU).toArray⟩) (w : World) (h : Lies (Value.int .i64) w v r) (hl : r.length ≤ 100) (hx : ∀ x ∈ r, 0 ≤ x ∧ x < 16) :
    Calls Tryd.prog 21 #[v] w fun e w' => e = .returned (.string D) ∧ Below w.heap.size w w' := by
  subst hD
  exact digits v r w h hl hx
theorem text_step (s D O : ByteArray) (b : Int) (rows : List (List Int)) (out : List Int) (i : Nat) (r : List Int) (o : Int) (hs : s = ⟨(fmtT b rows out i).toArray⟩) (hD : D = ⟨(r.map hexU).toArray⟩) (hO : O = itoaS o) (h : fmtT b rows out (i + 1) = fmtT b rows out i ++ rowT r o) :
    s ++ ⟨#[32]⟩ ++ D ++ ⟨#[47]⟩ ++ O = ⟨(fmtT b rows out (i + 1)).toArray⟩ := by
  rw [h, hs, hD, hO, rowT]
  apply ByteArray.ext
  simp
theorem fmt_held {w Wd W' : World} {t : TypeId} {x y z u o : Value} {pa o1 po o2 : Nat} (hA : Cells3 Wd w.heap.size t x y z) (h1 : Wd.cell? ⟨pa, o1, none⟩ = some u) (h2 : Wd.cell? ⟨po, o2, none⟩ = some o) (hb : Below Wd.heap.size Wd W') :
    W'.cell? ⟨w.heap.size, 0, none⟩ = some x ∧ W'.cell? ⟨w.heap.size, 1, none⟩ = some y ∧ W'.cell? ⟨w.heap.size, 2, none⟩ = some z ∧ W'.cell? ⟨pa, o1, none⟩ = some u ∧ W'.cell? ⟨po, o2, none⟩ = some o := by
  have hA' := hA.below hb
  exact ⟨hA'.c0, hA'.c1, hA'.c2, (hb.cell (p := ⟨pa, o1, none⟩) (World.block_lt_of_cell? Wd _ h1)).trans h1, (hb.cell (p := ⟨po, o2, none⟩) (World.block_lt_of_cell? Wd _ h2)).trans h2⟩
set_option maxHeartbeats 2000000 in
theorem spec_no (v : Value) (b : Int) (rows : List (List Int)) (out : List Int) (w : World) (h : LiesS w v b rows out) (hq : seqB b rows out = false) :
    Calls Tryd.prog 7 #[v] w fun e w' => e = .returned (.string ⟨#[]⟩) ∧ Below w.heap.size w w' := by
  have HS := Lib.hid h
  obtain ⟨an, cn, ao, co, rfl⟩ := h.form
  clear h
  have hB : Below w.heap.size w (w.alloc (Obj.cells #[Value.int .i64 b, Value.slice an rows.length cn, Value.slice ao out.length co] 28)) := (Below.refl _ _).alloc (Nat.le_refl _) _
  have HB := Lib.hid hB
  have HQ := Lib.hid hq
  clear hB hq
  go_enter Tryd.func7, Tryd.ntmps7
  go_wp2_with fail
  refine (spec_is _ b rows out _ (HS.out.below HB.out)).mono ?_
  rintro e W1 ⟨rfl, b1⟩
  rw [HQ.out]
  have HB1 := Lib.hid (HB.out.trans (b1.mono HB.out.size))
  clear b1
  go_wp2
  go_ret
  exact ⟨rfl, HB1.out⟩
set_option maxHeartbeats 4000000 in
theorem spec_yes (v : Value) (b : Int) (rows : List (List Int)) (out : List Int) (w : World) (h : LiesS w v b rows out) (hq : seqB b rows out = true) :
    Calls Tryd.prog 7 #[v] w fun e w' => e = .returned (.string ⟨(fmtT b rows out rows.length).toArray⟩) ∧ Below w.heap.size w w' := by
  have HS := Lib.hid h
  obtain ⟨an, cn, ao, co, rfl⟩ := h.form
  obtain ⟨vn', vo', hv0, hN, hO⟩ := h
  injection hv0 with hv0
  simp only [Array.mk.injEq, List.cons.injEq, true_and, and_true] at hv0
  obtain ⟨rfl, rfl⟩ := hv0
  have hvs := seqB_out hq
  obtain ⟨pa, off, rfl⟩ : ∃ pa off, an = some ⟨pa, off, none⟩ := by
    obtain ⟨a, cap, hv, _, hc⟩ := hN.row
    obtain ⟨b', o', u', h1, _⟩ := hc 0 _ (List.getElem?_eq_getElem (show 0 < rows.length by have := hvs.2.2.1; omega))
    injection hv with e1 e2 e3
    exact ⟨b', o', by rw [e1, h1]⟩
  have hol := hvs.2.2.2.2.1
  obtain ⟨po, oo, rfl, hpo⟩ : ∃ po oo, ao = some ⟨po, oo, none⟩ ∧ ∀ (i : Nat) (o : Int), out[i]? = some o → w.cell? ⟨po, oo + i, none⟩ = some (.int .i64 o) := by
    obtain ⟨_, ao', co', hv0, _, hco'⟩ := hO
    injection hv0 with e1 e2 e3
    subst e1
    have hl := hvs.2.2.1
    obtain ⟨po', oo', h1, h2⟩ := hco' 0 _ (List.getElem?_eq_getElem (show 0 < out.length by omega))
    subst h1
    refine ⟨po', oo', rfl, fun i o ho => ?_⟩
    obtain ⟨p1, o1, h3, h4⟩ := hco' i o ho
    injection h3 with h3
    injection h3 with h3 h5
    subst h3; subst h5
    exact h4
  have HN := Lib.hid hN
  have HPO := Lib.hid hpo
  have HOL := Lib.hid hol
  have hB : Below w.heap.size w (w.alloc (Obj.cells #[Value.int .i64 b, Value.slice (some ⟨pa, off, none⟩) rows.length cn, Value.slice (some ⟨po, oo, none⟩) out.length co] 28)) := (Below.refl _ _).alloc (Nat.le_refl _) _
  have hA := Cells3.new w 28 (.int .i64 b) (.slice (some ⟨pa, off, none⟩) rows.length cn) (.slice (some ⟨po, oo, none⟩) out.length co)
  have HB := Lib.hid hB
  have HAa := Lib.hid hA
  have HQ := Lib.hid hq
  have HV := Lib.hid hvs
  have hr16 : rows.length ≤ 16 := hvs.2.2.2.1
  have hb4 := hvs.2.1
  have hb2 := hvs.1
  have HBb := Lib.hid (show -9223372036854775808 ≤ b ∧ b ≤ 9223372036854775807 from ⟨by omega, by omega⟩)
  have HFZ := Lib.hid (fmtT_zero b rows out)
  have HFL := Lib.hid (fmtT_len b rows out hvs)
  have hbs : (itoaS b).size ≤ 20 := by have := itoa_one b (by omega) (by omega); show (itoaS b).data.size ≤ _; rw [Array.length_toList] at this; omega
  clear hB hq hA hb4 hb2 hvs hpo hol hN hO
  go_enter Tryd.func7, Tryd.ntmps7
  go_wp2_with fail
  refine (spec_is _ b rows out _ (HS.out.below HB.out)).mono ?_
  rintro e W1 ⟨rfl, b1⟩
  rw [HQ.out]
  have HB1 := Lib.hid (HB.out.trans (b1.mono HB.out.size))
  have HA1 := Lib.hid (HAa.out.below b1)
  have k0 := HA1.out.c0
  have k1 := HA1.out.c1
  have k2 := HA1.out.c2
  clear b1 HB HAa
  go_wp2_with fail
  refine (IntFmt.spec_any b _ HBb.out.1 HBb.out.2).mono ?_
  rintro e W2 ⟨rfl, b1⟩
  have HB2 := Lib.hid (HB1.out.trans (b1.mono HB1.out.size))
  have HA2 := Lib.hid (HA1.out.below b1)
  clear b1 HB1 HA1 k0 k1 k2
  have k0 := HA2.out.c0
  have k1 := HA2.out.c1
  have k2 := HA2.out.c2
  go_wp2_with fail
  clear k0 k1 k2
  go_loopw [3, 4] (fun t3 t4 wr => ∃ i : Nat, i ≤ rows.length ∧ t4 = .int .i64 i ∧ (∃ s : ByteArray, t3 = .string s ∧ s.size ≤ 200 ∧ Hid (s = ⟨(fmtT b rows out i).toArray⟩)) ∧ Hid (Below w.heap.size w wr) ∧ Hid (Cells3 wr w.heap.size 28 (.int .i64 b) (.slice (some ⟨pa, off, none⟩) rows.length cn) (.slice (some ⟨po, oo, none⟩) out.length co))) (fun _ t4 _ => rows.length - (intOf t4).toNat)
  case atStart =>
    have hs0 : (itoaS b ++ ⟨#[58]⟩ : ByteArray).size ≤ 200 := by rw [ByteArray.size_append]; show _ + 1 ≤ _; omega
    exact ⟨0, Nat.zero_le _, rfl, ⟨_, rfl, hs0, by rw [HFZ.out]; exact cat (itoaS b).data.toList [58]⟩, HB2, HA2⟩
  case round =>
    clear HB2 HA2
    obtain ⟨i, hile, rfl, ⟨s0, rfl, hs0, HS0⟩, HB0, HA0⟩ := hrel
    obtain ⟨wo, rfl⟩ : ∃ wo : World, wo = wr := ⟨_, rfl⟩
    have k0 := HA0.out.c0
    have k1 := HA0.out.c1
    have k2 := HA0.out.c2
    by_cases hlt : i < rows.length
    · obtain ⟨r, hr⟩ : ∃ r, rows[i]? = some r := ⟨_, List.getElem?_eq_getElem hlt⟩
      obtain ⟨o, ho⟩ : ∃ o, out[i]? = some o := ⟨_, List.getElem?_eq_getElem (by have := HOL.out; omega)⟩
      have hrow := HV.out.rowOK hr ho
      have hrl : (r.length : Int) = b := hrow.1
      have hb2 := HV.out.1
      have hb4 := HV.out.2.1
      have hr4 : r.length ≤ 4 := by omega
      have HXR := Lib.hid (show ∀ x ∈ r, 0 ≤ x ∧ x < 16 from fun x hx => by have := hrow.2.1 x hx; omega)
      obtain ⟨a0, c0, hv0, _, hcl⟩ := (HN.out.below HB0.out).row
      obtain ⟨pa', off', u, h1, hcell, hlies⟩ := hcl i r hr
      injection hv0 with e1 e2 e3
      rw [← e1] at h1
      injection h1 with h1
      injection h1 with h1 h2
      subst h1; subst h2
      have HL := Lib.hid hlies
      have ho0 : 0 ≤ o := hrow.2.2.1
      have ho3 : o ≤ 3 := hrow.2.2.2
      have HFS := Lib.hid (fmtT_succ b rows out i r o hr ho)
      have HFN := Lib.hid (HFL.out (i + 1) (by omega))
      have hos : (itoaS o).size ≤ 20 := by have := itoa_one o ho0 (by omega); show (itoaS o).data.size ≤ _; rw [Array.length_toList] at this; omega
      obtain ⟨D, hD⟩ : ∃ D : ByteArray, D = ⟨(r.map hexU).toArray⟩ := ⟨_, rfl⟩
      have hds : D.size ≤ 20 := by
        rw [hD]
        show (r.map hexU).toArray.size ≤ _
        rw [List.size_toArray, List.length_map]
        omega
      obtain ⟨O, hO⟩ : ∃ O : ByteArray, O = itoaS o := ⟨_, rfl⟩
      rw [← hO] at hos
      have HFI := Lib.hid (fun W : World => IntFmt.spec_any o W (by omega) (by omega))
      rw [← hO] at HFI
      have HD := Lib.hid hD
      have HO := Lib.hid hO
      clear hD hO
      have hoc : wo.cell? ⟨po, oo + i, none⟩ = some (.int .i64 o) := (HB0.out.cell (p := ⟨po, oo + i, none⟩) (World.block_lt_of_cell? w _ (HPO.out i o ho))).trans (HPO.out i o ho)
      have bd := below_drew' wo
      have HCELL := Lib.hid (show wo.drew.cell? ⟨pa, off + i, none⟩ = some u from (bd.cell (World.block_lt_of_cell? wo _ hcell)).trans hcell)
      have HOC := Lib.hid (show wo.drew.cell? ⟨po, oo + i, none⟩ = some (.int .i64 o) from (bd.cell (World.block_lt_of_cell? wo _ hoc)).trans hoc)
      have HAd := Lib.hid (HA0.out.below bd)
      have HBd := Lib.hid (HB0.out.trans (bd.mono HB0.out.size))
      have HLd := Lib.hid (HL.out.below bd)
      have hi0 : (0 : Int) ≤ (i : Int) := Int.natCast_nonneg _
      have hi1 : (i : Int) < (rows.length : Int) := by omega
      have hi2 : (i : Int) < (out.length : Int) := by have := HOL.out; omega
      obtain ⟨Wd, hWd⟩ : ∃ W, W = wo.drew := ⟨_, rfl⟩
      rw [← hWd] at HCELL HOC HAd HBd HLd
      clear hr ho hrow hrl hb2 hb4 hcell hlies hcl e1 e2 e3 HL hoc bd HB0 HA0
      have z1 : ¬ 9223372036854775807 < s0.size + 1 := by omega
      have z2 : ¬ 9223372036854775807 < s0.size + 1 + D.size := by omega
      have z3 : ¬ 9223372036854775807 < s0.size + 1 + D.size + 1 := by omega
      have z4 : ¬ 9223372036854775807 < s0.size + 1 + D.size + 1 + O.size := by omega
      go_wp2_with fail
      go_region_held3 (fun w' => w'.cell? ⟨w.heap.size, 0, none⟩ = some (.int .i64 b) ∧ w'.cell? ⟨w.heap.size, 1, none⟩ = some (.slice (some ⟨pa, off, none⟩) rows.length cn) ∧ w'.cell? ⟨w.heap.size, 2, none⟩ = some (.slice (some ⟨po, oo, none⟩) out.length co) ∧ w'.cell? ⟨pa, off + i, none⟩ = some u ∧ w'.cell? ⟨po, oo + i, none⟩ = some (.int .i64 o))
        (first | (rw [← hWd]; exact fmt_held HAd.out HCELL.out HOC.out (Below.refl _ _)) | exact fmt_held HAd.out HCELL.out HOC.out bt | exact fmt_held HAd.out HCELL.out HOC.out (bt.trans (bu.mono bt.size)))
        (first
          | (go_at_call 21; rw [← hWd]; refine (digits' D u r HD.out _ HLd.out (by omega) HXR.out).mono ?_; rintro e Wt ⟨rfl, bt⟩)
          | (go_at_call 20; rw [← hWd]; refine (HFI.out _).mono ?_; rintro e Wt ⟨rfl, bt⟩)
          | (go_at_call 21; refine (digits' D u r HD.out _ (HLd.out.below bt) (by omega) HXR.out).mono ?_; rintro e Wu ⟨rfl, bu⟩)
          | (go_at_call 20; refine (HFI.out _).mono ?_; rintro e Wu ⟨rfl, bu⟩))
      all_goals
        have HBe := Lib.hid ((HBd.out.trans (bt.mono HBd.out.size)).trans (bu.mono (HBd.out.trans (bt.mono HBd.out.size)).size))
        have HAe := Lib.hid ((HAd.out.below bt).below bu)
        have HEQ := Lib.hid (text_step s0 D O b rows out i r o HS0.out HD.out HO.out HFS.out)
        clear bt bu hWd HCELL HOC HAd HBd HLd z1 z2 z3 z4 k0 k1 k2
        go_wp2
        go_roundw
        case rel =>
          refine ⟨i + 1, by omega, by go_num, ⟨_, rfl, ?_, HEQ.out⟩, HBe, HAe⟩
          have := HFN.out
          rw [HEQ.out]
          show (fmtT b rows out (i + 1)).toArray.size ≤ _
          rw [List.size_toArray]
          omega
        case measure => simp [intOf]; omega
    · obtain rfl : i = rows.length := by omega
      go_wp2
      go_ret
      exact ⟨ret_str HS0.out, HB0.out⟩

theorem spec_fmt (v : Value) (b : Int) (rows : List (List Int)) (out : List Int) (w : World) (h : LiesS w v b rows out) :
    Calls Tryd.prog 7 #[v] w fun e w' => e = .returned (.string (fmtV b rows out)) ∧ Below w.heap.size w w' := by
  cases hq : seqB b rows out with
  | false => rw [fmtV, if_neg (by simp [hq])]; exact spec_no v b rows out w h hq
  | true => rw [fmtV, if_pos hq]; exact spec_yes v b rows out w h hq

end Fmt
end Go.Proofs.YtbebifnnnmgihabDoor
