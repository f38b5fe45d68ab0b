/- Contract of the program's FormatSequence: the text of a valid sequence, the empty text of every other one. It asks that the library's table of powers of ten hold its numbers. -/
import Derived.Test.YtbebifnnnmgihabDoorFmtVal
import Derived.Test.YtbebifnnnmgihabDoorBuild
import Derived.Test.YtbebifnnnmgihabDoorIntFmt
import Derived.Test.YtbebifnnnmgihabDoorSeqIsI
import Derived.Test.YtbebifnnnmgihabDoorSeqTo
import Derived.Test.YtbebifnnnmgihabDoorSeqs3
import Derived.Test.YtbebifnnnmgihabDoorHexT
namespace Go.Proofs.YtbebifnnnmgihabDoor
open Go.RowKit
open Go.PlainAid Plain
set_option linter.unusedVariables false
namespace Fmt
open Seqs
theorem ret_str {a b : ByteArray} (h : a = b) : Ending.returned (.string a) = Ending.returned (.string b) := by rw [h]
theorem hex_lets : ∀ (r : List Int), (∀ x ∈ r, 0 ≤ x ∧ x < 16) → (strOfNums (digT r)).data.toList = r.map hexU
  | [], _ => rfl
  | x :: r, h => by
    have ih := hex_lets r fun y hy => h y (List.mem_cons_of_mem _ hy)
    have hx := h x (List.mem_cons_self ..)
    obtain ⟨n, rfl⟩ := Int.eq_ofNat_of_zero_le hx.1
    have h1 := hexU_at n (by have := hx.2; omega)
    have h2 : UInt8.ofNat (hexd (n : Int)).toNat = hexU (n : Int) := by
      unfold hexd
      rw [Int.toNat_natCast, h1, Int.toNat_natCast]
      simp
    have h3 : (strOfNums (digT ((n : Int) :: r))).data.toList = UInt8.ofNat (hexd (n : Int)).toNat :: (strOfNums (digT r)).data.toList := by simp [strOfNums, digT]
    rw [h3, h2, ih, List.map_cons]
theorem byte_as (B b : Nat) (l : List UInt8) (c : UInt8) (x : Int) (w : World) (hx : x = (c.toNat : Int)) (h : Build.Holds B b l w) (hl : l.length ≤ 1048576) (hB : B ≤ w.heap.size) :
    Calls Tryd.prog 27 #[.pointer (some ⟨b, 0, none⟩), .int .u8 x] w fun e w' => e = .returned .nilIface ∧ Build.Holds B b (l ++ [c]) w' ∧ Below B w w' := by
  subst hx
  exact Build.write_byte B b l c w h hl hB

theorem c3_below {B : Nat} {w w' : World} {b : Nat} {t : TypeId} {x y z : Value} (h : Below B w w') (hc : Cells3 w b t x y z) (hb : b < B) : Cells3 w' b t x y z := ⟨(h.block b hb).trans hc.row⟩
theorem holds_up {B b : Nat} {l : List UInt8} {w w' : World} (h : Build.Holds B b l w) (hb : Below w.heap.size w w') : Build.Holds B b l w' := by
  have key : ∀ p, Lib.BuilderAt 46 5 B b p (Lib.byteCells l) w → Lib.BuilderAt 46 5 B b p (Lib.byteCells l) w' := by
    rintro p ⟨h1, v, h2, h3, h4⟩
    exact ⟨h1, v, (hb.block b (Array.getElem?_eq_some_iff.1 h2).1).trans h2, World.ownsRow.kept h3 (grown_of_below hb) (by cases v.ownBlock <;> simp), h4⟩
  exact h.imp (key _) (key _)
set_option maxHeartbeats 2000000 in
set_option maxRecDepth 100000 in
theorem impl_no (v : Value) (b : Int) (rows : List (List Int)) (out : List Int) (w : World) (h : LiesS w v b rows out) (hq : seqB b rows out = false) :
    Calls Tryd.prog 9 #[v] w fun e w' => e = .returned (.string ⟨#[]⟩) ∧ Below w.heap.size w w' := by
  have HS := Lib.hid h
  obtain ⟨an, cn, ao, co, rfl⟩ := h.form
  clear h
  have hB : Below w.heap.size w (w.alloc (Obj.cells #[Value.int .i64 b, Value.slice an rows.length cn, Value.slice ao out.length co] 28)) := (Below.refl _ _).alloc (Nat.le_refl _) _
  have HB := Lib.hid hB
  have HQ := Lib.hid hq
  clear hB hq
  go_enter Tryd.func9, Tryd.ntmps9
  go_wp2_with fail
  refine (impl_is _ b rows out _ (HS.out.below HB.out)).mono ?_
  rintro e W1 ⟨rfl, b1⟩
  rw [HQ.out]
  have HB1 := Lib.hid (HB.out.trans (b1.mono HB.out.size))
  clear b1
  go_wp2
  go_ret
  exact ⟨rfl, HB1.out⟩
set_option maxHeartbeats 2000000 in
set_option maxRecDepth 100000 in
theorem impl_yes (v : Value) (b : Int) (rows : List (List Int)) (out : List Int) (w : World) (h : LiesS w v b rows out) (hq : seqB b rows out = true)
    (htab : ∀ W', Below w.heap.size w W' → Lib.TabIs Tryd.prog W' "internal/strconv.uint64pow10" .u64 Lib.pow10Tab) :
    Calls Tryd.prog 9 #[v] w fun e w' => e = .returned (.string ⟨(fmtT b rows out rows.length).toArray⟩) ∧ Below w.heap.size w w' := by
  have HS := Lib.hid h
  have HT := Lib.hid htab
  obtain ⟨an, cn, ao, co, rfl⟩ := h.form
  obtain ⟨vn', vo', hv0, hN, hO⟩ := h
  injection hv0 with hv0
  simp only [Array.mk.injEq, List.cons.injEq, true_and, and_true] at hv0
  obtain ⟨rfl, rfl⟩ := hv0
  have hvs := seqB_out hq
  obtain ⟨pa, off, rfl⟩ : ∃ pa off, an = some ⟨pa, off, none⟩ := by
    obtain ⟨a, cap, hv, _, hc⟩ := hN.row
    obtain ⟨b', o', u', h1, _⟩ := hc 0 _ (List.getElem?_eq_getElem (show 0 < rows.length by have := hvs.2.2.1; omega))
    injection hv with e1 e2 e3
    exact ⟨b', o', by rw [e1, h1]⟩
  have hol := hvs.2.2.2.2.1
  obtain ⟨po, oo, rfl, hpo⟩ : ∃ po oo, ao = some ⟨po, oo, none⟩ ∧ ∀ (i : Nat) (o : Int), out[i]? = some o → w.cell? ⟨po, oo + i, none⟩ = some (.int .i64 o) := by
    obtain ⟨_, ao', co', hv0, _, hco'⟩ := hO
    injection hv0 with e1 e2 e3
    subst e1
    have hl := hvs.2.2.1
    obtain ⟨po', oo', h1, h2⟩ := hco' 0 _ (List.getElem?_eq_getElem (show 0 < out.length by omega))
    subst h1
    refine ⟨po', oo', rfl, fun i o ho => ?_⟩
    obtain ⟨p1, o1, h3, h4⟩ := hco' i o ho
    injection h3 with h3
    injection h3 with h3 h5
    subst h3; subst h5
    exact h4
  have HN := Lib.hid hN
  have HPO := Lib.hid hpo
  have HOL := Lib.hid hol
  clear htab hN hO hvs hpo hol
  have hB : Below w.heap.size w (w.alloc (Obj.cells #[Value.int .i64 b, Value.slice (some ⟨pa, off, none⟩) rows.length cn, Value.slice (some ⟨po, oo, none⟩) out.length co] 28)) := (Below.refl _ _).alloc (Nat.le_refl _) _
  have hA := Cells3.new w 28 (.int .i64 b) (.slice (some ⟨pa, off, none⟩) rows.length cn) (.slice (some ⟨po, oo, none⟩) out.length co)
  have HB := Lib.hid hB
  have HAa := Lib.hid hA
  have HQ := Lib.hid hq
  have HV := Lib.hid (seqB_out hq)
  have hr16 : rows.length ≤ 16 := (seqB_out hq).2.2.2.1
  have hb4 := (seqB_out hq).2.1
  have hb2 := (seqB_out hq).1
  have HBb := Lib.hid (show -9223372036854775808 ≤ b ∧ b ≤ 9223372036854775807 from ⟨by omega, by omega⟩)
  have HIB := Lib.hid (itoa_one b (by omega) (by omega))
  have HFZ := Lib.hid (fmtT_zero b rows out)
  have HFL := Lib.hid (fmtT_len b rows out (seqB_out hq))
  have hs1 : w.heap.size + 1 ≤ (w.alloc (Obj.cells #[Value.int .i64 b, Value.slice (some ⟨pa, off, none⟩) rows.length cn, Value.slice (some ⟨po, oo, none⟩) out.length co] 28)).heap.size := by simp
  clear hB hq hA hb4 hb2
  go_enter Tryd.func9, Tryd.ntmps9
  go_wp2_with fail
  refine (impl_is _ b rows out _ (HS.out.below HB.out)).mono ?_
  rintro e W1 ⟨rfl, b1⟩
  rw [HQ.out]
  have HB1 := Lib.hid (HB.out.trans (b1.mono HB.out.size))
  have HA1 := Lib.hid (HAa.out.below b1)
  have hs2 : w.heap.size + 1 ≤ W1.heap.size := Nat.le_trans hs1 b1.size
  obtain ⟨B, hBB⟩ : ∃ B, B = W1.heap.size := ⟨_, rfl⟩
  have hBw : w.heap.size < B := by omega
  have HBB := Lib.hid hBw
  have HH2 : Hid (Build.Holds B B [] (W1.alloc (.cells #[.pointer none, .slice none 0 0] 46))) := by rw [hBB]; exact Build.fresh W1
  have HB2 := Lib.hid (HB1.out.alloc HB1.out.size (.cells #[.pointer none, .slice none 0 0] 46))
  have HA2 := Lib.hid (HA1.out.alloc (.cells #[.pointer none, .slice none 0 0] 46))
  have hg2 : B ≤ (W1.alloc (.cells #[.pointer none, .slice none 0 0] 46)).heap.size := by rw [hBB]; simp
  have HG2 := Lib.hid hg2
  have k0 := HA1.out.c0
  have k1 := HA1.out.c1
  have k2 := HA1.out.c2
  have n0 := HA2.out.c0
  clear b1 HB HAa hs1 hg2
  go_wp2_with fail
  rw [← hBB]
  obtain ⟨W2, hW2⟩ : ∃ W, W = W1.alloc (.cells #[.pointer none, .slice none 0 0] 46) := ⟨_, rfl⟩
  rw [← hW2] at HH2 HB2 HA2 HG2 ⊢
  refine (IntFmt.impl_any b _ HBb.out.1 HBb.out.2 (HT.out _ HB2.out)).mono ?_
  rintro e W3 ⟨rfl, hb⟩
  have HH3 := Lib.hid (holds_up HH2.out hb)
  have HB3 := Lib.hid (HB2.out.trans (hb.mono HB2.out.size))
  have HA3 := Lib.hid (HA2.out.below hb)
  have HG3 := Lib.hid (Nat.le_trans HG2.out hb.size)
  clear hb HH2 HB2 HA2 HG2 n0 k0 k1 k2 HB1 HA1 hs2 hBB hW2
  go_wp2_with fail
  refine (Build.write_string B B [] _ _ HH3.out (by simp) (by show (itoaS b).data.size ≤ _; have := HIB.out; rw [Array.length_toList] at this; omega) HG3.out).mono ?_
  rintro e W4 ⟨rfl, hh, hb⟩
  have HH4 := Lib.hid hh
  have HB4 := Lib.hid (HB3.out.trans (hb.mono (by omega)))
  have HA4 := Lib.hid (c3_below hb HA3.out hBw)
  have HG4 := Lib.hid (Nat.le_trans HG3.out hb.size)
  clear hh hb HH3 HB3 HA3 HG3
  go_wp2_with fail
  refine (byte_as B B _ 58 58 _ rfl HH4.out (by rw [List.nil_append, HIB.out]; decide) HG4.out).mono ?_
  rintro e W5 ⟨rfl, hh, hb⟩
  have HH5 : Hid (Build.Holds B B (fmtT b rows out 0) W5) := by
    show Build.Holds _ _ _ _
    rw [HFZ.out]
    rw [List.nil_append] at hh
    exact hh
  have HB5 := Lib.hid (HB4.out.trans (hb.mono (by omega)))
  have HA5 := Lib.hid (c3_below hb HA4.out hBw)
  have HG5 := Lib.hid (Nat.le_trans HG4.out hb.size)
  clear hh hb HH4 HB4 HA4 HG4
  have k0 := HA5.out.c0
  have k1 := HA5.out.c1
  have k2 := HA5.out.c2
  go_wp2_with fail
  clear k0 k1 k2
  go_loopw [17] (fun t17 wr => ∃ i : Nat, i ≤ rows.length ∧ t17 = .int .i64 i ∧ Hid (Build.Holds B B (fmtT b rows out i) wr) ∧ Hid (Below w.heap.size w wr) ∧ Hid (Cells3 wr w.heap.size 28 (.int .i64 b) (.slice (some ⟨pa, off, none⟩) rows.length cn) (.slice (some ⟨po, oo, none⟩) out.length co)) ∧ Hid (B ≤ wr.heap.size)) (fun t17 _ => rows.length - (intOf t17).toNat)
  case atStart => exact ⟨0, Nat.zero_le _, rfl, HH5, HB5, HA5, HG5⟩
  case round =>
    clear HH5 HB5 HA5 HG5
    obtain ⟨i, hile, rfl, HH, HB0, HA0, HG0⟩ := hrel
    obtain ⟨wo, rfl⟩ : ∃ wo : World, wo = wr := ⟨_, rfl⟩
    by_cases hlt : i < rows.length
    · obtain ⟨r, hr⟩ : ∃ r, rows[i]? = some r := ⟨_, List.getElem?_eq_getElem hlt⟩
      obtain ⟨o, ho⟩ : ∃ o, out[i]? = some o := ⟨_, List.getElem?_eq_getElem (by have := HOL.out; omega)⟩
      have hrow := HV.out.rowOK hr ho
      have hrl : (r.length : Int) = b := hrow.1
      have hb2 := HV.out.1
      have hb4 := HV.out.2.1
      have hr0 : 0 < r.length := by omega
      have hr4 : r.length ≤ 4 := by omega
      obtain ⟨q, s, c, hcell, hcs, hpa, hqw⟩ := row_at HN.out hr hr0
      have HX := Lib.hid hrow.2.1
      have HCE := Lib.hid hcell
      have HRO := Lib.hid hcs
      have HOC := Lib.hid (HPO.out i o ho)
      have ho0 : 0 ≤ o := hrow.2.2.1
      have ho3 : o ≤ 3 := hrow.2.2.2
      have HIO := Lib.hid (itoa_one o ho0 (by omega))
      have HFS := Lib.hid (fmtT_succ b rows out i r o hr ho)
      have hfl := HFL.out i hile
      have c1 : wo.cell? ⟨pa, off + i, none⟩ = some (.slice (some ⟨q, s, none⟩) r.length c) := (HB0.out.cell (p := ⟨pa, off + i, none⟩) hpa).trans HCE.out
      have hi0 : (0 : Int) ≤ (i : Int) := Int.natCast_nonneg _
      have hi1 : (i : Int) < (rows.length : Int) := by omega
      clear hrow hr ho hcell hcs hrl hb2 hb4
      go_wp2_with fail
      refine (byte_as B B _ 32 32 _ rfl HH.out (by omega) HG0.out).mono ?_
      rintro e W6 ⟨rfl, hh, hb⟩
      have HH6 : Hid (Build.Holds B B (fmtT b rows out i ++ [32]) W6) := hh
      have HB6 := Lib.hid (HB0.out.trans (hb.mono (by omega)))
      have HA6 := Lib.hid (c3_below hb HA0.out hBw)
      have HG6 := Lib.hid (Nat.le_trans HG0.out hb.size)
      clear hh hb HH HB0 HA0 HG0 c1
      have hXX : ∀ x ∈ r, 0 ≤ x ∧ x < 16 := fun x hx => by have := HX.out x hx; omega
      have hlx : (strOfNums (digT r)).data.toList.length = r.length := by rw [hex_lets r hXX, List.length_map]
      have hls : (strOfNums (digT r)).size ≤ 1048576 := by
        have h0 : (strOfNums (digT r)).size = (strOfNums (digT r)).data.toList.length := by rw [Array.length_toList]; rfl
        rw [h0, hlx]
        omega
      have HXX := Lib.hid hXX
      have HR6 : Hid (Lies (Value.int .i64) W6 (.slice (some ⟨q, s, none⟩) r.length c) r) := ⟨by omega, _, _, rfl, fun h => (by cases h), fun k x hx => ⟨q, s, rfl, (HB6.out.cell (p := ⟨q, s + k, none⟩) hqw).trans (HRO.out k x hx)⟩⟩
      clear hXX
      go_wp2_with fail
      refine (Mor.hex_text _ r _ HR6.out (by omega) HXX.out).mono ?_
      rintro e W7 ⟨rfl, hb⟩
      have HH7 := Lib.hid (holds_up HH6.out hb)
      have HB7 := Lib.hid (HB6.out.trans (hb.mono HB6.out.size))
      have HA7 := Lib.hid (HA6.out.below hb)
      have HG7 := Lib.hid (Nat.le_trans HG6.out hb.size)
      clear hb HH6 HB6 HA6 HG6 HR6
      go_wp2_with fail
      refine (Build.write_string B B _ _ _ HH7.out (by rw [List.length_append]; simp only [List.length_cons, List.length_nil]; omega) hls HG7.out).mono ?_
      rintro e W77 ⟨rfl, hh, hb⟩
      have HHf : Hid (Build.Holds B B (fmtT b rows out i ++ 32 :: r.map hexU) W77) := by
        show Build.Holds _ _ _ _
        rw [hex_lets r HXX.out, List.append_assoc] at hh
        exact hh
      have HB0 := Lib.hid (HB7.out.trans (hb.mono (by omega)))
      have HA0 := Lib.hid (c3_below hb HA7.out hBw)
      have HG0 := Lib.hid (Nat.le_trans HG7.out hb.size)
      have hlf : (fmtT b rows out i ++ 32 :: r.map hexU).length ≤ 200 := by rw [List.length_append, List.length_cons, List.length_map]; omega
      clear hh hb HH7 HB7 HA7 HG7 hls
      obtain ⟨wi, rfl⟩ : ∃ wi : World, wi = W77 := ⟨_, rfl⟩
      have hio : (i : Int) < (out.length : Int) := by have := HOL.out; omega
      go_wp2_with fail
      refine (byte_as B B _ 47 47 _ rfl HHf.out (by omega) HG0.out).mono ?_
      rintro e W8 ⟨rfl, hh, hb⟩
      have HH8 := Lib.hid hh
      have HB8 := Lib.hid (HB0.out.trans (hb.mono (by omega)))
      have HA8 := Lib.hid (c3_below hb HA0.out hBw)
      have HG8 := Lib.hid (Nat.le_trans HG0.out hb.size)
      clear hh hb HHf HB0 HA0 HG0
      have c3 : W8.cell? ⟨po, oo + i, none⟩ = some (.int .i64 o) := (HB8.out.cell (p := ⟨po, oo + i, none⟩) (World.block_lt_of_cell? w _ HOC.out)).trans HOC.out
      have k0 := HA8.out.c0
      have k1 := HA8.out.c1
      have k2 := HA8.out.c2
      go_wp2_with fail
      refine (IntFmt.impl_any o _ (by omega) (by omega) (HT.out _ HB8.out)).mono ?_
      rintro e W9 ⟨rfl, hb⟩
      have HH9 := Lib.hid (holds_up HH8.out hb)
      have HB9 := Lib.hid (HB8.out.trans (hb.mono HB8.out.size))
      have HA9 := Lib.hid (HA8.out.below hb)
      have HG9 := Lib.hid (Nat.le_trans HG8.out hb.size)
      clear hb HH8 HB8 HA8 HG8 c3 k0 k1 k2
      go_wp2_with fail
      refine (Build.write_string B B _ _ _ HH9.out (by rw [List.length_append]; simp only [List.length_cons, List.length_nil]; omega) (by show (itoaS o).data.size ≤ _; have := HIO.out; rw [Array.length_toList] at this; omega) HG9.out).mono ?_
      rintro e W10 ⟨rfl, hh, hb⟩
      have HHA : Hid (Build.Holds B B (fmtT b rows out (i + 1)) W10) := by
        show Build.Holds _ _ _ _
        rw [HFS.out, rowT]
        simpa using hh
      have HBA := Lib.hid (HB9.out.trans (hb.mono (by omega)))
      have HAA := Lib.hid (c3_below hb HA9.out hBw)
      have HGA := Lib.hid (Nat.le_trans HG9.out hb.size)
      clear hh hb HH9 HB9 HA9 HG9
      go_wp2
      go_roundw
      case rel => exact ⟨i + 1, by omega, by go_num, HHA, HBA, HAA, HGA⟩
      case measure => simp [intOf]; omega
    · obtain rfl : i = rows.length := by omega
      go_wp2_with fail
      refine (Build.text B B _ _ HH.out HG0.out).mono ?_
      rintro e W6 ⟨rfl, hb⟩
      have HB6 := Lib.hid (HB0.out.trans (hb.mono (by omega)))
      clear hb
      go_wp2
      go_ret
      exact ⟨rfl, HB6.out⟩
theorem impl_fmt (v : Value) (b : Int) (rows : List (List Int)) (out : List Int) (w : World) (h : LiesS w v b rows out)
    (htab : ∀ W', Below w.heap.size w W' → Lib.TabIs Tryd.prog W' "internal/strconv.uint64pow10" .u64 Lib.pow10Tab) :
    Calls Tryd.prog 9 #[v] w fun e w' => e = .returned (.string (fmtV b rows out)) ∧ Below w.heap.size w w' := by
  cases hq : seqB b rows out with
  | false => rw [fmtV, if_neg (by simp [hq])]; exact impl_no v b rows out w h hq
  | true => rw [fmtV, if_pos hq]; exact impl_yes v b rows out w h hq htab

end Fmt
end Go.Proofs.YtbebifnnnmgihabDoor
