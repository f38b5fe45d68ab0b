/- Contract of the model's PalindromesOf. No conditions beyond those that it states. -/
import Derived.Test.YtgbgcaaekpgapabPalVal2
import Derived.Test.YtgbgcaaekpgapabPalS
import Derived.Test.YtgbgcaaekpgapabFacS
namespace Go.Proofs.Ytgbgcaaekpgapab
open Go.ChangeShapes Go.WideShapes Go.ChangeAt Go.RowKit
open Go.PlainAid Plain
set_option linter.unusedVariables false
namespace Fac
open Seqs
theorem gv_no {xs : List Int} {W : World} {e : Ending} {W' : World} (h : palV xs = []) (hg : GivesV [] W e W') : GivesV (palV xs) W e W' := by rw [h]; exact hg
/-- 'out = append(out, l...)', both slices of words. -/
theorem append_rowsV {P : Program} {wr : World} {lo base lo2 : Nat} {rows rows2 : List (List Int)} {ops : Array Oper} {rest : List Oper} {o : Oper} {a : Act} {Q : Exit → Act → World → Prop} (hgd : o.guard = none) (s x : Operand) (t : TypeId)
    (ho : o.op = .call { callee := .builtin .append, args := #[s, x], argTypes := #[t, t] })
    (i : TypeInfo) (ht : P.underlying t = some (.slice 22)) (hi : P.info? 22 = some i) (hz : i.zero = some (.slice none 0 0)) (hsize : i.size = 1) (hby : i.bytes = 24)
    (v : Value) (hs : a.eval s = v) (hown : RowsV wr lo base v rows) (u : Value) (hx : a.eval x = u) (hu : RowsV wr lo2 base u rows2) (hlen : rows.length + rows2.length ≤ 1000000) (hlo : lo ≤ wr.heap.size)
    (h : ∀ v' w', RowsV w' lo base v' (rows ++ rows2) → wr.grownBy w' v.ownBlock → wpList P ops Q rest (a.put o.dst v') w') :
    wpList P ops Q (o :: rest) a wr := by
  obtain ⟨us, h1, h2, h3⟩ := hown
  obtain ⟨us2, k1, k2, k3⟩ := hu
  refine wpList_append_list (enc := id) (e := 22) hgd s x t ho lo i (.slice none 0 0) 24 ht hi hz hsize hby rfl v us hs h1 u us2 hx k1.lies (fun y hy => ?_) (by omega) (by omega) hlo ?_
  · obtain ⟨j, hj⟩ := List.getElem?_of_mem hy
    obtain ⟨r, hr⟩ : ∃ r, rows2[j]? = some r := ⟨_, List.getElem?_eq_getElem (by have := (List.getElem?_eq_some_iff.1 hj).1; omega)⟩
    obtain ⟨_, _, rfl, _⟩ := (k3 j y r hj hr).form
    rfl
  · intro v' w' hv' hg _
    refine h v' w' ⟨us ++ us2, hv', by rw [List.length_append, List.length_append, h2, k2], fun j u r hu hr => ?_⟩ hg
    have keep : ∀ {u : Value} {r : List Int}, Has (Value.int .i64) 3 wr base u r → Has (Value.int .i64) 3 w' base u r := fun hh => hh.grown hg (h1.ne_row hh)
    rcases Nat.lt_or_ge j us.length with hj | hj
    · rw [List.getElem?_append_left hj] at hu
      rw [List.getElem?_append_left (by omega)] at hr
      exact keep (h3 j u r hu hr)
    · rw [List.getElem?_append_right hj] at hu
      rw [List.getElem?_append_right (by omega), ← h2] at hr
      exact keep (k3 _ u r hu hr)
set_option maxRecDepth 100000 in
set_option maxHeartbeats 4000000 in
theorem spec_pals (v : Value) (xs : List Int) (w : World) (h : LiesC w v xs) :
    Calls Try.prog 17 #[v] w (GivesV (palV xs) w) := by
  obtain ⟨j0, hj, hy0, hy1, hy2⟩ := info_parts infoR'
  obtain ⟨a, ca, rfl, hcap⟩ := h.form
  have HX := Lib.hid h
  have HB : Hid (Below w.heap.size w (w.alloc (Obj.cells #[] 22))) := (Below.refl _ _).alloc (Nat.le_refl _) _
  have HO : Hid (Has id 22 (w.alloc (Obj.cells #[] 22)) w.heap.size (.slice (some ⟨w.heap.size, 0, none⟩) 0 0) []) := has_lit0 (enc := id) rfl (Nat.le_refl _)
  clear h
  go_enter Try.func17, Try.ntmps17
  go_wp2_with fail
  obtain ⟨W, hW⟩ : ∃ W, W = w.alloc (Obj.cells #[] 22) := ⟨_, rfl⟩
  rw [← hW] at HB HO ⊢
  clear hW
  refine (Mor.spec_word _ xs 16 _ (HX.out.lies.below HB.out)).mono ?_
  rintro e W1 ⟨rfl, rfl⟩
  obtain ⟨c, hc⟩ : ∃ c, wordB xs 16 = c := ⟨_, rfl⟩
  rw [hc]
  have HC := Lib.hid hc
  clear hc
  cases c with
  | false =>
    go_wp2
    go_ret
    exact gv_no (palK_no1 HC.out) ⟨_, rfl, (RowsV.nil HO.out).own, HB.out⟩
  | true =>
    by_cases h64 : xs.length ≤ 64
    · have hd := decide_eq_false (show ¬ (xs.length : Int) > 64 by omega)
      have HV := Lib.hid (palK_yes HC.out h64)
      go_wp2
      clear hd
      go_loopw [3, 4] (fun o' n' wr => ∃ (n : Nat) (vo : Value), n ≤ xs.length ∧ n' = .int .i64 ((n : Int) + 1) ∧ vo = o' ∧ Hid (RowsV wr w.heap.size w.heap.size vo (palT xs n)) ∧ Hid (Below w.heap.size w wr)) (fun _ n' _ => xs.length + 2 - (intOf n').toNat)
      case atStart => exact ⟨0, _, Nat.zero_le _, by go_num, rfl, RowsV.nil HO.out, HB⟩
      case round =>
        obtain ⟨n, vo, hn, rfl, rfl, HOr, HBr⟩ := hrel
        by_cases hlt : n < xs.length
        · have hdn := decide_eq_true (show (n : Int) + 1 ≤ (xs.length : Int) by omega)
          have hb5 : Below wr.heap.size wr (wr.alloc (Obj.cells #[] 22)) := (Below.refl _ _).alloc (Nat.le_refl _) _
          have HL0 : Hid (RowsV (wr.alloc (Obj.cells #[] 22)) wr.heap.size w.heap.size (.slice (some ⟨wr.heap.size, 0, none⟩) 0 0) []) := RowsV.nil (has_lit0 (enc := id) rfl (Nat.le_refl _))
          have HO0 := Lib.hid (HOr.out.below hb5)
          have HB0 := Lib.hid (HBr.out.trans (hb5.mono HBr.out.size))
          have hpl := palT_small h64 hn
          obtain ⟨va, vc, hvo⟩ := HOr.out.form
          subst hvo
          have HS0 := Lib.hid HBr.out.size
          clear hb5
          go_wp2
          go_loopw [5, 6] (fun l' i' wr' => ∃ (i : Nat) (vl : Value), i ≤ xs.length - n ∧ i' = .int .i64 i ∧ vl = l' ∧ Hid (RowsV wr' w.heap.size w.heap.size vl (palP xs (n + 1) i)) ∧ Hid (RowsV wr' w.heap.size w.heap.size (.slice va (palT xs n).length vc) (palT xs n)) ∧ Hid (Below w.heap.size w wr')) (fun _ i' _ => xs.length + 1 - (intOf i').toNat)
          case atStart => exact ⟨0, _, Nat.zero_le _, rfl, rfl, HL0.out.mono HS0.out (Nat.le_refl _), HO0, HB0⟩
          case round =>
            obtain ⟨i, vl, hi', rfl, rfl, HLr, HOs, HBs⟩ := hrel
            by_cases hil : i + (n + 1) ≤ xs.length
            · obtain ⟨a1, c1, hsl, hcut⟩ := (HX.out.below HBs.out).slice (l := i) (h := i + (n + 1)) (by omega) hil (L := (i : Int)) (H := (i : Int) + ((n : Int) + 1)) rfl (by omega)
              rw [show i + (n + 1) - i = n + 1 from by omega] at hsl hcut
              have HCT := Lib.hid hcut
              have HPC := Lib.hid (spec_pal _ _ wr hcut.lies (by rw [List.length_take]; omega))
              clear hcut
              obtain ⟨c, hc⟩ : ∃ c, palB ((xs.drop i).take (n + 1)) = c := ⟨_, rfl⟩
              rw [hc] at HPC
              have HCC := Lib.hid hc
              clear hc
              go_wp2_with fail
              refine HPC.out.mono ?_
              rintro e W7 ⟨rfl, b7⟩
              have HL7 := Lib.hid (HLr.out.below b7)
              have HO7 := Lib.hid (HOs.out.below b7)
              have HT7 := Lib.hid (HCT.out.lies.below b7)
              have HB7 := Lib.hid (HBs.out.trans (b7.mono HBs.out.size))
              clear b7 HLr HOs HBs HCT HPC
              cases c with
              | true =>
                have HPY := Lib.hid (palP_yes hil HCC.out)
                have HPP := Lib.hid (put vl _ (palP xs (n + 1) i) _ W7 w.heap.size w.heap.size HL7.out HT7.out HB7.out.size (by have := palP_len xs (n + 1) i; omega) (by rw [List.length_take]; omega))
                go_wp2_with fail
                refine HPP.out.mono ?_
                rintro e W8 ⟨v8, rfl, ho8, b8⟩
                rw [← HPY.out] at ho8
                have HL8 := Lib.hid (ho8.mono HB7.out.size (Nat.le_refl _))
                have HO8 := Lib.hid (HO7.out.below b8)
                have HB8 := Lib.hid (HB7.out.trans (b8.mono HB7.out.size))
                clear ho8 b8 HPP hsl
                go_wp2
                go_roundw
                case rel => exact ⟨i + 1, _, by omega, by go_num, rfl, HL8, HO8, HB8⟩
                case measure => simp [intOf] <;> omega
              | false =>
                have HPN := Lib.hid (palP_no hil HCC.out)
                clear hsl
                go_wp2
                go_roundw
                case rel => exact ⟨i + 1, _, by omega, by go_num, rfl, by rw [HPN.out]; exact HL7, HO7, HB7⟩
                case measure => simp [intOf] <;> omega
            · have HE := Lib.hid (palP_all (xs := xs) (n := n + 1) (i := i) (by omega))
              have hnl := palN_len xs (n + 1)
              have HL9 : Hid (RowsV wr w.heap.size w.heap.size vl (palN xs (n + 1))) := by have := HLr.out; rwa [HE.out] at this
              obtain ⟨la, lc, hvl⟩ := HL9.out.form
              subst hvl
              have HPT : Hid (palT xs (n + 1) = palT xs n ++ palN xs (n + 1)) := rfl
              obtain ⟨A, hA⟩ : ∃ A, A = palT xs n := ⟨_, rfl⟩
              obtain ⟨B, hB⟩ : ∃ B, B = palN xs (n + 1) := ⟨_, rfl⟩
              rw [← hA] at HPT HOs hpl ⊢
              rw [← hB] at HPT HL9 hnl ⊢
              have HLB := Lib.hid (show A.length + B.length ≤ 1000000 by omega)
              clear hA hB hpl hnl HLr HE
              go_wp2_with (at_builtin; refine append_rowsV rfl _ _ 27 rfl j0 Try.underlying27 hj hy0 hy1 hy2 _ rfl HOs.out _ rfl HL9.out HLB.out HBs.out.size ?_; intro v9 w9 ho9 hg9)
              have HO9 : Hid (RowsV w9 w.heap.size w.heap.size v9 (palT xs (n + 1))) := by rw [HPT.out]; exact ho9
              have HB9 := Lib.hid (HOs.out.frame HBs.out (Nat.le_refl _) hg9)
              clear ho9 hg9
              go_roundw
              case rel => exact ⟨n + 1, _, by omega, by go_num, rfl, HO9, HB9⟩
              case measure => simp [intOf] <;> omega
        · have hne : n = xs.length := by omega
          have HE : Hid (RowsV wr w.heap.size w.heap.size vo (palV xs)) := by
            have h := HOr.out
            rw [hne, ← HV.out] at h
            exact h
          go_wp2
          go_ret
          exact ⟨_, rfl, HE.out.own, HBr.out⟩
    · have hd := decide_eq_true (show (xs.length : Int) > 64 by omega)
      go_wp2
      go_ret
      exact gv_no (palK_no2 h64) ⟨_, rfl, (RowsV.nil HO.out).own, HB.out⟩
end Fac
end Go.Proofs.Ytgbgcaaekpgapab
