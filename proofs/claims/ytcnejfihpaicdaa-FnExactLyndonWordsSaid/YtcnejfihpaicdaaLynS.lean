/- Contracts of the model's IsLyndon and LyndonFactors. No conditions beyond those that each states. -/
import Derived.Test.YtcnejfihpaicdaaLynI
import Derived.Test.YtcnejfihpaicdaaRowsV
namespace Go.Proofs.Ytcnejfihpaicdaa
open Go.ChangeShapes Go.WideShapes Go.ChangeAt Go.RowKit
open Go.PlainAid Plain
set_option linter.unusedVariables false
namespace Lynd
open Fac Seqs
theorem lyB_no {u : List Int} {k : Nat} (h0 : 0 < k) (hk : k < u.length) (h : 0 ≤ cmpW u (u.drop k)) : lyB u = false := by
  rw [Bool.eq_false_iff]
  intro e
  have := (lyB_iff.1 e).2 k h0 hk
  omega
theorem lyB_yes {u : List Int} (h : ∀ k, 0 < k → k < u.length → cmpW u (u.drop k) < 0) : lyB u = decide (0 < u.length) := by
  by_cases h0 : 0 < u.length
  · rw [decide_eq_true h0]
    exact lyB_iff.2 ⟨h0, h⟩
  · rw [decide_eq_false h0, Bool.eq_false_iff]
    intro e
    exact h0 (lyB_iff.1 e).1
set_option maxRecDepth 100000 in
set_option maxHeartbeats 2000000 in
theorem spec_lyn (v : Value) (u : List Int) (w : World) (h : LiesC w v u) :
    Calls Try.prog 11 #[v] w fun e w' => e = .returned (.bool (lyB u)) ∧ Below w.heap.size w w' := by
  have hsm := h.1.1
  obtain ⟨a, ca, rfl, _⟩ := h.form
  have HX := Lib.hid h
  clear h
  go_enter Try.func11, Try.ntmps11
  go_wp2
  go_loopw [3] (fun k' wr => ∃ k : Nat, k ≤ u.length ∧ k' = .int .i64 ((k : Int) + 1) ∧ Hid (∀ q, 0 < q → q < k + 1 → q < u.length → cmpW u (u.drop q) < 0) ∧ Hid (Below w.heap.size w wr)) (fun k' _ => u.length + 1 - (intOf k').toNat)
  case atStart => exact ⟨0, Nat.zero_le _, by go_num, fun q h1 h2 => by omega, Below.refl _ _⟩
  case round =>
    obtain ⟨k, hk, rfl, HK, HB⟩ := hrel
    by_cases hlt : k + 1 < u.length
    · have hlt1 : (k : Int) + 1 < (u.length : Int) := by omega
      obtain ⟨a2, c2, hsl, hc2⟩ := cut_from HX.out (l := k + 1) (by omega) (L := (k : Int) + 1) (by omega)
      obtain ⟨V, hV⟩ : ∃ V, V = u.drop (k + 1) := ⟨_, rfl⟩
      rw [← hV] at hsl hc2
      have HCC := Lib.hid (spec_cmp _ _ u V wr (HX.out.lies.below HB.out) (hc2.lies.below HB.out))
      obtain ⟨z, hz⟩ : ∃ z, z = cmpW u V := ⟨_, rfl⟩
      rw [← hz] at HCC
      have HZ := Lib.hid hz
      have HVV := Lib.hid hV
      have e := cmpW_three u V
      clear hz hc2 hV
      rcases e with e | e | e
      · obtain rfl : z = -1 := HZ.out.trans e
        have HK2 : Hid (∀ q, 0 < q → q < (k + 1) + 1 → q < u.length → cmpW u (u.drop q) < 0) := fun q h1 h2 h3 => by
          by_cases e2 : q = k + 1
          · rw [e2, ← HVV.out]; omega
          · exact HK.out q h1 (by omega) h3
        clear e HZ
        go_wp2_with fail
        refine HCC.out.mono ?_
        rintro e W5 ⟨rfl, b5⟩
        have HB5 := Lib.hid (HB.out.trans (b5.mono HB.out.size))
        clear b5 HCC
        go_wp2
        go_roundw
        case rel => exact ⟨k + 1, by omega, by go_num, HK2, HB5⟩
        case measure => simp [intOf]; omega
      · obtain rfl : z = 0 := HZ.out.trans e
        have HE := Lib.hid (lyB_no (u := u) (k := k + 1) (by omega) hlt (by rw [← HVV.out]; omega)).symm
        clear e HZ
        go_wp2_with fail
        refine HCC.out.mono ?_
        rintro e W5 ⟨rfl, b5⟩
        have HB5 := Lib.hid (HB.out.trans (b5.mono HB.out.size))
        clear b5 HCC
        go_wp2
        go_ret
        exact ⟨Fac.ret_b HE.out, HB5.out⟩
      · obtain rfl : z = 1 := HZ.out.trans e
        have HE := Lib.hid (lyB_no (u := u) (k := k + 1) (by omega) hlt (by rw [← HVV.out]; omega)).symm
        clear e HZ
        go_wp2_with fail
        refine HCC.out.mono ?_
        rintro e W5 ⟨rfl, b5⟩
        have HB5 := Lib.hid (HB.out.trans (b5.mono HB.out.size))
        clear b5 HCC
        go_wp2
        go_ret
        exact ⟨Fac.ret_b HE.out, HB5.out⟩
    · have hlt1 : ¬ (k : Int) + 1 < (u.length : Int) := by omega
      have HE := Lib.hid (lyB_yes (u := u) fun q h1 h2 => HK.out q h1 (by omega) h2).symm
      go_wp2
      go_ret
      exact ⟨Fac.ret_b HE.out, HB.out⟩
set_option maxRecDepth 100000 in
set_option maxHeartbeats 4000000 in
theorem spec_lf (v : Value) (u : List Int) (w : World) (h : LiesC w v u) (hs : u.length ≤ 1048576) :
    Calls Try.prog 15 #[v] w (GivesV (lynF u) w) := by
  obtain ⟨i0, hi, hz0, hz1, hz2⟩ := info_parts Ints.infoI
  obtain ⟨j0, hj, hy0, hy1, hy2⟩ := info_parts infoR'
  have hsm := h.1.1
  obtain ⟨a, ca, rfl, _⟩ := h.form
  have HX := Lib.hid h
  have HB : Hid (Below w.heap.size w (w.alloc (Obj.cells #[] 22))) := (Below.refl _ _).alloc (Nat.le_refl _) _
  have HO : Hid (RowsV (w.alloc (Obj.cells #[] 22)) w.heap.size w.heap.size (.slice (some ⟨w.heap.size, 0, none⟩) 0 0) []) := RowsV.nil (has_lit0 (enc := id) rfl (Nat.le_refl _))
  clear h
  go_enter Try.func15, Try.ntmps15
  go_wp2
  go_loopw [3, 4, 5, 6] (fun o' i' j' k' wr => ∃ (i : Nat) (vo : Value) (rows : List (List Int)), i ≤ u.length ∧ vo = o' ∧ i' = .int .i64 i ∧ Hid (RowsV wr w.heap.size w.heap.size vo rows) ∧ Hid (rows ++ lynF (u.drop i) = lynF u) ∧ Hid (Below w.heap.size w wr)) (fun _ i' _ _ _ => u.length - (intOf i').toNat)
  case atStart => exact ⟨0, _, [], Nat.zero_le _, rfl, rfl, HO, rfl, HB⟩
  case round =>
    clear HO HB
    obtain ⟨i, vo, rows, hil, rfl, rfl, HO, HE, HB⟩ := hrel
    obtain ⟨W0, rfl⟩ : ∃ W : World, W = wr := ⟨_, rfl⟩
    by_cases hlt : i < u.length
    · have HD0 := Lib.hid (Duv.start hlt)
      go_wp2
      go_loopw [5, 6] (fun j' k' wr => ∃ (j k : Nat), i ≤ k ∧ k < j ∧ j ≤ u.length ∧ j' = .int .i64 j ∧ k' = .int .i64 k ∧ Hid (Duv u i j k) ∧ Hid (∃ n, wr = W0.drewN n)) (fun j' _ _ => u.length - (intOf j').toNat)
      case atStart => exact ⟨i + 1, i, Nat.le_refl _, by omega, by omega, by go_num, rfl, HD0, 0, rfl⟩
      case round =>
        clear HD0
        obtain ⟨j, k, hik, hkj, hjl, rfl, rfl, HD, HW⟩ := hrel
        have hkl : k < u.length := by omega
        obtain ⟨y, hy⟩ : ∃ y, u[k]? = some y := ⟨_, List.getElem?_eq_getElem hkl⟩
        obtain ⟨g, o, rfl, hc2⟩ := lies_at (enc := (Value.int .i64)) (HX.out.lies.below HB.out) hy
        by_cases hlj : j < u.length
        · obtain ⟨x, hx⟩ : ∃ x, u[j]? = some x := ⟨_, List.getElem?_eq_getElem hlj⟩
          obtain ⟨_, _, e, hc1⟩ := lies_at (enc := (Value.int .i64)) (HX.out.lies.below HB.out) hx
          cases e
          rcases Int.lt_trichotomy y x with hxy | hxy | hxy
          · have HD2 := Lib.hid (HD.out.more hy hx hxy)
            have hle : y ≤ x := by omega
            obtain ⟨n, hn⟩ := HW.out
            subst hn
            clear hx hy HD
            go_wp2_with fail
            go_quiet (fail)
            go_wp2_with fail
            go_quiet (fail)
            go_wp2
            go_roundw
            case rel => exact ⟨j + 1, i, Nat.le_refl _, by omega, by omega, by go_num, rfl, HD2, ⟨_, rfl⟩⟩
            case measure => simp [intOf]; omega
          · subst hxy
            have HD2 := Lib.hid (HD.out.same hlj (hy.trans hx.symm))
            have hle : y ≤ y := by omega
            obtain ⟨n, hn⟩ := HW.out
            subst hn
            clear hx hy HD
            go_wp2_with fail
            go_quiet (fail)
            go_wp2_with fail
            go_quiet (fail)
            go_wp2
            go_roundw
            case rel => exact ⟨j + 1, k + 1, by omega, by omega, by omega, by go_num, by go_num, HD2, ⟨_, rfl⟩⟩
            case measure => simp [intOf]; omega
          · have HS : Hid (j = u.length ∨ ∃ a b : Int, u[k]? = some a ∧ u[j]? = some b ∧ b < a) := .inr ⟨y, x, hy, hx, hxy⟩
            have hle : ¬ y ≤ x := by omega
            obtain ⟨n, hn⟩ := HW.out
            subst hn
            clear hx hy
            go_wp2_with fail
            go_quiet (fail)
            go_wp2
            go_loopw [3, 4] (fun o' i' wr => ∃ (i2 : Nat) (vq : Value) (rows2 : List (List Int)), i2 ≤ j ∧ i ≤ i2 ∧ vq = o' ∧ i' = .int .i64 i2 ∧ Hid (i2 ≤ k → Duv u i2 j k) ∧ Hid (RowsV wr w.heap.size w.heap.size vq rows2) ∧ Hid (rows2 ++ lynF (u.drop i2) = lynF u) ∧ Hid (Below w.heap.size w wr)) (fun _ i' _ => u.length + 1 - (intOf i').toNat)
            case atStart => exact ⟨i, _, rows, by omega, Nat.le_refl _, rfl, rfl, fun _ => HD.out, HO.out.below (by repeat (first | exact Below.refl _ _ | apply below_drewN)), HE, HB.out.trans (Below.mono (by repeat (first | exact Below.refl _ _ | apply below_drewN)) HB.out.size)⟩
            case round =>
              obtain ⟨i2, vq, rows2, hi2, hii, rfl, rfl, HD2, HO2, HE2, HB2⟩ := hrel
              by_cases hle : i2 ≤ k
              · obtain ⟨p, hp⟩ : ∃ p, p = j - k := ⟨_, rfl⟩
                have hout := (HD2.out hle).out HS.out
                have hnx : i2 + p ≤ k → Duv u (i2 + p) j k := fun h => by rw [hp]; exact (HD2.out hle).next (by rw [← hp]; exact h)
                rw [← hp] at hout
                have HNX := Lib.hid hnx
                have HRL := lynF_part (b := []) HE2.out
                have hrl : rows2.length ≤ 10000000 := by omega
                have hp0 : 0 < p := by omega
                have hjp : j = k + p := by omega
                obtain ⟨a1, c1, hsl, hcut⟩ := HX.out.slice (l := i2) (h := i2 + p) (by omega) (by omega) (L := (i2 : Int)) (H := (i2 : Int) + (j : Int) - (k : Int)) rfl (by omega)
                rw [show i2 + p - i2 = p from by omega] at hsl hcut
                obtain ⟨X, hX⟩ : ∃ X, X = (u.drop i2).take p := ⟨_, rfl⟩
                rw [← hX] at hcut hout
                have hXl : X.length ≤ 1048576 := by rw [hX, List.length_take, List.length_drop]; omega
                have HEN : Hid ((rows2 ++ [X]) ++ lynF (u.drop (i2 + p)) = lynF u) := by
                  show _ = _
                  rw [List.append_assoc, ← HE2.out, hout]
                  rfl
                have HCT := Lib.hid hcut
                have HJP := Lib.hid hjp
                obtain ⟨va, vc, hvo⟩ := HO2.out.form
                subst hvo
                clear hcut hX hout hnx hjp HRL hp
                go_wp2_with (first | (refine append_lies (enc := (Value.int .i64)) (e := 3) _ rfl (.tmp 48) (.tmp 56) 22 rfl (wr).heap.size i0 (.int .i64 0) 8 Try.underlying22 hi hz0 hz1 hz2 rfl (.slice (some ⟨(wr).heap.size, 0, none⟩) 0 0) [] rfl (has_lit0 rfl (Nat.le_refl _)) (.slice a1 p c1) X rfl (lies_alloc (HCT.out.lies.below HB2.out) _) (fun _ => rfl) (by simp; omega) (by simp; omega) (by simp) ?_; intro vn wn hn hgn; rw [List.nil_append] at hn; obtain ⟨an, cn, rfl, _⟩ := hn.form; have bn : Below (wr).heap.size wr wn := grown_below2 (.inl (grown_alloc hgn)) (Nat.le_refl _); have HOn := Lib.hid (HO2.out.below bn); have HBn := Lib.hid (HB2.out.trans (bn.mono HB2.out.size)); have HVn := Lib.hid (hn.mono HB2.out.size); have HLn := Lib.hid HBn.out.size; clear hn hgn) | (refine wpList_append_rowV rfl (.tmp 47) (.tmp 58) 26 rfl j0 Try.underlying26 hj hy0 hy1 hy2 _ rfl HOn.out _ X HVn.out _ rfl rfl hrl HLn.out ?_; intro vm wm hom hgm; have HOm := Lib.hid hom; have HBm := Lib.hid (HOn.out.frame HBn.out (Nat.le_refl _) hgm); clear hom hgm))
                have hjk : (i2 : Int) + (j : Int) - (k : Int) = (i2 : Int) + (p : Int) := by have := HJP.out; omega
                go_roundw
                case rel => exact ⟨i2 + p, _, _, by have := HJP.out; omega, by omega, rfl, by go_num, HNX, HOm, HEN, HBm⟩
                case measure => simp [intOf]; omega
              · go_wp2
                go_roundw
                case rel => exact ⟨i2, _, rows2, by omega, rfl, rfl, HO2, HE2, HB2⟩
                case measure => simp [intOf]; omega
        · have HS : Hid (j = u.length ∨ ∃ a b : Int, u[k]? = some a ∧ u[j]? = some b ∧ b < a) := .inl (by omega)
          obtain ⟨n, hn⟩ := HW.out
          subst hn
          clear hy
          go_wp2_with fail
          go_quiet (fail)
          go_wp2
          go_loopw [3, 4] (fun o' i' wr => ∃ (i2 : Nat) (vq : Value) (rows2 : List (List Int)), i2 ≤ j ∧ i ≤ i2 ∧ vq = o' ∧ i' = .int .i64 i2 ∧ Hid (i2 ≤ k → Duv u i2 j k) ∧ Hid (RowsV wr w.heap.size w.heap.size vq rows2) ∧ Hid (rows2 ++ lynF (u.drop i2) = lynF u) ∧ Hid (Below w.heap.size w wr)) (fun _ i' _ => u.length + 1 - (intOf i').toNat)
          case atStart => exact ⟨i, _, rows, by omega, Nat.le_refl _, rfl, rfl, fun _ => HD.out, HO.out.below (by repeat (first | exact Below.refl _ _ | apply below_drewN)), HE, HB.out.trans (Below.mono (by repeat (first | exact Below.refl _ _ | apply below_drewN)) HB.out.size)⟩
          case round =>
            obtain ⟨i2, vq, rows2, hi2, hii, rfl, rfl, HD2, HO2, HE2, HB2⟩ := hrel
            by_cases hle : i2 ≤ k
            · obtain ⟨p, hp⟩ : ∃ p, p = j - k := ⟨_, rfl⟩
              have hout := (HD2.out hle).out HS.out
              have hnx : i2 + p ≤ k → Duv u (i2 + p) j k := fun h => by rw [hp]; exact (HD2.out hle).next (by rw [← hp]; exact h)
              rw [← hp] at hout
              have HNX := Lib.hid hnx
              have HRL := lynF_part (b := []) HE2.out
              have hrl : rows2.length ≤ 10000000 := by omega
              have hp0 : 0 < p := by omega
              have hjp : j = k + p := by omega
              obtain ⟨a1, c1, hsl, hcut⟩ := HX.out.slice (l := i2) (h := i2 + p) (by omega) (by omega) (L := (i2 : Int)) (H := (i2 : Int) + (j : Int) - (k : Int)) rfl (by omega)
              rw [show i2 + p - i2 = p from by omega] at hsl hcut
              obtain ⟨X, hX⟩ : ∃ X, X = (u.drop i2).take p := ⟨_, rfl⟩
              rw [← hX] at hcut hout
              have hXl : X.length ≤ 1048576 := by rw [hX, List.length_take, List.length_drop]; omega
              have HEN : Hid ((rows2 ++ [X]) ++ lynF (u.drop (i2 + p)) = lynF u) := by
                show _ = _
                rw [List.append_assoc, ← HE2.out, hout]
                rfl
              have HCT := Lib.hid hcut
              have HJP := Lib.hid hjp
              obtain ⟨va, vc, hvo⟩ := HO2.out.form
              subst hvo
              clear hcut hX hout hnx hjp HRL hp
              go_wp2_with (first | (refine append_lies (enc := (Value.int .i64)) (e := 3) _ rfl (.tmp 48) (.tmp 56) 22 rfl (wr).heap.size i0 (.int .i64 0) 8 Try.underlying22 hi hz0 hz1 hz2 rfl (.slice (some ⟨(wr).heap.size, 0, none⟩) 0 0) [] rfl (has_lit0 rfl (Nat.le_refl _)) (.slice a1 p c1) X rfl (lies_alloc (HCT.out.lies.below HB2.out) _) (fun _ => rfl) (by simp; omega) (by simp; omega) (by simp) ?_; intro vn wn hn hgn; rw [List.nil_append] at hn; obtain ⟨an, cn, rfl, _⟩ := hn.form; have bn : Below (wr).heap.size wr wn := grown_below2 (.inl (grown_alloc hgn)) (Nat.le_refl _); have HOn := Lib.hid (HO2.out.below bn); have HBn := Lib.hid (HB2.out.trans (bn.mono HB2.out.size)); have HVn := Lib.hid (hn.mono HB2.out.size); have HLn := Lib.hid HBn.out.size; clear hn hgn) | (refine wpList_append_rowV rfl (.tmp 47) (.tmp 58) 26 rfl j0 Try.underlying26 hj hy0 hy1 hy2 _ rfl HOn.out _ X HVn.out _ rfl rfl hrl HLn.out ?_; intro vm wm hom hgm; have HOm := Lib.hid hom; have HBm := Lib.hid (HOn.out.frame HBn.out (Nat.le_refl _) hgm); clear hom hgm))
              have hjk : (i2 : Int) + (j : Int) - (k : Int) = (i2 : Int) + (p : Int) := by have := HJP.out; omega
              go_roundw
              case rel => exact ⟨i2 + p, _, _, by have := HJP.out; omega, by omega, rfl, by go_num, HNX, HOm, HEN, HBm⟩
              case measure => simp [intOf]; omega
            · go_wp2
              go_roundw
              case rel => exact ⟨i2, _, rows2, by omega, rfl, rfl, HO2, HE2, HB2⟩
              case measure => simp [intOf]; omega
    · have HE2 : Hid (rows = lynF u) := by
        have := HE.out
        rw [lynF_nil (by rw [List.length_drop]; omega), List.append_nil] at this
        exact this
      go_wp2
      go_ret
      exact ⟨_, rfl, by rw [← HE2.out]; exact HO.out.own, HB.out⟩
end Lynd
end Go.Proofs.Ytcnejfihpaicdaa
