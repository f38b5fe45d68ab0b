/- Contracts of the model's l11Turn, ConjugatesOf and LeastConjugate. No conditions beyond those that each states. -/
import Derived.Test.YtcnejfihpaicdaaSplS
import Derived.Test.YtcnejfihpaicdaaPutS
namespace Go.Proofs.Ytcnejfihpaicdaa
open Go.ChangeShapes Go.WideShapes Go.ChangeAt Go.RowKit
open Go.PlainAid Plain
set_option linter.unusedVariables false
namespace Lynd
open Fac Seqs
set_option maxRecDepth 100000 in
set_option maxHeartbeats 4000000 in
theorem spec_turn (v : Value) (u : List Int) (k : Nat) (w0 w : World) (h : LiesC w0 v u) (hb : Below w0.heap.size w0 w) (hk : k < u.length) (hs : u.length ≤ 1048576) :
    Calls Try.prog 38 #[v, .int .i64 k] w (Gives (Value.int .i64) 3 (u.drop k ++ u.take k) w) := by
  obtain ⟨i0, hi, hz0, hz1, hz2⟩ := info_parts Ints.infoI
  obtain ⟨a, ca, rfl, _⟩ := h.form
  obtain ⟨a2, c2, hsl, hc2⟩ := cut_from h (l := k) (by omega) (L := (k : Int)) rfl
  obtain ⟨a3, c3, hsl3, hc3⟩ := cut_to h (h := k) (by omega) (H := (k : Int)) rfl
  obtain ⟨V, hV⟩ : ∃ V, V = u.drop k := ⟨_, rfl⟩
  obtain ⟨X, hX⟩ : ∃ X, X = u.take k := ⟨_, rfl⟩
  rw [← hV] at hsl hc2
  rw [← hX] at hc3
  rw [← hV, ← hX]
  have hV0 : 0 < V.length := by rw [hV, List.length_drop]; omega
  have hVl : V.length ≤ 1048576 := by rw [hV, List.length_drop]; omega
  have hXl : X.length ≤ 1048576 := by rw [hX, List.length_take]; omega
  have hl2 := hc2.lies.below hb
  obtain ⟨p2, o2, rfl, _⟩ := lies_at (enc := (Value.int .i64)) hl2 (List.getElem?_eq_getElem hV0)
  have HC2 := Lib.hid hl2
  have HC3 := Lib.hid (hc3.lies.below hb)
  clear hc2 hc3 hl2 hV hX h hb
  go_enter Try.func38, Try.ntmps38
  go_wp2_with fail
  go_region_law (first
    | (refine step_copy_new rfl (.tmp 5) (.tmp 8) 22 rfl i0 Try.underlying22 hi hz0 hz1 hz2 _ rfl w (by repeat (first | with_reducible exact Below.refl _ _ | with_reducible apply bel_drew | with_reducible apply bel_alloc)) p2 o2 V.length c2 V rfl HC2.out hV0 hVl ?_; intro va wa hoa hba; have HVA := Lib.hid hoa; have HBA := Lib.hid hba; have HL3 := Lib.hid (HC3.out.below hba); have HBS := Lib.hid hba.size; clear hoa hba)
    | (refine step_append_list (enc := (Value.int .i64)) (e := 3) rfl (.tmp 9) (.tmp 12) 22 rfl w.heap.size i0 (.int .i64 0) 8 Try.underlying22 hi hz0 hz1 hz2 rfl va V rfl (by exact HVA.out) (.slice a3 k c3) X rfl (by exact HL3.out) (fun _ _ => rfl) (by omega) (by omega) (by exact HBS.out) ?_; intro vb wb hob hgb; have HVB := Lib.hid hob; have HBB := Lib.hid (HVA.out.frame HBA.out (Nat.le_refl _) hgb); clear hob hgb))
  all_goals
    go_wp2
    go_ret
    exact ⟨_, rfl, HVB.out, HBB.out⟩
set_option maxRecDepth 100000 in
set_option maxHeartbeats 4000000 in
theorem spec_conj (v : Value) (u : List Int) (w : World) (h : LiesC w v u) (hs : u.length ≤ 1048576) :
    Calls Try.prog 24 #[v] w (GivesV (conjV u) w) := by
  have HT := Lib.hid (fun (k : Nat) (W : World) (hb : Below w.heap.size w W) (hk : k < u.length) => spec_turn v u k w W h hb hk hs)
  obtain ⟨a, ca, rfl, _⟩ := h.form
  have HX := Lib.hid h
  have HB : Hid (Below w.heap.size w (w.alloc (Obj.cells #[] 22))) := (Below.refl _ _).alloc (Nat.le_refl _) _
  have HO : Hid (RowsV (w.alloc (Obj.cells #[] 22)) w.heap.size w.heap.size (.slice (some ⟨w.heap.size, 0, none⟩) 0 0) []) := RowsV.nil (has_lit0 (enc := id) rfl (Nat.le_refl _))
  clear h
  by_cases h64 : u.length ≤ 64
  · have hd64 := decide_eq_true (show (u.length : Int) ≤ 64 by omega)
    have HE : Hid (conjV u = sdl (rots u)) := by show _ = _; unfold conjV; rw [if_pos h64]
    go_enter Try.func24, Try.ntmps24
    go_wp2
    go_loopw [3, 4] (fun o' k' wr => ∃ (k : Nat) (vo : Value), k ≤ u.length ∧ vo = o' ∧ k' = .int .i64 k ∧ Hid (RowsV wr w.heap.size w.heap.size vo (sdl ((rots u).take k))) ∧ Hid (Below w.heap.size w wr)) (fun _ k' _ => u.length - (intOf k').toNat)
    case atStart => exact ⟨0, _, Nat.zero_le _, rfl, rfl, HO, HB⟩
    case round =>
      clear HO HB
      obtain ⟨k, vo, hk, rfl, rfl, HO, HB⟩ := hrel
      obtain ⟨va, vc, hvo⟩ := HO.out.form
      by_cases hlt : k < u.length
      · have HS := Lib.hid (sdl_snoc ((rots u).take k) (u.drop k ++ u.take k))
        have HR := Lib.hid (rots_take hlt)
        have hlen := sdl_len ((rots u).take k)
        have hrl : (u.drop k ++ u.take k).length ≤ 4194304 := by simp; omega
        rw [List.length_take, rots_len] at hlen
        obtain ⟨M, hM⟩ : ∃ M, M = sdl ((rots u).take k) := ⟨_, rfl⟩
        obtain ⟨X, hX⟩ : ∃ X, X = u.drop k ++ u.take k := ⟨_, rfl⟩
        rw [← hM, ← hX] at HS
        rw [← hM] at HO hvo hlen
        rw [← hX] at hrl HR
        have HTT := Lib.hid (HT.out k wr HB.out hlt)
        rw [← hX] at HTT
        subst hvo
        clear hM hX
        go_wp2_with fail
        refine HTT.out.mono ?_
        rintro e W4 ⟨v4, rfl, h4, b4⟩
        obtain ⟨xa, xc, hx4, _⟩ := h4.form
        have HP := Lib.hid (put (.slice va M.length vc) v4 M X W4 w.heap.size w.heap.size (HO.out.below b4) h4.lies (Nat.le_trans HB.out.size b4.size) (by omega) hrl)
        have HB4 := Lib.hid (HB.out.trans (b4.mono HB.out.size))
        have HL4 := Lib.hid (Nat.le_trans HB.out.size b4.size)
        subst hx4
        clear h4 b4 HTT
        go_wp2_with fail
        refine HP.out.mono ?_
        rintro e W5 ⟨v5, rfl, ho5, b5⟩
        rw [← HS.out, ← HR.out] at ho5
        have HO5 := Lib.hid (ho5.mono HL4.out (Nat.le_refl _))
        have HB5 := Lib.hid (HB4.out.trans (b5.mono HB4.out.size))
        clear ho5 b5 HP
        go_wp2
        go_roundw
        case rel => exact ⟨k + 1, _, by omega, rfl, by go_num, HO5, HB5⟩
        case measure => simp [intOf]; omega
      · have HE2 : Hid (RowsV wr w.heap.size w.heap.size vo (conjV u)) := by
          have := HO.out
          rw [rots_all (by omega), ← HE.out] at this
          exact this
        clear hvo
        go_wp2
        go_ret
        exact ⟨_, rfl, HE2.out.own, HB.out⟩
  · have hd64 := decide_eq_false (show ¬ (u.length : Int) ≤ 64 by omega)
    have hd0 := decide_eq_true (show (0 : Int) < (u.length : Int) by omega)
    have HE := Lib.hid (conjV_big (u := u) (by omega))
    go_enter Try.func24, Try.ntmps24
    go_wp2
    refine wp_loop_rounds 1 ?_
    rw [rounds_succ]
    go_wp2
    go_ret
    exact ⟨_, rfl, by rw [HE.out]; exact HO.out.own, HB.out⟩
set_option maxRecDepth 100000 in
set_option maxHeartbeats 2000000 in
theorem spec_lc (v : Value) (u : List Int) (w : World) (h : LiesC w v u) (hs : u.length ≤ 1048576) :
    Calls Try.prog 21 #[v] w (Gives (Value.int .i64) 3 (lcV u) w) := by
  obtain ⟨i0, hi, hz0, hz1, hz2⟩ := info_parts Ints.infoI
  have HC := Lib.hid (spec_conj v u w h hs)
  obtain ⟨a, ca, rfl, _⟩ := h.form
  have HX := Lib.hid h.lies
  clear h
  obtain ⟨L, hL⟩ : ∃ L, conjV u = L := ⟨_, rfl⟩
  rw [hL] at HC
  cases L with
  | nil =>
    rw [conjV_none hL]
    clear hL
    go_enter Try.func21, Try.ntmps21
    go_wp2_with fail
    refine HC.out.mono ?_
    rintro e W1 ⟨v1, rfl, ho, b1⟩
    obtain ⟨us, ht, _, _, hlen, _⟩ := ho
    obtain ⟨a1, c1, rfl, _⟩ := ht.form
    rw [hlen]
    have HB1 := Lib.hid b1
    have HX1 := Lib.hid (HX.out.below b1)
    clear ht hlen b1 HC
    go_wp2_with (at_builtin; refine append_lies (enc := (Value.int .i64)) (e := 3) _ rfl (.tmp 9) (.tmp 10) 22 rfl W1.heap.size i0 (.int .i64 0) 8 Try.underlying22 hi hz0 hz1 hz2 rfl (.slice (some ⟨W1.heap.size, 0, none⟩) 0 0) [] rfl (has_lit0 rfl (Nat.le_refl _)) (.slice a u.length ca) u rfl (lies_alloc HX1.out _) (fun _ => rfl) (by simp; omega) (by simp; omega) (by simp) ?_; intro vn wn hn hgn; rw [List.nil_append] at hn; have hbn : Below W1.heap.size W1 wn := (has_lit0 (enc := (Value.int .i64)) (e := 3) (w := W1) (base := W1.heap.size) rfl (Nat.le_refl _)).frame ((Below.refl _ _).alloc (Nat.le_refl _) _) (Nat.le_refl _) hgn; have HN := Lib.hid (hn.mono HB1.out.size); have HBN := Lib.hid (HB1.out.trans (hbn.mono HB1.out.size)); clear hn hgn hbn)
    go_ret
    exact ⟨_, rfl, HN.out, HBN.out⟩
  | cons x l =>
    rw [lcV_head hL]
    clear hL
    go_enter Try.func21, Try.ntmps21
    go_wp2_with fail
    refine HC.out.mono ?_
    rintro e W1 ⟨v1, rfl, ho, b1⟩
    obtain ⟨us, ht, _, _, hlen, hrow⟩ := ho
    obtain ⟨uu, huu⟩ : ∃ uu, us[0]? = some uu := ⟨_, List.getElem?_eq_getElem (by rw [hlen]; simp)⟩
    obtain ⟨a1, c1, rfl, _⟩ := ht.form
    obtain ⟨g, o, rfl, hcell⟩ := lies_at (enc := id) ht.lies huu
    have hr := hrow 0 uu x huu rfl
    obtain ⟨ea, ec, rfl⟩ := hr.form
    have HR := Lib.hid hr.has
    have HB1 := Lib.hid b1
    rw [hlen, List.length_cons]
    have hcell2 : W1.cell? ⟨g, o, none⟩ = some (.slice ea x.length ec) := hcell
    have hsm := ht.small
    rw [hlen, List.length_cons] at hsm
    clear ht hlen hrow huu hcell hr b1 HC
    obtain ⟨m, hm⟩ : ∃ m, m = l.length + 1 := ⟨_, rfl⟩
    rw [← hm] at hsm ⊢
    have hm0 : 0 < m := by omega
    have hmd : ((m : Int) == 0) = false := by simp; omega
    clear hm
    go_wp2
    go_ret
    exact ⟨_, rfl, HR.out, HB1.out⟩
end Lynd
end Go.Proofs.Ytcnejfihpaicdaa
