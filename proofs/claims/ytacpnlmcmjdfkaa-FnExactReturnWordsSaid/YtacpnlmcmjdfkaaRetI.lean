/- Contract of the program's ReturnWords. No conditions beyond those that it states. -/
import Derived.Test.YtacpnlmcmjdfkaaFacI
namespace Go.Proofs.Ytacpnlmcmjdfkaa
open Go.ChangeShapes Go.WideShapes Go.ChangeAt Go.RowKit
open Go.PlainAid Plain
set_option linter.unusedVariables false
namespace Fac
open Seqs
theorem gr_no {xs ys : List Int} {W : World} {e : Ending} {W' : World} (h : retK xs ys = false) (hg : GivesR [] W e W') : GivesR (retV xs ys) W e W' := by rw [retV_no h]; exact hg
theorem gr_yes {xs ys : List Int} {W : World} {e : Ending} {W' : World} (h : facB xs = true) (h2 : 0 < ys.length) (hg : GivesR (sdl (segs xs (occ xs ys))) W e W') : GivesR (retV xs ys) W e W' := by rw [retV_yes h h2]; exact hg
theorem occ_pair {xs ys : List Int} {k : Nat} (h : k + 1 < (occ xs ys).length) : ∃ p q : Nat, (occ xs ys)[k]? = some (p : Int) ∧ (occ xs ys)[k + 1]? = some (q : Int) ∧ p ≤ q ∧ q ≤ xs.length := by
  obtain ⟨x, hx⟩ : ∃ x, (occ xs ys)[k]? = some x := ⟨_, List.getElem?_eq_getElem (by omega)⟩
  obtain ⟨y, hy⟩ : ∃ y, (occ xs ys)[k + 1]? = some y := ⟨_, List.getElem?_eq_getElem h⟩
  have h1 := occ_at hx
  have h2 := occ_at hy
  have h3 := occ_asc hx hy
  refine ⟨x.toNat, y.toNat, ?_, ?_, by omega, by omega⟩
  · rw [hx]; congr 1; omega
  · rw [hy]; congr 1; omega
theorem id_has {w0 w : World} {base : Nat} {v : Value} {D : List (Part w0)} (h : Has id 22 w base v (D.map Part.v)) : Has Part.v 22 w base v D := by
  have h' : w.ownsRow base 22 1 v (D.map Part.v).length ((D.map Part.v).map id) := h
  rw [List.length_map, List.map_id] at h'
  exact h'
set_option maxRecDepth 100000 in
set_option maxHeartbeats 4000000 in
theorem impl_ret (u v : Value) (xs ys : List Int) (w : World) (h1 : LiesC w u xs) (h2 : Lies (Value.int .i64) w v ys) (hs2 : ys.length ≤ 4194304) :
    Calls Try.prog 28 #[u, v] w (GivesR (retV xs ys) w) := by
  obtain ⟨j0, hj, hy0, hy1, hy2⟩ := info_parts infoR'
  obtain ⟨a, ca, rfl, hcap⟩ := h1.form
  have HX := Lib.hid h1
  have HY := Lib.hid h2
  have hsm := h1.1.1
  obtain ⟨_, b, cb, rfl, _, _⟩ := h2
  have HF := Lib.hid (has_fac _ xs w h1.1)
  obtain ⟨c, hc⟩ : ∃ c, c = facB xs := ⟨_, rfl⟩
  rw [← hc] at HF
  have HC := Lib.hid hc
  clear h1 hc
  cases c with
  | false =>
    go_enter Try.func28, Try.ntmps28
    go_wp2_with (go_at_call 34; refine HF.out.mono ?_; rintro e w' ⟨rfl, hb⟩)
    go_ret
    exact gr_no (retK_no1 HC.out.symm) ⟨_, [], rfl, ownR_nil _ _, hb⟩
  | true =>
    by_cases hy : 0 < ys.length
    · have hd2 : ((ys.length : Int) == 0) = false := by simp; intro h; simp [h] at hy
      have h128 := facB_len HC.out.symm
      go_enter Try.func28, Try.ntmps28
      go_wp2_with fail
      refine HF.out.mono ?_
      rintro e W1 ⟨rfl, b1⟩
      have HB1 := Lib.hid b1
      clear b1
      go_wp2_with fail
      refine (impl_occ _ _ xs ys _ (HX.out.lies.below HB1.out) (HY.out.below HB1.out) (by omega) hs2).mono ?_
      rintro e W2 ⟨vo, rfl, ho, b2⟩
      obtain ⟨oa, oc, rfl, _⟩ := ho.form
      have HB2 := Lib.hid (HB1.out.trans (b2.mono HB1.out.size))
      have HA := Lib.hid ho.lies
      have HAL := occ_len xs ys
      clear b2 ho hd2 HB1
      go_wp2
      go_loopw [6, 7] (fun o' k' wr => ∃ (k : Nat) (vo : Value) (L : List (Part w)), k ≤ (occ xs ys).length - 1 ∧ k' = .int .i64 ((k : Int) + 1) ∧ vo = o' ∧ Hid (Has Part.v 22 wr W2.heap.size vo L) ∧ Hid (L.map Part.k = segT xs (occ xs ys) k) ∧ Hid (Below W2.heap.size W2 wr)) (fun _ k' _ => (occ xs ys).length + 1 - (intOf k').toNat)
      case atStart => exact ⟨0, _, [], Nat.zero_le _, rfl, rfl, World.ownsRow_nil _ _ _ _, rfl, Below.refl _ _⟩
      case round =>
        obtain ⟨k, vo, L, hk, rfl, rfl, HOr, HLr, HGr⟩ := hrel
        by_cases hlt : k + 1 < (occ xs ys).length
        · obtain ⟨p, q, hp, hq, hpq, hqx⟩ := occ_pair hlt
          obtain ⟨s1, s2, hoa, c1⟩ := lies_at (HA.out.below HGr.out) hp
          subst hoa
          obtain ⟨_, _, hoa, c2⟩ := lies_at (HA.out.below HGr.out) hq
          cases hoa
          obtain ⟨a1, d1, hsl, hcut⟩ := HX.out.slice (l := p) (h := q) hpq hqx (L := (p : Int)) (H := (q : Int)) rfl rfl
          have HCT := Lib.hid hcut
          have hlL : L.length ≤ 200 := by
            have := congrArg List.length HLr.out
            rw [List.length_map, segT_len] at this
            omega
          have HP : Hid ((L ++ [Part.mk hcut.1]).map Part.k = segT xs (occ xs ys) (k + 1)) := by
            show _ = _
            rw [segT_succ (xs := xs) hp hq, List.map_append, HLr.out]
            rfl
          obtain ⟨va, vc, hvo, _⟩ := HOr.out.form
          subst hvo
          have HI5 := Lib.hid (has_id HOr.out)
          have HGS := Lib.hid HGr.out.size
          clear hp hq
          have hwr : IntKind.i64.wrap ((k : Int) + 1 - 1) = (k : Int) := by rw [IntKind.wrap_i64]; omega
          have hwr2 : IntKind.i64.wrap (k : Int) = (k : Int) := by rw [IntKind.wrap_i64]; omega
          have hlt5 : (k : Int) < ((occ xs ys).length : Int) := by omega
          have hlt1 : k < (occ xs ys).length := by omega
          have hlt2 : (k : Int) + 1 < ((occ xs ys).length : Int) := by omega
          have hlt3 : (0 : Int) ≤ (k : Int) + 1 := by omega
          have hlt4 : ((k : Int) + 1).toNat = k + 1 := by omega
          go_wp2
          go_region_law ((refine step_append_at_list (enc := id) (e := 22) rfl (.tmp 25) (.tmp 37) 23 rfl W2.heap.size j0 (.slice none 0 0) 24 Try.underlying23 hj hy0 hy1 hy2 rfl (.slice va L.length vc) (L.map Part.v) rfl (by repeat (first | with_reducible exact HI5.out | with_reducible apply has_drew | with_reducible apply has_alloc)) (Value.slice (some ⟨_, 0, none⟩) 1 1) [.slice a1 (q - p) d1] rfl (by repeat (first | with_reducible apply lies_drew | (with_reducible refine lies_lit1v _ rfl) | with_reducible apply lies_alloc)) (fun y hy => by rw [List.mem_singleton.1 hy]; rfl) (by rw [List.length_map]; simp only [List.length_cons, List.length_nil]; omega) (by rw [List.length_map]; simp only [List.length_cons, List.length_nil]; omega) (by have := HGS.out; simp; omega) ?_; intro v6 w6 ho6 hg6 hb6; refine with_fact (T := wr.grownBy w6 (Value.slice va L.length vc).ownBlock) ?_ ?_; (focus (exact grown_alloc (grown_drew hg6))); intro hg7))
          all_goals
            have HO7 : Hid (Has Part.v 22 w6 W2.heap.size v6 (L ++ [Part.mk hcut.1])) := id_has (by rw [List.map_append]; exact ho6)
            have HG7 := Lib.hid (HOr.out.frame HGr.out (Nat.le_refl _) hg7)
            clear ho6 hg6 hb6 hg7 hsl c1 c2 hwr hwr2 hlt4
            go_wp2
            go_roundw
            case rel => exact ⟨k + 1, _, _, by omega, by go_num, rfl, HO7, HP, HG7⟩
            case measure => simp [intOf]; omega
        · have hE : L.map Part.k = segs xs (occ xs ys) := by
            have := HLr.out
            rw [show k = (occ xs ys).length - 1 from by omega] at this
            exact this
          have hlL : L.length ≤ 100000 := by
            have := congrArg List.length hE
            rw [List.length_map, show (segs xs (occ xs ys)).length = (occ xs ys).length - 1 from segT_len _ _ _] at this
            omega
          have HBr := Lib.hid (HB2.out.trans (HGr.out.mono HB2.out.size))
          have HD := Lib.hid (diff vo w wr L HBr.out (HOr.out.mono HB2.out.size) hlL fun x hx => by
            have h1 : x.k ∈ segs xs (occ xs ys) := by rw [← hE]; exact List.mem_map_of_mem hx
            simp only [segs, segT, List.mem_map, List.mem_range] at h1
            obtain ⟨i, hi, h2⟩ := h1
            have h3 := congrArg List.length h2
            rw [List.length_take, List.length_drop] at h3
            omega)
          rw [hE] at HD
          clear hE hlL
          go_wp2_with fail
          refine HD.out.mono ?_
          rintro e W5 ⟨v5, us5, rfl, ho5, b5⟩
          have HO5 := Lib.hid ho5
          have HB5 := Lib.hid b5
          clear ho5 b5 HD
          go_wp2
          go_ret
          exact gr_yes HC.out.symm hy ⟨_, us5, rfl, HO5.out, HB5.out⟩
    · have hd2 : ((ys.length : Int) == 0) = true := by simp; exact List.eq_nil_of_length_eq_zero (by omega)
      have HK := Lib.hid (retK_no2 (xs := xs) (ys := ys) (by omega))
      go_enter Try.func28, Try.ntmps28
      go_wp2_with (go_at_call 34; refine HF.out.mono ?_; rintro e w' ⟨rfl, hb⟩)
      go_ret
      exact gr_no HK.out ⟨_, [], rfl, ownR_nil _ _, hb⟩
end Fac
end Go.Proofs.Ytacpnlmcmjdfkaa
