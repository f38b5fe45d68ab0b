/- Contracts of the program's OccurrencesOf and IsFactor. No conditions beyond those that each states. -/
import Derived.Test.YtgbgcaaekpgapabOccI
import Derived.Deep.RegionHeld3
import Derived.Deep.DeepCutAuto
namespace Go.Proofs.Ytgbgcaaekpgapab
open Go.ChangeShapes Go.WideShapes Go.ChangeAt Go.RowKit
open Go.PlainAid Plain
set_option linter.unusedVariables false
namespace Fac
open Seqs
/-- The part stands at the end of the first e letters: one more place. -/
theorem mt_case {u t : List Int} : (mt u t (u.length + 1) = u.length ∧ u <:+ t ∧ mt u t u.length = bd u u.length) ∨ (mt u t (u.length + 1) < u.length ∧ ¬ u <:+ t ∧ mt u t u.length = mt u t (u.length + 1)) := by
  have h := mt_range u t
  by_cases hu : u <:+ t
  · exact .inl ⟨(mt_full hu).1, hu, (mt_full hu).2⟩
  · refine .inr ⟨?_, hu, (mt_not hu).symm⟩
    rcases Int.lt_or_eq_of_le h.2 with h1 | h1
    · exact h1
    · exact absurd (mt_is h1) hu
theorem mt_lt (u t : List Int) : -1 ≤ mt u t u.length ∧ mt u t u.length < u.length := gr_ge _ _
theorem mt_step {u w : List Int} {e : Nat} {x : Int} (hx : w[e]? = some x) : fa u (mt u (w.take e) u.length) x = mt u (w.take (e + 1)) (u.length + 1) := by
  obtain ⟨h1, h2⟩ := List.getElem?_eq_some_iff.1 hx
  rw [List.take_succ_eq_append_getElem h1, h2, mt_snoc]
theorem suf_len {u w : List Int} {e : Nat} (h : u <:+ w.take e) : u.length ≤ e := by
  have := h.length_le
  rw [List.length_take] at this
  omega
set_option maxHeartbeats 2000000 in
set_option maxRecDepth 100000 in
theorem impl_occ (u v : Value) (xs ys : List Int) (w : World) (h1 : Lies (Value.int .i64) w u xs) (h2 : Lies (Value.int .i64) w v ys) (hs : xs.length ≤ 4194304) (hs2 : ys.length ≤ 4194304) :
    Calls Try.prog 50 #[u, v] w (Gives (Value.int .i64) 3 (occ xs ys) w) := by
  obtain ⟨i0, hi, hz0, hz1, hz2⟩ := info_parts Ints.infoI
  obtain ⟨a, ca, rfl⟩ := lies_form h1
  obtain ⟨pa, pc, rfl⟩ := lies_form h2
  have HX := Lib.hid h1
  have HY := Lib.hid h2
  clear h1 h2
  go_enter Try.func50, Try.ntmps50
  go_wp2_with fail
  refine (finder _ ys _ HY.out hs2).mono ?_
  rintro e W1 ⟨vb, rfl, hv, b1⟩
  obtain ⟨ba, bc, hvb, _⟩ := hv.form
  rw [bdT_len] at hvb
  subst hvb
  have HB1 := Lib.hid b1
  have HV := Lib.hid hv
  clear hv b1
  have hb2 : Below W1.heap.size W1 (W1.alloc (Obj.cells #[.slice pa ys.length pc, .slice ba (ys.length + 1) bc] 49)) := (Below.refl _ _).alloc (Nat.le_refl _) _
  have HB2 := Lib.hid (HB1.out.trans (hb2.mono HB1.out.size))
  have HC : Hid (CellsN (W1.alloc (Obj.cells #[.slice pa ys.length pc, .slice ba (ys.length + 1) bc] 49)) W1.heap.size 49 [.slice pa ys.length pc, .slice ba (ys.length + 1) bc]) := CellsN.new W1 49 [.slice pa ys.length pc, .slice ba (ys.length + 1) bc]
  have HD := Lib.hid (HV.out.lies.below hb2)
  clear hb2 HV HB1
  go_wp2_with fail
  obtain ⟨q, hq⟩ : ∃ q, q = W1.heap.size := ⟨_, rfl⟩
  obtain ⟨W2, hW2⟩ : ∃ W, W = W1.alloc (Obj.cells #[.slice pa ys.length pc, .slice ba (ys.length + 1) bc] 49) := ⟨_, rfl⟩
  rw [← hW2] at HC HD HB2 ⊢
  rw [← hq] at HC ⊢
  obtain ⟨b1, b2, hba, _⟩ := lies_some HD.out (bdT_at ys (i := ys.length) (j := 0) (Nat.zero_le _))
  subst hba
  clear hW2 hq
  go_loopw [6, 7, 8] (fun o' f' e' wr => ∃ (e : Nat) (m : Int) (vo : Value), e ≤ xs.length ∧ e' = .int .i64 e ∧ f' = .int .i64 m ∧ vo = o' ∧ Hid (m = mt ys (xs.take e) (ys.length + 1)) ∧ Hid (Has (Value.int .i64) 3 wr W2.heap.size vo (occE xs ys e)) ∧ Hid (Below W2.heap.size W2 wr)) (fun _ _ e' _ => xs.length - (intOf e').toNat)
  case atStart => exact ⟨0, 0, _, Nat.zero_le _, rfl, rfl, rfl, (by show 0 = mt ys (xs.take 0) _; rw [List.take_zero, mt_nil]), World.ownsRow_nil _ _ _ _, Below.refl _ _⟩
  case round =>
    obtain ⟨e, m, vo, he, rfl, rfl, rfl, HM, HOr, HGr⟩ := hrel
    obtain ⟨oa, oc, rfl, _⟩ := HOr.out.form
    have HL := Lib.hid (occE_le xs ys e)
    rcases mt_case (u := ys) (t := xs.take e) with ⟨hm, hsuf, hm2⟩ | ⟨hm, hsuf, hm2⟩
    · obtain rfl : m = ys.length := HM.out.trans hm
      have HE := Lib.hid (occE_yes hsuf)
      have hle := suf_len hsuf
      obtain ⟨m2, hm2'⟩ : ∃ m2, m2 = bd ys ys.length := ⟨_, rfl⟩
      have HM2 : Hid (m2 = mt ys (xs.take e) ys.length) := hm2'.trans hm2.symm
      have HM2' := Lib.hid hm2'
      clear hm hsuf hm2 hm2'
      obtain ⟨L, hL⟩ : ∃ L, L = occE xs ys e := ⟨_, rfl⟩
      have hLe : L.length ≤ e := by rw [hL]; exact HL.out
      rw [← hL] at HOr HE ⊢
      clear hL HL
      have hsm := HX.out.1
      go_upto_region 9 with (refine append_one (enc := (Value.int .i64)) (e := 3) wr rfl _ _ 22 rfl W2.heap.size i0 (.int .i64 0) 8 Try.underlying22 hi hz0 hz1 hz2 rfl (.slice oa L.length oc) L rfl HOr.out ((e : Int) - (ys.length : Int)) rfl (fun _ => rfl) (by omega) (by omega) HGr.out.size ?_; intro v' w4 ho hg; have HO4 := Lib.hid ho; have HG4 := Lib.hid (HOr.out.frame HGr.out (Nat.le_refl _) hg); clear hg ho; have HB4 := Lib.hid (HB2.out.trans (HG4.out.mono HB2.out.size)); have HC4 := Lib.hid (HC.out.below HG4.out); obtain ⟨_, _, hba, hcb⟩ := lies_some (HD.out.below HG4.out) (bdT_at ys (i := ys.length) (j := ys.length) (Nat.le_refl _)); rw [← HM2'.out] at hcb; have k1 := HC4.out.at_ (i := 1) rfl; cases hba)
      rw [← HE.out] at HO4
      clear k1 hcb
      have k0 := HC4.out.at_ (i := 0) rfl
      have k1 := HC4.out.at_ (i := 1) rfl
      by_cases hlt : e < xs.length
      · obtain ⟨x, hx⟩ : ∃ x, xs[e]? = some x := ⟨_, List.getElem?_eq_getElem hlt⟩
        obtain ⟨p, o, hpa, hc1⟩ := lies_some (HX.out.below HB4.out) hx
        have HPA := Lib.hid hpa
        have hfit := fun (W : World) (hw : Below w.heap.size w W) (h2 : Lies (Value.int .i64) W (.slice (some ⟨b1, b2, none⟩) (ys.length + 1) bc) (bdT ys ys.length)) => fit _ _ ys ys.length (mt ys (xs.take e) ys.length) x W (HY.out.below hw) h2 (mt_lt ys (xs.take e)).1 (mt_lt ys (xs.take e)).2 (by have := (mt_lt ys (xs.take e)).2; omega)
        rw [mt_step hx, ← HM2.out] at hfit
        have HFT := Lib.hid hfit
        subst hpa
        clear hx hfit
        obtain ⟨m3, hm3⟩ : ∃ m3, m3 = mt ys (xs.take (e + 1)) (ys.length + 1) := ⟨_, rfl⟩
        rw [← hm3] at HFT
        have HM3 := Lib.hid hm3
        clear hm3
        have HB5 := Lib.hid (HB4.out.trans ((below_drew' _).mono HB4.out.size))
        have HG5 := Lib.hid (HG4.out.trans ((below_drew' _).mono HG4.out.size))
        have HC5 := Lib.hid (HC4.out.below (below_drew' _))
        have HD5 := Lib.hid (HD.out.below HG5.out)
        have HO5 := Lib.hid (HO4.out.below (below_drew' _))
        go_wp2_with fail
        go_region_held3 (fun w' => w'.cell? ⟨q, 0, none⟩ = some (.slice pa ys.length pc) ∧ w'.cell? ⟨q, 1, none⟩ = some (.slice (some ⟨b1, b2, none⟩) (ys.length + 1) bc) ∧ w'.cell? ⟨p, o + e, none⟩ = some (.int .i64 x))
          (first | exact ⟨k0, k1, hc1⟩ | exact ⟨(HC5.out.below b6).at_ (i := 0) rfl, (HC5.out.below b6).at_ (i := 1) rfl, (b6.cell (p := ⟨p, o + e, none⟩) (World.block_lt_of_cell? _ _ hc1)).trans hc1⟩)
          ((go_at_call 57; refine (HFT.out _ HB5.out HD5.out).mono ?_; rintro e' W6 ⟨rfl, b6⟩))
        all_goals
          have HO6 := Lib.hid (HO5.out.below b6)
          have HG6 := Lib.hid (HG5.out.trans (b6.mono HG5.out.size))
          clear b6 k0 k1 hc1
          go_wp2
          go_roundw
          case rel => exact ⟨e + 1, m3, _, by omega, by go_num, rfl, rfl, HM3, HO6, HG6⟩
          case measure => simp [intOf]; omega
      · have hee : e = xs.length := by omega
        have hd : ((e : Int) == (xs.length : Int)) = true := by rw [hee]; simp
        have HE6 := Lib.hid hee
        clear hee
        go_wp2
        go_ret
        exact ⟨_, rfl, by have h6 := HO4.out; have h7 : occE xs ys (e + 1) = occ xs ys := (by rw [HE6.out, occE_all]); rw [h7] at h6; exact h6.mono HB2.out.size, HB4.out⟩
    · have HE := Lib.hid (occE_no hsuf)
      have HO4 : Hid (Has (Value.int .i64) 3 wr W2.heap.size (.slice oa (occE xs ys e).length oc) (occE xs ys (e + 1))) := by rw [HE.out]; exact HOr
      have HM2 : Hid (m = mt ys (xs.take e) ys.length) := HM.out.trans hm2.symm
      have hmne : m < ys.length := by rw [HM.out]; exact hm
      have hmd : (m == (ys.length : Int)) = false := by simp; omega
      have HG4 := HGr
      have HB4 := Lib.hid (HB2.out.trans (HG4.out.mono HB2.out.size))
      have HC4 := Lib.hid (HC.out.below HG4.out)
      clear hm hsuf hm2
      go_upto_region 9 with (fail)
      have k0 := HC4.out.at_ (i := 0) rfl
      have k1 := HC4.out.at_ (i := 1) rfl
      by_cases hlt : e < xs.length
      · obtain ⟨x, hx⟩ : ∃ x, xs[e]? = some x := ⟨_, List.getElem?_eq_getElem hlt⟩
        obtain ⟨p, o, hpa, hc1⟩ := lies_some (HX.out.below HB4.out) hx
        have HPA := Lib.hid hpa
        have hfit := fun (W : World) (hw : Below w.heap.size w W) (h2 : Lies (Value.int .i64) W (.slice (some ⟨b1, b2, none⟩) (ys.length + 1) bc) (bdT ys ys.length)) => fit _ _ ys ys.length (mt ys (xs.take e) ys.length) x W (HY.out.below hw) h2 (mt_lt ys (xs.take e)).1 (mt_lt ys (xs.take e)).2 (by have := (mt_lt ys (xs.take e)).2; omega)
        rw [mt_step hx, ← HM2.out] at hfit
        have HFT := Lib.hid hfit
        subst hpa
        clear hx hfit
        obtain ⟨m3, hm3⟩ : ∃ m3, m3 = mt ys (xs.take (e + 1)) (ys.length + 1) := ⟨_, rfl⟩
        rw [← hm3] at HFT
        have HM3 := Lib.hid hm3
        clear hm3
        have HB5 := Lib.hid (HB4.out.trans ((below_drew' _).mono HB4.out.size))
        have HG5 := Lib.hid (HG4.out.trans ((below_drew' _).mono HG4.out.size))
        have HC5 := Lib.hid (HC4.out.below (below_drew' _))
        have HD5 := Lib.hid (HD.out.below HG5.out)
        have HO5 := Lib.hid (HO4.out.below (below_drew' _))
        go_wp2_with fail
        go_region_held3 (fun w' => w'.cell? ⟨q, 0, none⟩ = some (.slice pa ys.length pc) ∧ w'.cell? ⟨q, 1, none⟩ = some (.slice (some ⟨b1, b2, none⟩) (ys.length + 1) bc) ∧ w'.cell? ⟨p, o + e, none⟩ = some (.int .i64 x))
          (first | exact ⟨k0, k1, hc1⟩ | exact ⟨(HC5.out.below b6).at_ (i := 0) rfl, (HC5.out.below b6).at_ (i := 1) rfl, (b6.cell (p := ⟨p, o + e, none⟩) (World.block_lt_of_cell? _ _ hc1)).trans hc1⟩)
          ((go_at_call 57; refine (HFT.out _ HB5.out HD5.out).mono ?_; rintro e' W6 ⟨rfl, b6⟩))
        all_goals
          have HO6 := Lib.hid (HO5.out.below b6)
          have HG6 := Lib.hid (HG5.out.trans (b6.mono HG5.out.size))
          clear b6 k0 k1 hc1
          go_wp2
          go_roundw
          case rel => exact ⟨e + 1, m3, _, by omega, by go_num, rfl, rfl, HM3, HO6, HG6⟩
          case measure => simp [intOf]; omega
      · have hee : e = xs.length := by omega
        have hd : ((e : Int) == (xs.length : Int)) = true := by rw [hee]; simp
        have HE6 := Lib.hid hee
        clear hee
        go_wp2
        go_ret
        exact ⟨_, rfl, by have h6 := HO4.out; have h7 : occE xs ys (e + 1) = occ xs ys := (by rw [HE6.out, occE_all]); rw [h7] at h6; exact h6.mono HB2.out.size, HB4.out⟩
end Fac
end Go.Proofs.Ytgbgcaaekpgapab
