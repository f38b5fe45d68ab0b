/- Contracts of the program's allWords and LyndonWords, and of the library's IndexFunc and DeleteFunc at its closure. No conditions beyond those that each states. -/
import Derived.Test.YtcnejfihpaicdaaRsI
import Derived.Test.YtcnejfihpaicdaaLynI2
import Derived.Test.YtcnejfihpaicdaaLynC2
namespace Go.Proofs.Ytcnejfihpaicdaa
open Go.ChangeShapes Go.WideShapes Go.ChangeAt Go.RowKit
open Go.PlainAid Plain
set_option linter.unusedVariables false
namespace Lynd
open Fac Seqs
/-- The closure of LyndonWords. -/
theorem closure (v : Value) (p : List Int) (w : World) (h2 : Lies (Value.int .i64) w v p) (hs2 : p.length ≤ 4194304) :
    Calls Try.prog 48 (#[v] ++ #[]) w fun e w' => e = .returned (.bool (!lyB p)) ∧ Below w.heap.size w w' := by
  have HT := Lib.hid (impl_lyn v p w h2 hs2)
  obtain ⟨_, b, cb, rfl, _, _⟩ := h2
  obtain ⟨r, hr⟩ : ∃ r, r = lyB p := ⟨_, rfl⟩
  rw [← hr] at HT ⊢
  clear hr
  go_enter Try.func48, Try.ntmps48
  go_wp2_with (go_at_call 13; refine HT.out.mono ?_; rintro e w' ⟨rfl, hb⟩)
  go_ret
  exact ⟨rfl, hb⟩
/-- What IndexFunc finds: the first of the slices that goes, or none. -/
def IdxR (ps : List (Value × List Int)) (r : Int) : Prop := (r = -1 ∧ ∀ p ∈ ps, lyB p.2 = true) ∨ ∃ i : Nat, r = i ∧ i < ps.length ∧ (∀ p ∈ ps.take i, lyB p.2 = true) ∧ ∀ p, ps[i]? = some p → lyB p.2 = false
def IdxE (ps : List (Value × List Int)) (w : World) (e : Ending) (w' : World) : Prop := ∃ r : Int, e = .returned (.int .i64 r) ∧ IdxR ps r ∧ Below w.heap.size w w'
theorem idx (v : Value) (lo hi : Nat) (ps : List (Value × List Int)) (w : World) (hv : Has id 22 w lo v (ps.map Prod.fst)) (hf : FamP w lo hi ps) (hs2 : ∀ p ∈ ps, p.2.length ≤ 4194304) :
    Calls Try.prog 56 #[v, .func (.func 48) #[] #[]] w (IdxE ps w) := by
  have eg : ∀ args w, (callFunc 48 args).run Try.prog w = .ok (.enter 48 args) w := enters_of Try.func48 (by kernel_rfl) rfl
  obtain ⟨a, c, rfl, _⟩ := hv.form
  have HV := Lib.hid hv
  have HF := Lib.hid hf
  have HS2 := Lib.hid hs2
  have hml : (ps.map Prod.fst).length = ps.length := List.length_map ..
  rw [hml] at HV ⊢
  have hsm : ps.length ≤ 9223372036854775807 := by have := HV.out.small; omega
  clear hv hf hs2 hml
  go_enter Try.func56, Try.ntmps56
  go_wp2
  go_loopw [8] (fun i' wr => ∃ i : Nat, i ≤ ps.length ∧ i' = .int .i64 i ∧ Hid (∀ p ∈ ps.take i, lyB p.2 = true) ∧ Hid (Below w.heap.size w wr)) (fun i' _ => ps.length - (intOf i').toNat)
  case atStart => exact ⟨0, Nat.zero_le _, rfl, (fun p hp => by simp at hp), Below.refl _ _⟩
  case round =>
    obtain ⟨i, hi', rfl, HI, HBr⟩ := hrel
    by_cases hlt : i < ps.length
    · obtain ⟨p, hp⟩ : ∃ p, ps[i]? = some p := ⟨_, List.getElem?_eq_getElem hlt⟩
      obtain ⟨g, ha, c1⟩ := top_at (ps := ps) (HV.out.below HBr.out) (i := i) (y := p.1) (by rw [List.getElem?_map, hp]; rfl)
      subst ha
      have hpo := (HF.out.own p (List.mem_of_getElem? hp)).below HBr.out
      obtain ⟨va, vc, hpv⟩ := hpo.form
      have HC := Lib.hid (closure p.1 p.2 wr hpo.lies (HS2.out p (List.mem_of_getElem? hp)))
      rw [hpv] at c1 HC
      obtain ⟨r, hr⟩ : ∃ r, r = lyB p.2 := ⟨_, rfl⟩
      rw [← hr] at HC
      have HR := Lib.hid hr
      have HPP := Lib.hid hp
      clear hp hpo hpv hr
      cases r with
      | true =>
        have HN : Hid (∀ q ∈ ps.take (i + 1), lyB q.2 = true) := fun q hq => by
          rw [take_two HPP.out] at hq
          rcases List.mem_append.1 hq with h | h
          · exact HI.out q h
          · rw [List.mem_singleton.1 h]; exact HR.out.symm
        go_wp2_with (go_at_fn 48; refine HC.out.mono ?_; rintro e w5 ⟨rfl, b5⟩)
        go_roundw
        case rel => exact ⟨i + 1, by omega, by go_num, HN, HBr.out.trans (b5.mono HBr.out.size)⟩
        case measure => simp [intOf]; omega
      | false =>
        go_wp2_with (go_at_fn 48; refine HC.out.mono ?_; rintro e w5 ⟨rfl, b5⟩)
        go_ret
        exact ⟨_, rfl, .inr ⟨i, rfl, hlt, HI.out, fun q hq => by obtain rfl := Option.some.inj (HPP.out.symm.trans hq); exact HR.out.symm⟩, HBr.out.trans (b5.mono HBr.out.size)⟩
    · have HE : Hid (∀ p ∈ ps, lyB p.2 = true) := by
        have := HI.out
        rw [List.take_of_length_le (by omega)] at this
        exact this
      go_wp2
      go_ret
      exact ⟨_, rfl, .inl ⟨rfl, HE.out⟩, HBr.out⟩
def DelE (ps : List (Value × List Int)) (W : World) (e : Ending) (w' : World) : Prop := ∃ v' us, e = .returned v' ∧ OwnR w' W.heap.size w'.heap.size v' us ((ps.map Prod.snd).filter lyB) ∧ Below W.heap.size W w'
theorem filter_snd (ps : List (Value × List Int)) : (ps.filter (fun q : Value × List Int => lyB q.2)).map Prod.snd = (ps.map Prod.snd).filter lyB := by
  rw [List.filter_map]
  rfl
theorem del_end {ps : List (Value × List Int)} {W w' : World} {v' : Value} {hi : Nat} (hv : Has id 22 w' W.heap.size v' ((ps.filter (fun q : Value × List Int => lyB q.2)).map Prod.fst)) (hf : FamP w' W.heap.size hi ps) (hi' : hi ≤ w'.heap.size) (hb : Below W.heap.size W w') : DelE ps W (.returned v') w' := by
  refine ⟨v', _, rfl, ⟨hv, fun k hk => (hv.lt k hk).2, Nat.le_refl _, ?_⟩, hb⟩
  have := (hf.filter (fun q : Value × List Int => lyB q.2)).rows.mono hi' (Nat.le_refl _)
  rw [filter_snd] at this
  exact this
theorem filter_all {α : Type} {f : α → Bool} {l : List α} (h : ∀ x ∈ l, f x = true) : l.filter f = l := List.filter_eq_self.2 h
set_option maxRecDepth 100000 in
set_option maxHeartbeats 4000000 in
theorem del (v : Value) (hi : Nat) (ps : List (Value × List Int)) (W w : World) (hb : Below W.heap.size W w) (hv : Has id 22 w W.heap.size v (ps.map Prod.fst)) (hf : FamP w W.heap.size hi ps) (hhi : hi ≤ w.heap.size) (hs2 : ∀ p ∈ ps, p.2.length ≤ 4194304) :
    Calls Try.prog 47 #[v, .func (.func 48) #[] #[]] w (DelE ps W) := by
  have eg : ∀ args w, (callFunc 48 args).run Try.prog w = .ok (.enter 48 args) w := enters_of Try.func48 (by kernel_rfl) rfl
  obtain ⟨a, c, rfl, hag⟩ := hv.form
  have HV := Lib.hid hv
  have HF := Lib.hid hf
  have HS2 := Lib.hid hs2
  have HB := Lib.hid hb
  have HHI := Lib.hid hhi
  have HI := Lib.hid (idx _ W.heap.size hi ps w hv hf hs2)
  have hml : (ps.map Prod.fst).length = ps.length := List.length_map ..
  rw [hml] at HV HI hag ⊢
  have hsm : ps.length ≤ 9223372036854775807 := by have := HV.out.small; omega
  clear hv hf hs2 hml hb hhi
  go_enter Try.func47, Try.ntmps47
  go_wp2_with fail
  refine HI.out.mono ?_
  rintro e W1 ⟨r, rfl, hr, b1⟩
  have HV1 := Lib.hid (HV.out.below b1)
  have HF1 := Lib.hid (HF.out.below b1)
  have HB1 := Lib.hid (HB.out.trans (b1.mono HB.out.size))
  have HH1 := Lib.hid (Nat.le_trans HHI.out b1.size)
  clear b1 HI HV HF HB HHI
  rcases hr with ⟨rfl, hall⟩ | ⟨i, rfl, hil, hpre, hat⟩
  · have HE : Hid (ps.filter (fun q : Value × List Int => lyB q.2) = ps) := filter_all hall
    clear hall
    go_wp2
    go_ret
    exact del_end (by rw [HE.out]; exact HV1.out) HF1.out HH1.out HB1.out
  · obtain ⟨g, hg⟩ := hag (by omega)
    subst hg
    have hcap : ps.length ≤ c := (has_cap HV1.out).2
    have hd : ((i : Int) == -1) = false := by simp
    have HG : Hid (∀ p ∈ ps, p.1.ownBlock ≠ some g) := fun p hp e => by
      rcases HV1.out.ne_row (HF1.out.own p hp).has with h | h
      · rw [h] at e; cases e
      · exact h (by rw [e]; rfl)
    obtain ⟨p0, hp0⟩ : ∃ p, ps[i]? = some p := ⟨_, List.getElem?_eq_getElem hil⟩
    have HK0 : Hid (((ps.take (i + 1)).filter (fun q : Value × List Int => lyB q.2)).map Prod.fst = (ps.map Prod.fst).take i) := by
      show _ = _
      rw [take_two hp0, List.filter_append, filter_all hpre]
      simp [hat p0 hp0, List.map_take]
    have hgW := (HV1.out.lt g rfl).1
    clear hpre hat hp0
    go_wp2_with fail
    go_loopw [5, 6, 7] (fun i' j' s7 wr => ∃ (i j : Nat) (M : List Value), j ≤ ps.length ∧ i < j ∧ i' = .int .i64 i ∧ j' = .int .i64 j ∧ Hid (M.length = ps.length ∧ M.take i = ((ps.take j).filter (fun q : Value × List Int => lyB q.2)).map Prod.fst ∧ ∀ t, j ≤ t → M[t]? = (ps.map Prod.fst)[t]?) ∧ Hid (Has id 22 wr W.heap.size (.slice (some ⟨g, 0, none⟩) ps.length c) M) ∧ Hid (FamP wr W.heap.size hi ps) ∧ Hid (hi ≤ wr.heap.size) ∧ Hid (Below W.heap.size W wr)) (fun _ j' _ _ => ps.length - (intOf j').toNat)
    case atStart => exact ⟨i, i + 1, _, by omega, by omega, rfl, by go_num, ⟨List.length_map .., HK0.out.symm, fun _ _ => rfl⟩, HV1, HF1, HH1, HB1⟩
    case round =>
      clear hil HK0 hd
      obtain ⟨i, j, M, hj, hij, rfl, rfl, HM, HVr, HFr, HHr, HBr⟩ := hrel
      by_cases hlt : j < ps.length
      · obtain ⟨p, hp⟩ : ∃ p, ps[j]? = some p := ⟨_, List.getElem?_eq_getElem hlt⟩
        have hMj : M[j]? = some p.1 := (HM.out.2.2 j (Nat.le_refl _)).trans (by rw [List.getElem?_map, hp]; rfl)
        obtain ⟨_, ha, c1⟩ := top_at (ps := ps) HVr.out hMj
        cases ha
        have hiM : i < M.length := by rw [HM.out.1]; omega
        obtain ⟨z, hz⟩ : ∃ z, M[i]? = some z := ⟨_, List.getElem?_eq_getElem hiM⟩
        have hpo := HFr.out.own p (List.mem_of_getElem? hp)
        obtain ⟨va, vc, hpv⟩ := hpo.form
        have HC := Lib.hid (closure p.1 p.2 wr hpo.lies (HS2.out p (List.mem_of_getElem? hp)))
        have HFT := Lib.hid (filter_take (p := (fun q : Value × List Int => lyB q.2)) hp)
        have HPV := Lib.hid hpv
        rw [hpv] at c1 HC
        obtain ⟨r, hr⟩ : ∃ r, r = lyB p.2 := ⟨_, rfl⟩
        rw [← hr] at HC
        have HR := Lib.hid hr
        clear hp hpo hpv hr hMj
        cases r with
        | false =>
          have HN : Hid (M.take i = ((ps.take (j + 1)).filter (fun q : Value × List Int => lyB q.2)).map Prod.fst) := by
            show _ = _
            rw [HFT.out, if_neg (by show ¬ lyB p.2 = true; rw [← HR.out]; simp), List.append_nil]
            exact HM.out.2.1
          have HM1 := Lib.hid HM.out.1
          have HM2 : Hid (∀ t, j + 1 ≤ t → M[t]? = (ps.map Prod.fst)[t]?) := fun t ht => HM.out.2.2 t (by omega)
          clear hz HM
          go_wp2_with (go_at_fn 48; refine HC.out.mono ?_; rintro e w5 ⟨rfl, b5⟩)
          go_roundw
          case rel => exact ⟨i, j + 1, M, by omega, by omega, rfl, by go_num, ⟨HM1.out, HN.out, HM2.out⟩, HVr.out.below b5, HFr.out.below b5, Nat.le_trans HHr.out b5.size, HBr.out.trans (b5.mono HBr.out.size)⟩
          case measure => simp [intOf]; omega
        | true =>
          have HN : Hid ((M.set i p.1).take (i + 1) = ((ps.take (j + 1)).filter (fun q : Value × List Int => lyB q.2)).map Prod.fst) := by
            show _ = _
            rw [HFT.out, if_pos (by show lyB p.2 = true; rw [← HR.out]), List.map_append, ← HM.out.2.1, List.take_succ_eq_append_getElem (by simpa using hiM), List.take_set, List.set_eq_of_length_le (by rw [List.length_take]; omega)]
            simp
          have HM1 : Hid ((M.set i p.1).length = ps.length) := by show _ = _; rw [List.length_set]; exact HM.out.1
          have HM2 : Hid (∀ t, j + 1 ≤ t → (M.set i p.1)[t]? = (ps.map Prod.fst)[t]?) := fun t ht => by
            rw [List.getElem?_set_ne (by omega)]
            exact HM.out.2.2 t (by omega)
          have HML := Lib.hid HM.out.1
          have HZ := Lib.hid hz
          have hil : i < ps.length := by omega
          clear hz HM hiM
          go_wp2_with (go_at_fn 48; refine HC.out.mono ?_; rintro e w5 ⟨rfl, b5⟩; have HV5 := Lib.hid (HVr.out.below b5); have HF5 := Lib.hid (HFr.out.below b5); have HH5 := Lib.hid (Nat.le_trans HHr.out b5.size); have HB5 := Lib.hid (HBr.out.trans (b5.mono HBr.out.size)); obtain ⟨_, ha, m1⟩ := top_at (ps := ps) HV5.out HZ.out; cases ha; have m3 := has_frozen HV5.out HML.out.symm i; clear b5)
          have hst := has_store (enc := id) HV5.out HML.out.symm i p.1
          rw [show (id p.1 : Value) = p.1 from rfl, HPV.out] at hst
          rw [HPV.out] at HN HM1 HM2
          have HST := Lib.hid hst
          have HF6 := Lib.hid (HF5.out.grown HG.out hst.2)
          have HH6 := Lib.hid (Nat.le_trans HH5.out hst.2.size)
          have HB6 := Lib.hid (HB5.out.grown hst.2 HB5.out.size (fun k hk => by cases hk; exact hgW))
          clear hst m1 m3
          go_roundw
          case rel => exact ⟨i + 1, j + 1, _, by omega, by omega, by go_num, by go_num, ⟨HM1.out, HN.out, HM2.out⟩, HST.out.1, HF6, HH6, HB6⟩
          case measure => simp [intOf]; omega
      · have hil : i < ps.length := by omega
        have HE : Hid (M.take i = (ps.filter (fun q : Value × List Int => lyB q.2)).map Prod.fst) := by
          have := HM.out.2.1
          rw [List.take_of_length_le (show ps.length ≤ j by omega)] at this
          exact this
        have HML := Lib.hid HM.out.1
        have hsf := slice_from g ps.length c i (i : Int) hil hcap rfl
        have hcl := fun ty => run_clear HVr.out HML.out.symm hil ty (c - i)
        have hsto := slice_to g ps.length c i (by omega) (by omega)
        have HCUT := Lib.hid (has_cut HVr.out HML.out.symm (Nat.le_of_lt hil) HE.out (List.replicate (ps.length - i) (.slice none 0 0)) (.inr (by rw [List.length_replicate]; omega)))
        clear HM
        go_wp2
        go_ret
        exact del_end HCUT.out.1 (HFr.out.grown HG.out HCUT.out.2) (Nat.le_trans HHr.out HCUT.out.2.size) (HBr.out.grown HCUT.out.2 HBr.out.size (fun k hk => by cases hk; exact hgW))
end Lynd
end Go.Proofs.Ytcnejfihpaicdaa
