/- Several texts of this proof, one behind the other: each says ahead of it what it shows and under which conditions. -/
import Derived.Test.YtfpdikohlafpiaaGreatPW6
import Derived.Test.YtfpdikohlafpiaaGreatPW5
/- Contracts of the program's allWords and LyndonWords, and of the library's IndexFunc and DeleteFunc at its closure. No conditions beyond those that each states. -/
namespace Go.Proofs.YtfpdikohlafpiaaGreat
open Go.ChangeShapes Go.WideShapes Go.ChangeAt Go.RowKit
open Go.PlainAid Plain
set_option linter.unusedVariables false
namespace Lynd
open Fac Seqs
/-- The closure of LyndonWords. -/
theorem closure (v : Value) (p : List Int) (w : World) (h2 : Lies (Value.int .i64) w v p) (hs2 : p.length ≤ 4194304) :
    Calls Tryz.prog 40 (#[v] ++ #[]) w fun e w' => e = .returned (.bool (!lyB p)) ∧ Below w.heap.size w w' := by
  have HT := Lib.hid (impl_lyn v p w h2 hs2)
  obtain ⟨_, b, cb, rfl, _, _⟩ := h2
  obtain ⟨r, hr⟩ : ∃ r, r = lyB p := ⟨_, rfl⟩
  rw [← hr] at HT ⊢
  clear hr
  go_enter Tryz.func40, Tryz.ntmps40
  go_wp2_with (go_at_call 9; refine HT.out.mono ?_; rintro e w' ⟨rfl, hb⟩)
  go_ret
  exact ⟨rfl, hb⟩
/-- What IndexFunc finds: the first of the slices that goes, or none. -/
def IdxR (ps : List (Value × List Int)) (r : Int) : Prop := (r = -1 ∧ ∀ p ∈ ps, lyB p.2 = true) ∨ ∃ i : Nat, r = i ∧ i < ps.length ∧ (∀ p ∈ ps.take i, lyB p.2 = true) ∧ ∀ p, ps[i]? = some p → lyB p.2 = false
def IdxE (ps : List (Value × List Int)) (w : World) (e : Ending) (w' : World) : Prop := ∃ r : Int, e = .returned (.int .i64 r) ∧ IdxR ps r ∧ Below w.heap.size w w'
theorem idx (v : Value) (lo hi : Nat) (ps : List (Value × List Int)) (w : World) (hv : Has id 24 w lo v (ps.map Prod.fst)) (hf : FamP w lo hi ps) (hs2 : ∀ p ∈ ps, p.2.length ≤ 4194304) :
    Calls Tryz.prog 56 #[v, .func (.func 40) #[] #[]] w (IdxE ps w) := by
  have eg : ∀ args w, (callFunc 40 args).run Tryz.prog w = .ok (.enter 40 args) w := enters_of Tryz.func40 (by kernel_rfl) rfl
  obtain ⟨a, c, rfl, _⟩ := hv.form
  have HV := Lib.hid hv
  have HF := Lib.hid hf
  have HS2 := Lib.hid hs2
  have hml : (ps.map Prod.fst).length = ps.length := List.length_map ..
  rw [hml] at HV ⊢
  have hsm : ps.length ≤ 9223372036854775807 := by have := HV.out.small; omega
  clear hv hf hs2 hml
  go_enter Tryz.func56, Tryz.ntmps56
  go_wp2
  go_loopw [8] (fun i' wr => ∃ i : Nat, i ≤ ps.length ∧ i' = .int .i64 i ∧ Hid (∀ p ∈ ps.take i, lyB p.2 = true) ∧ Hid (Below w.heap.size w wr)) (fun i' _ => ps.length - (intOf i').toNat)
  case atStart => exact ⟨0, Nat.zero_le _, rfl, (fun p hp => by simp at hp), Below.refl _ _⟩
  case round =>
    obtain ⟨i, hi', rfl, HI, HBr⟩ := hrel
    by_cases hlt : i < ps.length
    · obtain ⟨p, hp⟩ : ∃ p, ps[i]? = some p := ⟨_, List.getElem?_eq_getElem hlt⟩
      obtain ⟨g, ha, c1⟩ := top_at (ps := ps) (HV.out.below HBr.out) (i := i) (y := p.1) (by rw [List.getElem?_map, hp]; rfl)
      subst ha
      have hpo := (HF.out.own p (List.mem_of_getElem? hp)).below HBr.out
      obtain ⟨va, vc, hpv⟩ := hpo.form
      have HC := Lib.hid (closure p.1 p.2 wr hpo.lies (HS2.out p (List.mem_of_getElem? hp)))
      rw [hpv] at c1 HC
      obtain ⟨r, hr⟩ : ∃ r, r = lyB p.2 := ⟨_, rfl⟩
      rw [← hr] at HC
      have HR := Lib.hid hr
      have HPP := Lib.hid hp
      clear hp hpo hpv hr
      cases r with
      | true =>
        have HN : Hid (∀ q ∈ ps.take (i + 1), lyB q.2 = true) := fun q hq => by
          rw [take_two HPP.out] at hq
          rcases List.mem_append.1 hq with h | h
          · exact HI.out q h
          · rw [List.mem_singleton.1 h]; exact HR.out.symm
        go_wp2_with (go_at_fn 40; refine HC.out.mono ?_; rintro e w5 ⟨rfl, b5⟩)
        go_roundw
        case rel => exact ⟨i + 1, by omega, by go_num, HN, HBr.out.trans (b5.mono HBr.out.size)⟩
        case measure => simp [intOf]; omega
      | false =>
        go_wp2_with (go_at_fn 40; refine HC.out.mono ?_; rintro e w5 ⟨rfl, b5⟩)
        go_ret
        exact ⟨_, rfl, .inr ⟨i, rfl, hlt, HI.out, fun q hq => by obtain rfl := Option.some.inj (HPP.out.symm.trans hq); exact HR.out.symm⟩, HBr.out.trans (b5.mono HBr.out.size)⟩
    · have HE : Hid (∀ p ∈ ps, lyB p.2 = true) := by
        have := HI.out
        rw [List.take_of_length_le (by omega)] at this
        exact this
      go_wp2
      go_ret
      exact ⟨_, rfl, .inl ⟨rfl, HE.out⟩, HBr.out⟩
def DelE (ps : List (Value × List Int)) (W : World) (e : Ending) (w' : World) : Prop := ∃ v' us, e = .returned v' ∧ OwnR w' W.heap.size w'.heap.size v' us ((ps.map Prod.snd).filter lyB) ∧ Below W.heap.size W w'
theorem filter_snd (ps : List (Value × List Int)) : (ps.filter (fun q : Value × List Int => lyB q.2)).map Prod.snd = (ps.map Prod.snd).filter lyB := by
  rw [List.filter_map]
  rfl
theorem del_end {ps : List (Value × List Int)} {W w' : World} {v' : Value} {hi : Nat} (hv : Has id 24 w' W.heap.size v' ((ps.filter (fun q : Value × List Int => lyB q.2)).map Prod.fst)) (hf : FamP w' W.heap.size hi ps) (hi' : hi ≤ w'.heap.size) (hb : Below W.heap.size W w') : DelE ps W (.returned v') w' := by
  refine ⟨v', _, rfl, ⟨hv, fun k hk => (hv.lt k hk).2, Nat.le_refl _, ?_⟩, hb⟩
  have := (hf.filter (fun q : Value × List Int => lyB q.2)).rows.mono hi' (Nat.le_refl _)
  rw [filter_snd] at this
  exact this
theorem filter_all {α : Type} {f : α → Bool} {l : List α} (h : ∀ x ∈ l, f x = true) : l.filter f = l := List.filter_eq_self.2 h
set_option maxRecDepth 100000 in
set_option maxHeartbeats 4000000 in
theorem del (v : Value) (hi : Nat) (ps : List (Value × List Int)) (W w : World) (hb : Below W.heap.size W w) (hv : Has id 24 w W.heap.size v (ps.map Prod.fst)) (hf : FamP w W.heap.size hi ps) (hhi : hi ≤ w.heap.size) (hs2 : ∀ p ∈ ps, p.2.length ≤ 4194304) :
    Calls Tryz.prog 39 #[v, .func (.func 40) #[] #[]] w (DelE ps W) := by
  have eg : ∀ args w, (callFunc 40 args).run Tryz.prog w = .ok (.enter 40 args) w := enters_of Tryz.func40 (by kernel_rfl) rfl
  obtain ⟨a, c, rfl, hag⟩ := hv.form
  have HV := Lib.hid hv
  have HF := Lib.hid hf
  have HS2 := Lib.hid hs2
  have HB := Lib.hid hb
  have HHI := Lib.hid hhi
  have HI := Lib.hid (idx _ W.heap.size hi ps w hv hf hs2)
  have hml : (ps.map Prod.fst).length = ps.length := List.length_map ..
  rw [hml] at HV HI hag ⊢
  have hsm : ps.length ≤ 9223372036854775807 := by have := HV.out.small; omega
  clear hv hf hs2 hml hb hhi
  go_enter Tryz.func39, Tryz.ntmps39
  go_wp2_with fail
  refine HI.out.mono ?_
  rintro e W1 ⟨r, rfl, hr, b1⟩
  have HV1 := Lib.hid (HV.out.below b1)
  have HF1 := Lib.hid (HF.out.below b1)
  have HB1 := Lib.hid (HB.out.trans (b1.mono HB.out.size))
  have HH1 := Lib.hid (Nat.le_trans HHI.out b1.size)
  clear b1 HI HV HF HB HHI
  rcases hr with ⟨rfl, hall⟩ | ⟨i, rfl, hil, hpre, hat⟩
  · have HE : Hid (ps.filter (fun q : Value × List Int => lyB q.2) = ps) := filter_all hall
    clear hall
    go_wp2
    go_ret
    exact del_end (by rw [HE.out]; exact HV1.out) HF1.out HH1.out HB1.out
  · obtain ⟨g, hg⟩ := hag (by omega)
    subst hg
    have hcap : ps.length ≤ c := (has_cap HV1.out).2
    have hd : ((i : Int) == -1) = false := by simp
    have HG : Hid (∀ p ∈ ps, p.1.ownBlock ≠ some g) := fun p hp e => by
      rcases HV1.out.ne_row (HF1.out.own p hp).has with h | h
      · rw [h] at e; cases e
      · exact h (by rw [e]; rfl)
    obtain ⟨p0, hp0⟩ : ∃ p, ps[i]? = some p := ⟨_, List.getElem?_eq_getElem hil⟩
    have HK0 : Hid (((ps.take (i + 1)).filter (fun q : Value × List Int => lyB q.2)).map Prod.fst = (ps.map Prod.fst).take i) := by
      show _ = _
      rw [take_two hp0, List.filter_append, filter_all hpre]
      simp [hat p0 hp0, List.map_take]
    have hgW := (HV1.out.lt g rfl).1
    clear hpre hat hp0
    go_wp2_with fail
    go_loopw [5, 6, 7] (fun i' j' s7 wr => ∃ (i j : Nat) (M : List Value), j ≤ ps.length ∧ i < j ∧ i' = .int .i64 i ∧ j' = .int .i64 j ∧ Hid (M.length = ps.length ∧ M.take i = ((ps.take j).filter (fun q : Value × List Int => lyB q.2)).map Prod.fst ∧ ∀ t, j ≤ t → M[t]? = (ps.map Prod.fst)[t]?) ∧ Hid (Has id 24 wr W.heap.size (.slice (some ⟨g, 0, none⟩) ps.length c) M) ∧ Hid (FamP wr W.heap.size hi ps) ∧ Hid (hi ≤ wr.heap.size) ∧ Hid (Below W.heap.size W wr)) (fun _ j' _ _ => ps.length - (intOf j').toNat)
    case atStart => exact ⟨i, i + 1, _, by omega, by omega, rfl, by go_num, ⟨List.length_map .., HK0.out.symm, fun _ _ => rfl⟩, HV1, HF1, HH1, HB1⟩
    case round =>
      clear hil HK0 hd
      obtain ⟨i, j, M, hj, hij, rfl, rfl, HM, HVr, HFr, HHr, HBr⟩ := hrel
      by_cases hlt : j < ps.length
      · obtain ⟨p, hp⟩ : ∃ p, ps[j]? = some p := ⟨_, List.getElem?_eq_getElem hlt⟩
        have hMj : M[j]? = some p.1 := (HM.out.2.2 j (Nat.le_refl _)).trans (by rw [List.getElem?_map, hp]; rfl)
        obtain ⟨_, ha, c1⟩ := top_at (ps := ps) HVr.out hMj
        cases ha
        have hiM : i < M.length := by rw [HM.out.1]; omega
        obtain ⟨z, hz⟩ : ∃ z, M[i]? = some z := ⟨_, List.getElem?_eq_getElem hiM⟩
        have hpo := HFr.out.own p (List.mem_of_getElem? hp)
        obtain ⟨va, vc, hpv⟩ := hpo.form
        have HC := Lib.hid (closure p.1 p.2 wr hpo.lies (HS2.out p (List.mem_of_getElem? hp)))
        have HFT := Lib.hid (filter_take (p := (fun q : Value × List Int => lyB q.2)) hp)
        have HPV := Lib.hid hpv
        rw [hpv] at c1 HC
        obtain ⟨r, hr⟩ : ∃ r, r = lyB p.2 := ⟨_, rfl⟩
        rw [← hr] at HC
        have HR := Lib.hid hr
        clear hp hpo hpv hr hMj
        cases r with
        | false =>
          have HN : Hid (M.take i = ((ps.take (j + 1)).filter (fun q : Value × List Int => lyB q.2)).map Prod.fst) := by
            show _ = _
            rw [HFT.out, if_neg (by show ¬ lyB p.2 = true; rw [← HR.out]; simp), List.append_nil]
            exact HM.out.2.1
          have HM1 := Lib.hid HM.out.1
          have HM2 : Hid (∀ t, j + 1 ≤ t → M[t]? = (ps.map Prod.fst)[t]?) := fun t ht => HM.out.2.2 t (by omega)
          clear hz HM
          go_wp2_with (go_at_fn 40; refine HC.out.mono ?_; rintro e w5 ⟨rfl, b5⟩)
          go_roundw
          case rel => exact ⟨i, j + 1, M, by omega, by omega, rfl, by go_num, ⟨HM1.out, HN.out, HM2.out⟩, HVr.out.below b5, HFr.out.below b5, Nat.le_trans HHr.out b5.size, HBr.out.trans (b5.mono HBr.out.size)⟩
          case measure => simp [intOf]; omega
        | true =>
          have HN : Hid ((M.set i p.1).take (i + 1) = ((ps.take (j + 1)).filter (fun q : Value × List Int => lyB q.2)).map Prod.fst) := by
            show _ = _
            rw [HFT.out, if_pos (by show lyB p.2 = true; rw [← HR.out]), List.map_append, ← HM.out.2.1, List.take_succ_eq_append_getElem (by simpa using hiM), List.take_set, List.set_eq_of_length_le (by rw [List.length_take]; omega)]
            simp
          have HM1 : Hid ((M.set i p.1).length = ps.length) := by show _ = _; rw [List.length_set]; exact HM.out.1
          have HM2 : Hid (∀ t, j + 1 ≤ t → (M.set i p.1)[t]? = (ps.map Prod.fst)[t]?) := fun t ht => by
            rw [List.getElem?_set_ne (by omega)]
            exact HM.out.2.2 t (by omega)
          have HML := Lib.hid HM.out.1
          have HZ := Lib.hid hz
          have hil : i < ps.length := by omega
          clear hz HM hiM
          go_wp2_with (go_at_fn 40; refine HC.out.mono ?_; rintro e w5 ⟨rfl, b5⟩; have HV5 := Lib.hid (HVr.out.below b5); have HF5 := Lib.hid (HFr.out.below b5); have HH5 := Lib.hid (Nat.le_trans HHr.out b5.size); have HB5 := Lib.hid (HBr.out.trans (b5.mono HBr.out.size)); obtain ⟨_, ha, m1⟩ := top_at (ps := ps) HV5.out HZ.out; cases ha; have m3 := has_frozen HV5.out HML.out.symm i; clear b5)
          have hst := has_store (enc := id) HV5.out HML.out.symm i p.1
          rw [show (id p.1 : Value) = p.1 from rfl, HPV.out] at hst
          rw [HPV.out] at HN HM1 HM2
          have HST := Lib.hid hst
          have HF6 := Lib.hid (HF5.out.grown HG.out hst.2)
          have HH6 := Lib.hid (Nat.le_trans HH5.out hst.2.size)
          have HB6 := Lib.hid (HB5.out.grown hst.2 HB5.out.size (fun k hk => by cases hk; exact hgW))
          clear hst m1 m3
          go_roundw
          case rel => exact ⟨i + 1, j + 1, _, by omega, by omega, by go_num, by go_num, ⟨HM1.out, HN.out, HM2.out⟩, HST.out.1, HF6, HH6, HB6⟩
          case measure => simp [intOf]; omega
      · have hil : i < ps.length := by omega
        have HE : Hid (M.take i = (ps.filter (fun q : Value × List Int => lyB q.2)).map Prod.fst) := by
          have := HM.out.2.1
          rw [List.take_of_length_le (show ps.length ≤ j by omega)] at this
          exact this
        have HML := Lib.hid HM.out.1
        have hsf := slice_from g ps.length c i (i : Int) hil hcap rfl
        have hcl := fun ty => run_clear HVr.out HML.out.symm hil ty (c - i)
        have hsto := slice_to g ps.length c i (by omega) (by omega)
        have HCUT := Lib.hid (has_cut HVr.out HML.out.symm (Nat.le_of_lt hil) HE.out (List.replicate (ps.length - i) (.slice none 0 0)) (.inr (by rw [List.length_replicate]; omega)))
        clear HM
        go_wp2
        go_ret
        exact del_end HCUT.out.1 (HFr.out.grown HG.out HCUT.out.2) (Nat.le_trans HHr.out HCUT.out.2.size) (HBr.out.grown HCUT.out.2 HBr.out.size (fun k hk => by cases hk; exact hgW))
end Lynd
end Go.Proofs.YtfpdikohlafpiaaGreat
/- Contracts of the program's allWords and LyndonWords. No conditions beyond those that each states. -/
namespace Go.Proofs.YtfpdikohlafpiaaGreat
open Go.ChangeShapes Go.WideShapes Go.ChangeAt Go.RowKit
open Go.PlainAid Plain
set_option linter.unusedVariables false
namespace Lynd
open Fac Seqs
theorem first_row (w : World) : OwnR (w.alloc (Obj.cells #[.slice none 0 0] 24)) w.heap.size (w.heap.size + 1) (.slice (some ⟨w.heap.size, 0, none⟩) 1 1) [.slice none 0 0] [[]] := by
  refine ⟨has_lit1v _ rfl (Nat.le_refl _), fun k hk => ?_, by simp, OwnRows.one ⟨World.ownsRow_nil _ _ _ _, (fun k hk => by cases hk), by simp⟩⟩
  have : w.heap.size = k := by simpa [Value.ownBlock] using hk
  omega
theorem allW_next {a m i c : Nat} (hc : c < a) (hi : i < a ^ m) {X : List Int} (hX : X = wd a m i) {L : List (List Int)} (hL : L = (allW a (m + 1)).take (i * a + c)) : L ++ [X ++ [(c : Int)]] = (allW a (m + 1)).take (i * a + (c + 1)) := by
  rw [hL, hX, ← Nat.add_assoc, allW_take hc hi]
set_option maxRecDepth 100000 in
set_option maxHeartbeats 4000000 in
theorem all_words (a n : Nat) (w : World) (ha : 0 < a) (ha4 : a ≤ 4) (hn : n ≤ 8) :
    Calls Tryz.prog 38 #[.int .i64 a, .int .i64 n] w (GivesR (allW a n) w) := by
  obtain ⟨i0, hi, hz0, hz1, hz2⟩ := info_parts Ints.infoI
  obtain ⟨j0, hj, hy0, hy1, hy2⟩ := info_parts infoR'
  have HO : Hid (OwnR (w.alloc (Obj.cells #[.slice none 0 0] 24)) w.heap.size (w.alloc (Obj.cells #[.slice none 0 0] 24)).heap.size (.slice (some ⟨w.heap.size, 0, none⟩) 1 1) [.slice none 0 0] (allW a 0)) := by rw [allW_zero, size_alloc']; exact first_row w
  have HB : Hid (Below w.heap.size w (w.alloc (Obj.cells #[.slice none 0 0] 24))) := (Below.refl _ _).alloc (Nat.le_refl _) _
  go_enter Tryz.func38, Tryz.ntmps38
  go_wp2
  go_loopw [5, 6, 8, 9, 12] (fun o' l' x' y' i' wr => ∃ (m : Nat) (vo : Value) (us : List Value), m ≤ n ∧ i' = .int .i64 m ∧ vo = o' ∧ Hid (OwnR wr w.heap.size wr.heap.size vo us (allW a m)) ∧ Hid (Below w.heap.size w wr)) (fun _ _ _ _ i' _ => n - (intOf i').toNat)
  case atStart => exact ⟨0, _, _, Nat.zero_le _, rfl, rfl, HO, HB⟩
  case round =>
    clear HO HB
    obtain ⟨m, vo, us, hm, rfl, rfl, HO, HB⟩ := hrel
    obtain ⟨W0, rfl⟩ : ∃ W : World, W = wr := ⟨_, rfl⟩
    obtain ⟨oa, oc, hvo⟩ := ownR_form HO.out
    rw [allW_len] at hvo
    have hpt := pow_top (i := m) ha4 (show m ≤ 20 by omega) (Nat.le_refl _)
    have h4m : a ^ m ≤ 65536 := by
      have h1 : a ^ m ≤ 4 ^ m := Nat.pow_le_pow_left ha4 m
      have h2 : (4 : Nat) ^ m ≤ 4 ^ 8 := Nat.pow_le_pow_right (by omega) (by omega)
      have h3 : (4 : Nat) ^ 8 = 65536 := by decide
      omega
    obtain ⟨P, hP⟩ : ∃ P, P = a ^ m := ⟨_, rfl⟩
    have HPP := Lib.hid hP
    rw [← hP] at hvo h4m
    clear hpt hP
    subst hvo
    by_cases hlt : m < n
    · go_wp2
      go_loopw [6, 8, 9, 16] (fun l' x' y' i' wr => ∃ (i : Nat) (vl : Value) (ul : List Value) (L : List (List Int)), i ≤ P ∧ i' = .int .i64 i ∧ vl = l' ∧ Hid (L = (allW a (m + 1)).take (i * a)) ∧ L.length ≤ i * a ∧ Hid (OwnR wr W0.heap.size wr.heap.size vl ul L) ∧ Hid (Below W0.heap.size W0 wr)) (fun _ _ _ i' _ => P - (intOf i').toNat)
      case atStart => exact ⟨0, _, [], [], Nat.zero_le _, rfl, rfl, by show _ = _; simp, by simp, ownR_start W0, Below.refl _ _⟩
      case round =>
        obtain ⟨i, vl, ul, L, hi2, rfl, rfl, HL, hll, HOl, HBl⟩ := hrel
        obtain ⟨W2, rfl⟩ : ∃ W : World, W = wr := ⟨_, rfl⟩
        by_cases hli : i < P
        · have hat := allW_at (a := a) (n := m) (c := i) (by rw [← HPP.out]; exact hli)
          obtain ⟨X, hX⟩ : ∃ X, X = wd a m i := ⟨_, rfl⟩
          rw [← hX] at hat
          have hxl : X.length ≤ 8 := by rw [hX, wd_len]; omega
          have HXX := Lib.hid hX
          obtain ⟨uu, huu⟩ : ∃ uu, us[i]? = some uu := ⟨_, List.getElem?_eq_getElem (by rw [HO.out.rows.len, allW_len, ← HPP.out]; exact hli)⟩
          have hrow := HO.out.rows.row i uu X huu hat
          obtain ⟨ea, ec, rfl⟩ := hrow.form
          obtain ⟨g, o, rfl, hc1⟩ := lies_at (enc := id) (HO.out.top.below HBl.out).lies huu
          have hc2 : W2.cell? ⟨g, o + i, none⟩ = some (.slice ea X.length ec) := hc1
          have HXL := Lib.hid hrow.lies
          have hlP : (i : Int) < (P : Int) := by omega
          clear hX hat huu hrow hc1
          go_wp2
          go_loopw [6, 9, 21] (fun l' y' c' wr => ∃ (c : Nat) (vl : Value) (ul : List Value) (L : List (List Int)), c ≤ a ∧ c' = .int .i64 c ∧ vl = l' ∧ Hid (L = (allW a (m + 1)).take (i * a + c)) ∧ L.length ≤ i * a + c ∧ Hid (OwnR wr W0.heap.size wr.heap.size vl ul L) ∧ Hid (Below W0.heap.size W0 wr)) (fun _ _ c' _ => a - (intOf c').toNat)
          case atStart => exact ⟨0, vl, ul, L, Nat.zero_le _, rfl, rfl, HL, hll, HOl, HBl⟩
          case round =>
            clear HL hll HOl HBl hc2
            obtain ⟨c, vl, ul, L, hca, rfl, rfl, HL, hll, HOl, HBl⟩ := hrel
            obtain ⟨la, lc, hvl⟩ := ownR_form HOl.out
            subst hvl
            have hia : i * a ≤ 65536 * 4 := Nat.mul_le_mul (by omega) ha4
            by_cases hlc : c < a
            · have HN := Lib.hid (allW_next hlc (by rw [← HPP.out]; exact hli) HXX.out HL.out)
              obtain ⟨Y, hY⟩ : ∃ Y, Y = X ++ [(c : Int)] := ⟨_, rfl⟩
              rw [← hY] at HN
              have HYY := Lib.hid hY
              clear hY
              have HCL := Lib.hid (Digits.clone_lies _ X wr (HXL.out.below HBl.out) (by omega))
              have hlcI : (c : Int) < (a : Int) := by omega
              have hrl : L.length ≤ 10000000 := by omega
              go_wp2_with fail
              refine HCL.out.mono ?_
              rintro e W5 ⟨v5, rfl, hv5, b5⟩
              obtain ⟨x5, y5, rfl, _⟩ := hv5.form
              have HV5 := Lib.hid hv5
              have HB5 := Lib.hid b5
              have HS5 := Lib.hid b5.size
              clear hv5 b5 HCL
              go_upto_region 12 with (first | (refine append_one (enc := (Value.int .i64)) (e := 3) W5 rfl (.tmp 26) (.tmp 28) 24 rfl wr.heap.size i0 (.int .i64 0) 8 Tryz.underlying24 hi hz0 hz1 hz2 rfl (.slice x5 X.length y5) X rfl HV5.out (c : Int) rfl (fun _ => rfl) (by omega) (by omega) HS5.out ?_; intro v6 w6 ho hg; rw [← HYY.out] at ho; have HV6 := Lib.hid ho; have HB6 := Lib.hid (HV5.out.frame HB5.out (Nat.le_refl _) hg); clear ho hg; obtain ⟨x6, y6, hx6, _⟩ := HV6.out.form; subst hx6; have HI6 : Hid (OwnI w6 wr.heap.size w6.heap.size (.slice x6 Y.length y6) Y) := own_of_has HV6.out; have HO6 : Hid (OwnR w6 W0.heap.size wr.heap.size (.slice la L.length lc) ul L) := ⟨HOl.out.top.below HB6.out, HOl.out.lt, HB6.out.size, HOl.out.rows.below HB6.out⟩; have HB06 := Lib.hid (HBl.out.trans (HB6.out.mono HBl.out.size)); have HL06 := Lib.hid HBl.out.size) | (refine wpList_append_ownR rfl (.tmp 24) (.tmp 30) 26 rfl j0 Tryz.underlying26 hj hy0 hy1 hy2 (.slice la L.length lc) rfl HO6.out _ Y HI6.out _ rfl rfl hrl HL06.out ?_; intro v7 w7 ho7 hg7; have HO7 := Lib.hid ho7; have HB7 := Lib.hid (HO6.out.top.frame HB06.out (Nat.le_refl _) hg7); clear ho7 hg7))
              go_wp2
              go_roundw
              case rel => exact ⟨c + 1, _, _, _, by omega, by go_num, rfl, HN, by rw [List.length_append]; simp; omega, HO7, HB7⟩
              case measure => simp [intOf]; omega
            · obtain rfl : c = a := by omega
              have HN : Hid (L = (allW c (m + 1)).take ((i + 1) * c)) := by show _ = _; rw [Nat.succ_mul]; exact HL.out
              have hn2 : L.length ≤ (i + 1) * c := by rw [Nat.succ_mul]; exact hll
              go_wp2
              go_roundw
              case rel => exact ⟨i + 1, _, ul, L, by omega, by go_num, rfl, HN, hn2, HOl, HBl⟩
              case measure => simp [intOf]; omega
        · obtain rfl : i = P := by omega
          have HE : Hid (L = allW a (m + 1)) := by
            show _ = _
            rw [HL.out, List.take_of_length_le (by rw [allW_len, Nat.pow_succ, ← HPP.out]; exact Nat.le_refl _)]
          have HO3 : Hid (OwnR W2 w.heap.size W2.heap.size vl ul (allW a (m + 1))) := by
            rw [← HE.out]
            exact ⟨HOl.out.top.mono HB.out.size, HOl.out.lt, HOl.out.le, HOl.out.rows.lower HB.out.size⟩
          have HB3 := Lib.hid (HB.out.trans (HBl.out.mono HB.out.size))
          go_wp2
          go_roundw
          case rel => exact ⟨m + 1, _, _, by omega, by go_num, rfl, HO3, HB3⟩
          case measure => simp [intOf]; omega
    · obtain rfl : m = n := by omega
      go_wp2
      go_ret
      exact ⟨_, us, rfl, HO.out, HB.out⟩
theorem lwr_no {a n : Int} {w w' : World} (h : lwK a n = false) (hb : Below w.heap.size w w') : GivesRK (lwV a n) (lwK a n) w (.returned (.tuple #[.slice none 0 0, .bool false])) w' := by
  have e : lwV a n = [] := by unfold lwV; rw [if_neg (by rw [h]; simp)]
  rw [e, h]
  exact ⟨_, [], rfl, ⟨World.ownsRow_nil _ _ _ _, (fun k hk => by cases hk), Nat.le_refl _, OwnRows.nil _ _ _⟩, hb⟩
theorem lwr_yes {a n : Nat} {w w' : World} {v : Value} {us : List Value} (h : lwK a n = true) (ho : OwnR w' w.heap.size w'.heap.size v us ((allW a n).filter lyB)) (hb : Below w.heap.size w w') : GivesRK (lwV a n) (lwK a n) w (.returned (.tuple #[v, .bool true])) w' := by
  have e : lwV a n = lynW a n := by unfold lwV; rw [if_pos h]; rfl
  rw [e, h]
  exact ⟨v, us, rfl, ho, hb⟩
set_option maxRecDepth 100000 in
set_option maxHeartbeats 4000000 in
theorem impl_lw (a n : Int) (w : World) :
    Calls Tryz.prog 18 #[.int .i64 a, .int .i64 n] w (GivesRK (lwV a n) (lwK a n) w) := by
  by_cases ha : 1 ≤ a ∧ a ≤ 4
  · have HA := Lib.hid (fun W => alpha a true W (decide_eq_true ha))
    by_cases h1 : 1 ≤ n
    · have hd1 := decide_eq_false (show ¬ n < 1 by omega)
      by_cases h8 : n ≤ 8
      · have hd8 := decide_eq_false (show ¬ n > 8 by omega)
        obtain ⟨x, hx⟩ : ∃ x : Nat, a = x := ⟨a.toNat, by omega⟩
        obtain ⟨m, hm⟩ : ∃ m : Nat, n = m := ⟨n.toNat, by omega⟩
        subst hx; subst hm
        have ha0 : 0 < x := by omega
        have ha4 : x ≤ 4 := by omega
        have hm8 : m ≤ 8 := by omega
        have hpt := pow_top (i := m) ha4 (show m ≤ 20 by omega) (Nat.le_refl _)
        have HCP := Lib.hid (fun W => impl_pw x m W ha4 (by omega))
        have HAW := Lib.hid (fun W => all_words x m W ha0 ha4 hm8)
        have hkk : lwK (x : Int) (m : Int) = decide (x ^ m ≤ 300) := by unfold lwK; rw [decide_eq_true (show (1 : Int) ≤ x ∧ (x : Int) ≤ 4 ∧ (1 : Int) ≤ m ∧ (m : Int) ≤ 8 by omega), Bool.true_and]; rfl
        obtain ⟨P, hP⟩ : ∃ P, P = x ^ m := ⟨_, rfl⟩
        rw [← hP] at hpt HCP hkk
        have HPP := Lib.hid hP
        clear ha h1 h8 hP
        by_cases h3 : P ≤ 300
        · have HK : Hid (lwK (x : Int) (m : Int) = true) := by show _ = _; rw [hkk, decide_eq_true h3]
          have hd3 := decide_eq_false (show ¬ (P : Int) > 300 by omega)
          clear hkk
          go_enter Tryz.func18, Tryz.ntmps18
          go_wp2_with (first | (go_at_call 36; refine (HA.out _).mono ?_; rintro e w' ⟨rfl, rfl⟩) | (go_at_call 37; refine (HCP.out _).mono ?_; rintro e w5 ⟨rfl, rfl⟩))
          refine (HAW.out _).mono ?_
          rintro e W1 ⟨v1, us, rfl, ho, b1⟩
          have hl := ho.rows.len
          have e1 : (us.zip (allW x m)).map Prod.fst = us := List.map_fst_zip (by omega)
          have e2 : (us.zip (allW x m)).map Prod.snd = allW x m := List.map_snd_zip (by omega)
          have HD := Lib.hid (del v1 W1.heap.size (us.zip (allW x m)) w W1 b1 (by rw [e1]; exact ho.top) (FamP.of_rows ho.rows) (Nat.le_refl _) fun p hp => by
            have h1 := (List.of_mem_zip hp).2
            obtain ⟨c, _, h2⟩ := List.mem_map.1 h1
            rw [← h2, wd_len]
            omega)
          unfold DelE at HD
          rw [e2] at HD
          obtain ⟨a1, c1, rfl, _⟩ := ho.top.form
          clear hl e1 e2 ho b1
          go_wp2_with fail
          refine HD.out.mono ?_
          rintro e W5 ⟨v5, us5, rfl, ho5, b5⟩
          have HO5 := Lib.hid ho5
          have HB5 := Lib.hid b5
          clear ho5 b5 HD
          go_wp2
          go_ret2
          exact lwr_yes HK.out HO5.out HB5.out
        · have HK : Hid (lwK (x : Int) (m : Int) = false) := by show _ = _; rw [hkk, decide_eq_false h3]
          have hd3 := decide_eq_true (show (P : Int) > 300 by omega)
          clear hkk
          go_enter Tryz.func18, Tryz.ntmps18
          go_wp2_with (first | (go_at_call 36; refine (HA.out _).mono ?_; rintro e w' ⟨rfl, rfl⟩) | (go_at_call 37; refine (HCP.out _).mono ?_; rintro e w5 ⟨rfl, rfl⟩))
          go_ret2
          exact lwr_no HK.out (Below.refl _ _)
      · have hd8 := decide_eq_true (show n > 8 by omega)
        have HK : Hid (lwK a n = false) := by show _ = _; unfold lwK; rw [decide_eq_false (show ¬ (1 ≤ a ∧ a ≤ 4 ∧ 1 ≤ n ∧ n ≤ 8) by omega), Bool.false_and]
        clear ha h1 h8
        go_enter Tryz.func18, Tryz.ntmps18
        go_wp2_with (go_at_call 36; refine (HA.out _).mono ?_; rintro e w' ⟨rfl, rfl⟩)
        go_ret2
        exact lwr_no HK.out (Below.refl _ _)
    · have hd1 := decide_eq_true (show n < 1 by omega)
      have HK : Hid (lwK a n = false) := by show _ = _; unfold lwK; rw [decide_eq_false (show ¬ (1 ≤ a ∧ a ≤ 4 ∧ 1 ≤ n ∧ n ≤ 8) by omega), Bool.false_and]
      clear ha h1
      go_enter Tryz.func18, Tryz.ntmps18
      go_wp2_with (go_at_call 36; refine (HA.out _).mono ?_; rintro e w' ⟨rfl, rfl⟩)
      go_ret2
      exact lwr_no HK.out (Below.refl _ _)
  · have HA := Lib.hid (fun W => alpha a false W (decide_eq_false ha))
    have HK : Hid (lwK a n = false) := by show _ = _; unfold lwK; rw [decide_eq_false (show ¬ (1 ≤ a ∧ a ≤ 4 ∧ 1 ≤ n ∧ n ≤ 8) by omega), Bool.false_and]
    clear ha
    go_enter Tryz.func18, Tryz.ntmps18
    go_wp2_with (go_at_call 36; refine (HA.out _).mono ?_; rintro e w' ⟨rfl, rfl⟩)
    go_ret2
    exact lwr_no HK.out (Below.refl _ _)
theorem lwV_size (a n : Int) : tot (lwV a n) ≤ 2400 := by
  have h1 := tot_le (rows := lwV a n) (n := 8) fun x hx => lwV_row hx
  have h2 := lwV_len a n
  omega
end Lynd
end Go.Proofs.YtfpdikohlafpiaaGreat
