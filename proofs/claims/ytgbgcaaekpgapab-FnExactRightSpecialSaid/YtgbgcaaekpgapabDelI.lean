/- Contracts of the library's DeleteFunc at RightSpecial's closure and of the program's RightSpecial. No conditions beyond those that each states. -/
import Derived.Test.YtgbgcaaekpgapabRsI
namespace Go.Proofs.Ytgbgcaaekpgapab
open Go.ChangeShapes Go.WideShapes Go.ChangeAt Go.RowKit
open Go.PlainAid Plain
set_option linter.unusedVariables false
namespace Fac
open Seqs
def DelE (ps : List (Value × List Int)) (xs : List Int) (W : World) (e : Ending) (w' : World) : Prop := ∃ v' us, e = .returned v' ∧ OwnR w' W.heap.size w'.heap.size v' us ((ps.map Prod.snd).filter (rsB xs)) ∧ Below W.heap.size W w'
theorem filter_snd (ps : List (Value × List Int)) (xs : List Int) : (ps.filter (fun q : Value × List Int => rsB xs q.2)).map Prod.snd = (ps.map Prod.snd).filter (rsB xs) := by
  rw [List.filter_map]
  rfl
theorem del_end {ps : List (Value × List Int)} {xs : List Int} {W w' : World} {v' : Value} {hi : Nat} (hv : Has id 22 w' W.heap.size v' ((ps.filter (fun q : Value × List Int => rsB xs q.2)).map Prod.fst)) (hf : FamP w' W.heap.size hi ps) (hi' : hi ≤ w'.heap.size) (hb : Below W.heap.size W w') : DelE ps xs W (.returned v') w' := by
  refine ⟨v', _, rfl, ⟨hv, fun k hk => (hv.lt k hk).2, Nat.le_refl _, ?_⟩, hb⟩
  have := (hf.filter (fun q : Value × List Int => rsB xs q.2)).rows.mono hi' (Nat.le_refl _)
  rw [filter_snd] at this
  exact this
theorem filter_all {α : Type} {f : α → Bool} {l : List α} (h : ∀ x ∈ l, f x = true) : l.filter f = l := List.filter_eq_self.2 h
set_option maxRecDepth 100000 in
set_option maxHeartbeats 4000000 in
theorem del (v u : Value) (xs : List Int) (B hi : Nat) (ps : List (Value × List Int)) (W w : World) (hB : W.cell? ⟨B, 0, none⟩ = some u) (h1 : Lies (Value.int .i64) W u xs) (hb : Below W.heap.size W w) (hv : Has id 22 w W.heap.size v (ps.map Prod.fst)) (hf : FamP w W.heap.size hi ps) (hhi : hi ≤ w.heap.size) (hs : xs.length ≤ 4194304) (hs2 : ∀ p ∈ ps, p.2.length ≤ 4194304) :
    Calls Try.prog 40 #[v, .func (.func 41) #[] #[.pointer (some ⟨B, 0, none⟩)]] w (DelE ps xs W) := by
  have eg : ∀ args w, (callFunc 41 args).run Try.prog w = .ok (.enter 41 args) w := enters_of Try.func41 (by kernel_rfl) rfl
  obtain ⟨a, c, rfl, hag⟩ := hv.form
  have HV := Lib.hid hv
  have HF := Lib.hid hf
  have HX := Lib.hid h1
  have HBX := Lib.hid hB
  have HS2 := Lib.hid hs2
  have HB := Lib.hid hb
  have HHI := Lib.hid hhi
  have HI := Lib.hid (idx _ u xs B W.heap.size hi ps w ((hb.cell (p := ⟨B, 0, none⟩) (World.block_lt_of_cell? _ _ hB)).trans hB) (h1.below hb) hv hf hs hs2)
  have hml : (ps.map Prod.fst).length = ps.length := List.length_map ..
  rw [hml] at HV HI hag ⊢
  have hsm : ps.length ≤ 9223372036854775807 := by have := HV.out.small; omega
  clear hv hf h1 hB hs2 hml hb hhi
  go_enter Try.func40, Try.ntmps40
  go_wp2_with fail
  refine HI.out.mono ?_
  rintro e W1 ⟨r, rfl, hr, b1⟩
  have HV1 := Lib.hid (HV.out.below b1)
  have HF1 := Lib.hid (HF.out.below b1)
  have HB1 := Lib.hid (HB.out.trans (b1.mono HB.out.size))
  have HH1 := Lib.hid (Nat.le_trans HHI.out b1.size)
  clear b1 HI HV HF HB HHI
  rcases hr with ⟨rfl, hall⟩ | ⟨i, rfl, hil, hpre, hat⟩
  · have HE : Hid (ps.filter (fun q : Value × List Int => rsB xs q.2) = ps) := filter_all hall
    clear hall
    go_wp2
    go_ret
    exact del_end (by rw [HE.out]; exact HV1.out) HF1.out HH1.out HB1.out
  · obtain ⟨g, hg⟩ := hag (by omega)
    subst hg
    have hcap : ps.length ≤ c := (has_cap HV1.out).2
    have hd : ((i : Int) == -1) = false := by simp
    have HG : Hid (∀ p ∈ ps, p.1.ownBlock ≠ some g) := fun p hp e => by
      rcases HV1.out.ne_row (HF1.out.own p hp).has with h | h
      · rw [h] at e; cases e
      · exact h (by rw [e]; rfl)
    obtain ⟨p0, hp0⟩ : ∃ p, ps[i]? = some p := ⟨_, List.getElem?_eq_getElem hil⟩
    have HK0 : Hid (((ps.take (i + 1)).filter (fun q : Value × List Int => rsB xs q.2)).map Prod.fst = (ps.map Prod.fst).take i) := by
      show _ = _
      rw [take_two hp0, List.filter_append, filter_all hpre]
      simp [hat p0 hp0, List.map_take]
    have hgW := (HV1.out.lt g rfl).1
    clear hpre hat hp0
    go_wp2_with fail
    go_loopw [5, 6, 7] (fun i' j' s7 wr => ∃ (i j : Nat) (M : List Value), j ≤ ps.length ∧ i < j ∧ i' = .int .i64 i ∧ j' = .int .i64 j ∧ Hid (M.length = ps.length ∧ M.take i = ((ps.take j).filter (fun q : Value × List Int => rsB xs q.2)).map Prod.fst ∧ ∀ t, j ≤ t → M[t]? = (ps.map Prod.fst)[t]?) ∧ Hid (Has id 22 wr W.heap.size (.slice (some ⟨g, 0, none⟩) ps.length c) M) ∧ Hid (FamP wr W.heap.size hi ps) ∧ Hid (hi ≤ wr.heap.size) ∧ Hid (Below W.heap.size W wr)) (fun _ j' _ _ => ps.length - (intOf j').toNat)
    case atStart => exact ⟨i, i + 1, _, by omega, by omega, rfl, by go_num, ⟨List.length_map .., HK0.out.symm, fun _ _ => rfl⟩, HV1, HF1, HH1, HB1⟩
    case round =>
      clear hil HK0 hd
      obtain ⟨i, j, M, hj, hij, rfl, rfl, HM, HVr, HFr, HHr, HBr⟩ := hrel
      by_cases hlt : j < ps.length
      · obtain ⟨p, hp⟩ : ∃ p, ps[j]? = some p := ⟨_, List.getElem?_eq_getElem hlt⟩
        have hMj : M[j]? = some p.1 := (HM.out.2.2 j (Nat.le_refl _)).trans (by rw [List.getElem?_map, hp]; rfl)
        obtain ⟨_, ha, c1⟩ := top_at (ps := ps) HVr.out hMj
        cases ha
        have hiM : i < M.length := by rw [HM.out.1]; omega
        obtain ⟨z, hz⟩ : ∃ z, M[i]? = some z := ⟨_, List.getElem?_eq_getElem hiM⟩
        have hpo := HFr.out.own p (List.mem_of_getElem? hp)
        obtain ⟨va, vc, hpv⟩ := hpo.form
        have HC := Lib.hid (closure p.1 u xs p.2 B wr ((HBr.out.cell (p := ⟨B, 0, none⟩) (World.block_lt_of_cell? _ _ HBX.out)).trans HBX.out) (HX.out.below HBr.out) hpo.lies hs (HS2.out p (List.mem_of_getElem? hp)))
        have HFT := Lib.hid (filter_take (p := (fun q : Value × List Int => rsB xs q.2)) hp)
        have HPV := Lib.hid hpv
        rw [hpv] at c1 HC
        obtain ⟨r, hr⟩ : ∃ r, r = rsB xs p.2 := ⟨_, rfl⟩
        rw [← hr] at HC
        have HR := Lib.hid hr
        clear hp hpo hpv hr hMj
        cases r with
        | false =>
          have HN : Hid (M.take i = ((ps.take (j + 1)).filter (fun q : Value × List Int => rsB xs q.2)).map Prod.fst) := by
            show _ = _
            rw [HFT.out, if_neg (by show ¬ rsB xs p.2 = true; rw [← HR.out]; simp), List.append_nil]
            exact HM.out.2.1
          have HM1 := Lib.hid HM.out.1
          have HM2 : Hid (∀ t, j + 1 ≤ t → M[t]? = (ps.map Prod.fst)[t]?) := fun t ht => HM.out.2.2 t (by omega)
          clear hz HM
          go_wp2_with (go_at_fn 41; refine HC.out.mono ?_; rintro e w5 ⟨rfl, b5⟩)
          go_roundw
          case rel => exact ⟨i, j + 1, M, by omega, by omega, rfl, by go_num, ⟨HM1.out, HN.out, HM2.out⟩, HVr.out.below b5, HFr.out.below b5, Nat.le_trans HHr.out b5.size, HBr.out.trans (b5.mono HBr.out.size)⟩
          case measure => simp [intOf]; omega
        | true =>
          have HN : Hid ((M.set i p.1).take (i + 1) = ((ps.take (j + 1)).filter (fun q : Value × List Int => rsB xs q.2)).map Prod.fst) := by
            show _ = _
            rw [HFT.out, if_pos (by show rsB xs p.2 = true; rw [← HR.out]), List.map_append, ← HM.out.2.1, List.take_succ_eq_append_getElem (by simpa using hiM), List.take_set, List.set_eq_of_length_le (by rw [List.length_take]; omega)]
            simp
          have HM1 : Hid ((M.set i p.1).length = ps.length) := by show _ = _; rw [List.length_set]; exact HM.out.1
          have HM2 : Hid (∀ t, j + 1 ≤ t → (M.set i p.1)[t]? = (ps.map Prod.fst)[t]?) := fun t ht => by
            rw [List.getElem?_set_ne (by omega)]
            exact HM.out.2.2 t (by omega)
          have HML := Lib.hid HM.out.1
          have HZ := Lib.hid hz
          have hil : i < ps.length := by omega
          clear hz HM hiM
          go_wp2_with (go_at_fn 41; refine HC.out.mono ?_; rintro e w5 ⟨rfl, b5⟩; have HV5 := Lib.hid (HVr.out.below b5); have HF5 := Lib.hid (HFr.out.below b5); have HH5 := Lib.hid (Nat.le_trans HHr.out b5.size); have HB5 := Lib.hid (HBr.out.trans (b5.mono HBr.out.size)); obtain ⟨_, ha, m1⟩ := top_at (ps := ps) HV5.out HZ.out; cases ha; have m3 := has_frozen HV5.out HML.out.symm i; clear b5)
          have hst := has_store (enc := id) HV5.out HML.out.symm i p.1
          rw [show (id p.1 : Value) = p.1 from rfl, HPV.out] at hst
          rw [HPV.out] at HN HM1 HM2
          have HST := Lib.hid hst
          have HF6 := Lib.hid (HF5.out.grown HG.out hst.2)
          have HH6 := Lib.hid (Nat.le_trans HH5.out hst.2.size)
          have HB6 := Lib.hid (HB5.out.grown hst.2 HB5.out.size (fun k hk => by cases hk; exact hgW))
          clear hst m1 m3
          go_roundw
          case rel => exact ⟨i + 1, j + 1, _, by omega, by omega, by go_num, by go_num, ⟨HM1.out, HN.out, HM2.out⟩, HST.out.1, HF6, HH6, HB6⟩
          case measure => simp [intOf]; omega
      · have hil : i < ps.length := by omega
        have HE : Hid (M.take i = (ps.filter (fun q : Value × List Int => rsB xs q.2)).map Prod.fst) := by
          have := HM.out.2.1
          rw [List.take_of_length_le (show ps.length ≤ j by omega)] at this
          exact this
        have HML := Lib.hid HM.out.1
        have hsf := slice_from g ps.length c i (i : Int) hil hcap rfl
        have hcl := fun ty => run_clear HVr.out HML.out.symm hil ty (c - i)
        have hsto := slice_to g ps.length c i (by omega) (by omega)
        have HCUT := Lib.hid (has_cut HVr.out HML.out.symm (Nat.le_of_lt hil) HE.out (List.replicate (ps.length - i) (.slice none 0 0)) (.inr (by rw [List.length_replicate]; omega)))
        clear HM
        go_wp2
        go_ret
        exact del_end HCUT.out.1 (HFr.out.grown HG.out HCUT.out.2) (Nat.le_trans HHr.out HCUT.out.2.size) (HBr.out.grown HCUT.out.2 HBr.out.size (fun k hk => by cases hk; exact hgW))
set_option maxRecDepth 100000 in
set_option maxHeartbeats 4000000 in
theorem impl_rs (u : Value) (xs : List Int) (n : Int) (w : World) (h : LiesC w u xs) (hs : xs.length ≤ 4194304) :
    Calls Try.prog 27 #[u, .int .i64 n] w (GivesR (rsV xs n) w) := by
  obtain ⟨a, ca, rfl, hcap⟩ := h.form
  have hb0 : Below w.heap.size w (w.alloc (Obj.cells #[.slice a xs.length ca] 22)) := (Below.refl _ _).alloc (Nat.le_refl _) _
  have HX := Lib.hid (h.below hb0)
  have HB := Lib.hid hb0
  have hC : (w.alloc (Obj.cells #[.slice a xs.length ca] 22)).cell? ⟨w.heap.size, 0, none⟩ = some (.slice a xs.length ca) := Plain.one_cell w 22 _ 0 _ rfl
  have HC := Lib.hid hC
  clear h hb0
  go_enter Try.func27, Try.ntmps27
  go_wp2_with fail
  obtain ⟨W, hW⟩ : ∃ W, W = w.alloc (Obj.cells #[.slice a xs.length ca] 22) := ⟨_, rfl⟩
  rw [← hW] at HX HB HC hC ⊢
  have HF := Lib.hid (impl_fac _ xs n W HX.out)
  clear hW
  refine HF.out.mono ?_
  rintro e W1 ⟨v1, us, rfl, ho, b1⟩
  have hl := ho.rows.len
  have e1 : (us.zip (facV xs n)).map Prod.fst = us := List.map_fst_zip (by omega)
  have e2 : (us.zip (facV xs n)).map Prod.snd = facV xs n := List.map_snd_zip (by omega)
  have HD := Lib.hid (del v1 (.slice a xs.length ca) xs w.heap.size W1.heap.size (us.zip (facV xs n)) W W1 HC.out HX.out.lies b1 (by rw [e1]; exact ho.top) (FamP.of_rows ho.rows) (Nat.le_refl _) hs fun p hp => by
    have h1 := (List.of_mem_zip hp).2
    have h2 := facV_row h1
    by_cases hk : facK xs n = true
    · have := facK_out hk; omega
    · rw [facV_no (by simpa using hk)] at h1; cases h1)
  unfold DelE at HD
  rw [e2] at HD
  obtain ⟨a1, c1, rfl, _⟩ := ho.top.form
  clear hl e1 e2 ho b1 HF hC
  go_wp2_with fail
  refine HD.out.mono ?_
  rintro e W5 ⟨v5, us5, rfl, ho5, b5⟩
  have HO5 := Lib.hid ho5
  have HB5 := Lib.hid (HB.out.trans (b5.mono HB.out.size))
  have HLO := Lib.hid HB.out.size
  clear ho5 b5 HD
  go_wp2
  go_ret
  have hr := HO5.out
  exact ⟨_, us5, rfl, ⟨hr.top.mono HLO.out, hr.lt, hr.le, hr.rows.lower HLO.out⟩, HB5.out⟩
end Fac
end Go.Proofs.Ytgbgcaaekpgapab
