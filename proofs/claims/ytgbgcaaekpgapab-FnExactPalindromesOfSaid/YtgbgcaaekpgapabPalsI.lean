/- Contract of the program's PalindromesOf. No conditions beyond those that it states. -/
import Derived.Test.YtgbgcaaekpgapabPalVal2
import Derived.Test.YtgbgcaaekpgapabPalM
import Derived.Test.YtgbgcaaekpgapabBorS2
import Derived.Test.YtgbgcaaekpgapabFacI
import Derived.Test.YtgbgcaaekpgapabRsI
namespace Go.Proofs.Ytgbgcaaekpgapab
open Go.ChangeShapes Go.WideShapes Go.ChangeAt Go.RowKit
open Go.PlainAid Plain
set_option linter.unusedVariables false
namespace Fac
open Seqs
theorem FamP.append {w : World} {lo mid hi : Nat} {ps qs : List (Value × List Int)} (h1 : FamP w lo mid ps) (h2 : FamP w mid hi qs) (hlo : lo ≤ mid) (hle : mid ≤ hi) (hw : hi ≤ w.heap.size) : FamP w lo hi (ps ++ qs) := by
  refine ⟨fun p hp => ?_, List.pairwise_append.2 ⟨h1.apart, h2.apart, fun p hp q hq => ?_⟩⟩
  · rcases List.mem_append.1 hp with hp | hp
    · exact (h1.own p hp).mono (Nat.le_refl _) hle hw
    · exact (h2.own p hp).mono hlo (Nat.le_refl _) hw
  · cases hk : p.1.ownBlock with
    | none => exact .inl rfl
    | some k =>
      refine .inr fun e => ?_
      have a1 := (h1.own p hp).range k hk
      have a2 := (h2.own q hq).range k e.symm
      omega
theorem FamP.sub {w : World} {lo hi : Nat} {ps qs : List (Value × List Int)} (h : FamP w lo hi ps) (hs : qs.Sublist ps) : FamP w lo hi qs := ⟨fun p hp => h.own p (hs.subset hp), h.apart.sublist hs⟩
theorem FamP.mono' {w : World} {lo hi hi' : Nat} {ps : List (Value × List Int)} (h : FamP w lo hi ps) (h1 : hi ≤ hi') (h2 : hi' ≤ w.heap.size) : FamP w lo hi' ps := ⟨fun p hp => (h.own p hp).mono (Nat.le_refl _) h1 h2, h.apart⟩
theorem FamP.top {w w' : World} {lo hi lo' : Nat} {v : Value} {xs : List Value} {ps : List (Value × List Int)} (h : FamP w lo hi ps) (ht : Has id 22 w lo' v xs) (hg : w.grownBy w' v.ownBlock) : FamP w' lo hi ps :=
  ⟨fun p hp => by
    have hI := h.own p hp
    exact ⟨hI.has.grown hg (ht.ne_row hI.has), hI.lt, Nat.le_trans hI.le hg.size⟩, h.apart⟩
theorem zip_snd {us : List Value} {rows : List (List Int)} (h : us.length = rows.length) : (us.zip rows).map Prod.snd = rows := List.map_snd_zip (by omega)
theorem filter_snd (ps : List (Value × List Int)) : (ps.filter (fun q : Value × List Int => palB q.2)).map Prod.snd = (ps.map Prod.snd).filter palB := by
  induction ps with
  | nil => rfl
  | cons p ps ih =>
    simp only [List.filter_cons, List.map_cons]
    split
    · simp [ih]
    · exact ih
theorem filter_next {ps : List (Value × List Int)} {k : Nat} {x : Value × List Int} (h : ps[k]? = some x) : (ps.take (k + 1)).filter (fun q : Value × List Int => palB q.2) = (ps.take k).filter (fun q : Value × List Int => palB q.2) ++ if palB x.2 = true then [x] else [] := filter_take (p := (fun q : Value × List Int => palB q.2)) h
theorem nil_pals (w : World) : OwnR w w.heap.size w.heap.size (.slice none 0 0) [] [] := ⟨World.ownsRow_nil _ _ _ _, (fun k hk => by cases hk), Nat.le_refl _, OwnRows.nil _ _ _⟩
set_option maxRecDepth 100000 in
set_option maxHeartbeats 4000000 in
theorem impl_pals (v : Value) (xs : List Int) (w : World) (h : LiesC w v xs) :
    Calls Try.prog 18 #[v] w (GivesR (palV xs) w) := by
  obtain ⟨j0, hj, hy0, hy1, hy2⟩ := info_parts infoR'
  obtain ⟨pa, pc, rfl, hcap⟩ := h.form
  have HX := Lib.hid h
  have hsm := h.1.1
  have HW := Lib.hid (Mor.impl_word _ xs 16 w h.1)
  clear h
  by_cases h64 : xs.length ≤ 64
  · have hd := decide_eq_false (show ¬ (xs.length : Int) > 64 by omega)
    obtain ⟨c, hc⟩ : ∃ c, wordB xs 16 = c := ⟨_, rfl⟩
    rw [hc] at HW
    have HC := Lib.hid hc
    clear hc
    cases c with
    | false =>
      have HV := Lib.hid (palK_no1 HC.out)
      go_enter Try.func18, Try.ntmps18
      go_wp2_with (go_at_call 34; refine HW.out.mono ?_; rintro e w' ⟨rfl, hb⟩)
      go_ret
      rw [HV.out]
      exact ⟨_, [], rfl, ownR_nil _ _, hb⟩
    | true =>
      have HV := Lib.hid (palK_yes HC.out h64)
      go_enter Try.func18, Try.ntmps18
      go_wp2_with (go_at_call 34; refine HW.out.mono ?_; rintro e W1 ⟨rfl, hb⟩; have HB1 := Lib.hid hb; clear hb hd)
      go_loopw [3, 4] (fun o' n' wr => ∃ (n : Nat) (vo : Value) (ps : List (Value × List Int)), n ≤ xs.length ∧ n' = .int .i64 ((n : Int) + 1) ∧ vo = o' ∧ Hid (Has id 22 wr w.heap.size vo ((List.map Prod.fst (α := Value × List Int)) ps)) ∧ Hid (FamP wr w.heap.size wr.heap.size ps) ∧ Hid (ps.map Prod.snd = palT xs n) ∧ Hid (Below w.heap.size w wr)) (fun _ n' _ => xs.length + 2 - (intOf n').toNat)
      case atStart => exact ⟨0, _, [], Nat.zero_le _, by go_num, rfl, World.ownsRow_nil _ _ _ _, ⟨fun p hp => (by cases hp), List.Pairwise.nil⟩, rfl, HB1⟩
      case round =>
        obtain ⟨n, vo, ps, hn, rfl, rfl, HO, HF, HP, HB⟩ := hrel
        by_cases hlt : n < xs.length
        · have HPC := Lib.hid (parts _ xs (n + 1) wr wr (HX.out.below HB.out) (Below.refl _ _) (by omega) (by omega))
          have e1 : ((n : Int) + 1) = ((n + 1 : Nat) : Int) := by omega
          rw [← e1] at HPC
          clear e1
          go_wp2_with fail
          refine HPC.out.mono ?_
          rintro e W5 ⟨v5, us5, rfl, ho5, b5⟩
          have hul := ho5.rows.len
          have hzl : (us5.zip (sdl (wins xs (n + 1)))).length = us5.length := by rw [List.length_zip]; omega
          have hzs := zip_snd hul
          have HZF : Hid (FamP W5 w.heap.size W5.heap.size (ps ++ us5.zip (sdl (wins xs (n + 1))))) := FamP.append (HF.out.below b5) (FamP.of_rows ho5.rows) HB.out.size b5.size (Nat.le_refl _)
          have hzf : (us5.zip (sdl (wins xs (n + 1)))).map Prod.fst = us5 := List.map_fst_zip (by omega)
          have hrl : ∀ q ∈ us5.zip (sdl (wins xs (n + 1))), q.2.length ≤ 1048576 := fun q hq => by
            have h1 : q.2 ∈ sdl (wins xs (n + 1)) := by rw [← hzs]; exact List.mem_map_of_mem hq
            have := wins_row ((sdl_mem _ _).1 h1)
            omega
          have huz : us5.length ≤ 65 := by
            have := sdl_len (wins xs (n + 1))
            rw [wins_len] at this
            omega
          have HPN : Hid ((sdl (wins xs (n + 1))).filter palB = palN xs (n + 1)) := rfl
          have hps := congrArg List.length HP.out
          rw [List.length_map] at hps
          have hpl := palT_small h64 hn
          have hps2 : ps.length ≤ 4096 := by omega
          have HT5 := Lib.hid ho5.top
          have HT5L : Hid (∀ k, v5.ownBlock = some k → k < W5.heap.size) := fun k hk => (ho5.top.lt k hk).2
          have HB5 := Lib.hid (HB.out.trans (b5.mono HB.out.size))
          have HO5 := Lib.hid (HO.out.below b5)
          have HBS5 : Hid (Beside wr.heap.size W5.heap.size vo) := fun k hk => .inl (HO.out.lt k hk).2
          obtain ⟨ga, gc, hv5, _⟩ := ho5.top.form
          subst hv5
          obtain ⟨Z, hZ⟩ : ∃ Z, Z = us5.zip (sdl (wins xs (n + 1))) := ⟨_, rfl⟩
          rw [← hZ] at HZF hzl hzs hzf hrl
          rw [← hzs] at HPN
          have HZS := Lib.hid hzf
          have HZL := Lib.hid hzl
          have HRL := Lib.hid hrl
          have HPS := Lib.hid hps2
          obtain ⟨B5, hB5⟩ : ∃ B, B = wr.heap.size := ⟨_, rfl⟩
          rw [← hB5] at HT5 HBS5
          clear ho5 b5 hul hzl hzs hzf hrl hps hpl hps2 hZ HPC HF HO HB hB5
          go_wp2
          obtain ⟨W6, hW6⟩ : ∃ W : World, W = W5 := ⟨_, rfl⟩
          go_loopw [3, 25] (fun o' k' wr => ∃ (k : Nat) (vo : Value), k ≤ us5.length ∧ k' = .int .i64 k ∧ vo = o' ∧ Hid (Has id 22 wr w.heap.size vo ((List.map Prod.fst (α := Value × List Int)) (ps ++ (Z.take k).filter (fun q : Value × List Int => palB q.2)))) ∧ Hid (FamP wr w.heap.size W5.heap.size (ps ++ Z)) ∧ Hid (Has id 22 wr B5 (.slice ga us5.length gc) us5) ∧ Hid (Beside B5 W5.heap.size vo) ∧ Hid (Below w.heap.size w wr) ∧ Hid (W5.heap.size ≤ wr.heap.size)) (fun _ k' _ => us5.length - (intOf k').toNat)
          case atStart => exact ⟨0, _, Nat.zero_le _, rfl, rfl, by simpa using HO5, HZF, HT5, HBS5, HB5, Nat.le_refl _⟩
          case round =>
            obtain ⟨k, vo, hk, rfl, rfl, HO, HF, HT, HBS, HB, HS⟩ := hrel
            by_cases hkl : k < us5.length
            · obtain ⟨q, hq⟩ : ∃ q, Z[k]? = some q := ⟨_, List.getElem?_eq_getElem (by have := HZL.out; omega)⟩
              have hqm := List.mem_of_getElem? hq
              have hqu : us5[k]? = some q.1 := by rw [← HZS.out, List.getElem?_map, hq]; rfl
              have HN := Lib.hid (filter_next hq)
              have hqo := HF.out.own q (List.mem_append_right _ hqm)
              obtain ⟨u, r⟩ := q
              obtain ⟨ua, uc, hu, _⟩ := hqo.has.form
              obtain ⟨b, o, hga, hcell⟩ : ∃ b o, ga = some ⟨b, o, none⟩ ∧ wr.cell? ⟨b, o + k, none⟩ = some u := by
                obtain ⟨_, a', c', e, _, hc⟩ := HT.out.lies
                injection e with e1 e2 e3
                subst e1
                exact hc k u hqu
              have HPC := Lib.hid (impl_pal u r wr hqo.has.lies (HRL.out _ hqm))
              dsimp only at hu HN
              subst hga
              subst hu
              obtain ⟨c, hc⟩ : ∃ c, c = palB r := ⟨_, rfl⟩
              rw [← hc] at HPC HN
              clear hc hq hqm hqo hqu
              go_wp2_with fail
              refine HPC.out.mono ?_
              rintro e W7 ⟨rfl, b7⟩
              have HO7 := Lib.hid (HO.out.below b7)
              have HF7 := Lib.hid (HF.out.below b7)
              have HT7 := Lib.hid (HT.out.below b7)
              have HB7 := Lib.hid (HB.out.trans (b7.mono HB.out.size))
              have HS7 := Lib.hid (Nat.le_trans HS.out b7.size)
              clear b7 HO HF HT HB HS HPC hcell
              cases c with
              | true =>
                obtain ⟨va, vc, hvo, _⟩ := HO7.out.form
                subst hvo
                have HFL : Hid (((List.map Prod.fst (α := Value × List Int)) (ps ++ (Z.take k).filter (fun q : Value × List Int => palB q.2))).length ≤ 5000) := by
                  have h1 := HPS.out
                  have h2 := List.length_filter_le (fun q : Value × List Int => palB q.2) (Z.take k)
                  have h3 : (Z.take k).length ≤ k := by rw [List.length_take]; omega
                  show _ ≤ _
                  rw [List.length_map, List.length_append]
                  omega
                obtain ⟨M, hM⟩ : ∃ M, M = (List.map Prod.fst (α := Value × List Int)) (ps ++ (Z.take k).filter (fun q : Value × List Int => palB q.2)) := ⟨_, rfl⟩
                have HM : Hid ((List.map Prod.fst (α := Value × List Int)) (ps ++ (Z.take (k + 1)).filter (fun q : Value × List Int => palB q.2)) = M ++ [.slice ua r.length uc]) := by
                  show _ = _
                  rw [HN.out, if_pos rfl, ← List.append_assoc, List.map_append, hM]
                  rfl
                rw [← hM] at HO7 HFL HBS ⊢
                clear hM
                go_wp2_with (at_builtin; refine wpList_append_list (enc := id) (e := 22) rfl (.tmp 31) (.tmp 33) 27 rfl w.heap.size j0 (.slice none 0 0) 24 Try.underlying27 hj hy0 hy1 hy2 rfl (.slice va M.length vc) M rfl (has_alloc HO7.out _) (.slice (some ⟨W7.heap.size, 0, none⟩) 1 1) [.slice ua r.length uc] rfl (lies_lit1v _ rfl) (fun y hy => by simp at hy; subst hy; rfl) (by have := HFL.out; simp only [List.length_cons, List.length_nil]; omega) (by have := HFL.out; simp only [List.length_cons, List.length_nil]; omega) (by have := HB7.out.size; simp; omega) ?_; intro v' w2 hv' hg2' hbk)
                have hg2 := grown_alloc hg2'
                have HO8 : Hid (Has id 22 w2 w.heap.size v' ((List.map Prod.fst (α := Value × List Int)) (ps ++ (Z.take (k + 1)).filter (fun q : Value × List Int => palB q.2)))) := by show Has _ _ _ _ _ _; rw [HM.out]; exact hv'
                have HF8 := Lib.hid (HF7.out.top HO7.out hg2)
                have HT8 := Lib.hid (Has.keep HT7.out HT5L.out HBS.out hg2)
                have HB8 := Lib.hid (HO7.out.frame HB7.out (Nat.le_refl _) hg2)
                have HBS8 := Lib.hid (HBS.out.step (W := W7) (fun k hk => (hbk k hk).imp id fun h => by simp at h; omega) HS7.out)
                have HS8 := Lib.hid (Nat.le_trans HS7.out hg2.size)
                clear hv' hg2' hbk hg2 HO7 HF7 HT7 HB7 HS7
                go_roundw
                case rel => exact ⟨k + 1, _, by omega, by go_num, rfl, HO8, HF8, HT8, HBS8, HB8, HS8⟩
                case measure => simp [intOf] <;> omega
              | false =>
                have HO8 : Hid (Has id 22 W7 w.heap.size vo ((List.map Prod.fst (α := Value × List Int)) (ps ++ (Z.take (k + 1)).filter (fun q : Value × List Int => palB q.2)))) := by
                  show Has _ _ _ _ _ _
                  rw [HN.out, if_neg (by simp), List.append_nil]
                  exact HO7.out
                go_wp2
                go_roundw
                case rel => exact ⟨k + 1, _, by omega, by go_num, rfl, HO8, HF7, HT7, HBS, HB7, HS7⟩
                case measure => simp [intOf] <;> omega
            · have hke : (Z.take k) = Z := List.take_of_length_le (by have := HZL.out; omega)
              rw [hke] at HO
              have HF9 : Hid (FamP wr w.heap.size wr.heap.size (ps ++ Z.filter (fun q : Value × List Int => palB q.2))) := (HF.out.sub (List.Sublist.append_left List.filter_sublist ps)).mono' HS.out (Nat.le_refl _)
              have HP9 : Hid ((ps ++ Z.filter (fun q : Value × List Int => palB q.2)).map Prod.snd = palT xs (n + 1)) := by
                show _ = _
                rw [List.map_append, HP.out, filter_snd, HPN.out]
                rfl
              clear hke HF HT HBS HS
              go_wp2
              go_roundw
              case rel => exact ⟨n + 1, _, _, by omega, by go_num, rfl, HO, HF9, HP9, HB⟩
              case measure => simp [intOf] <;> omega
        · have hne : n = xs.length := by omega
          have hP := HP.out
          rw [hne, ← HV.out] at hP
          have HPV := Lib.hid hP
          clear hP hne
          go_wp2
          go_ret
          refine ⟨_, ps.map Prod.fst, rfl, ?_, HB.out⟩
          rw [← HPV.out]
          exact ⟨HO.out, fun k hk => (HO.out.lt k hk).2, Nat.le_refl _, HF.out.rows⟩
  · have hd := decide_eq_true (show (xs.length : Int) > 64 by omega)
    have HV := Lib.hid (palK_no2 h64)
    go_enter Try.func18, Try.ntmps18
    go_wp2
    go_ret
    rw [HV.out]
    exact ⟨_, [], rfl, ownR_nil _ _, Below.refl _ _⟩
end Fac
end Go.Proofs.Ytgbgcaaekpgapab
