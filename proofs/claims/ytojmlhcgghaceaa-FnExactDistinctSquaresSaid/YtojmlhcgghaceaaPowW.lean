/- Contracts of DistinctSquares, of the model and of the program. No conditions beyond those that each states. -/
import Derived.Test.YtojmlhcgghaceaaPowG2
import Derived.Test.YtojmlhcgghaceaaPutS
import Derived.Test.YtojmlhcgghaceaaDiffJ
namespace Go.Proofs.Ytojmlhcgghaceaa
open Go.ChangeShapes Go.WideShapes Go.ChangeAt Go.RowKit
open Go.PlainAid Plain
set_option linter.unusedVariables false
namespace Fac
open Seqs
theorem sqW_step {u : List Int} {L : List Sqr} {i : Nat} {e : Sqr} (he : L[i]? = some e) : sqW u (L.take (i + 1)) = sqW u (L.take i) ++ [(u.drop e.1).take (2 * e.2)] := by
  obtain ⟨hlt, e2⟩ := List.getElem?_eq_some_iff.1 he
  rw [List.take_succ_eq_append_getElem hlt, e2]
  simp [sqW]
theorem sqW_len (u : List Int) (L : List Sqr) : (sqW u L).length = L.length := by simp [sqW]
theorem sqW_mem {u : List Int} {L : List Sqr} {x : List Int} (h : x ∈ sqW u L) : x.length ≤ u.length := by
  obtain ⟨s, _, rfl⟩ := List.mem_map.1 h
  rw [List.length_take, List.length_drop]
  omega
set_option maxRecDepth 100000 in
set_option maxHeartbeats 4000000 in
theorem spec_dis (v : Value) (u : List Int) (w : World) (h : LiesC w v u) :
    Calls Try.prog 32 #[v] w fun e w' => e = .returned (.int .i64 (dsq u)) ∧ Below w.heap.size w w' := by
  obtain ⟨pa, pc, rfl, hcap⟩ := h.form
  have hsm := h.1.1
  have HU := Lib.hid h
  have HC := Lib.hid (spec_sq _ u w h.lies)
  have HFIT : Hid (∀ s ∈ sqV u, 0 < s.2 ∧ s.1 + 2 * s.2 ≤ u.length ∧ u.length ≤ 64) := fun s hs => sqV_fit hs
  have HDS : Hid ((sdl (sqW u (sqV u))).length = dsq u) := rfl
  have hdq := dsq_le u
  obtain ⟨L, hL⟩ : ∃ L, L = sqV u := ⟨_, rfl⟩
  have hLl : L.length ≤ 4096 := by rw [hL]; exact sqV_len u
  rw [← hL] at HC HFIT HDS
  clear h hL
  go_enter Try.func32, Try.ntmps32
  go_wp2_with fail
  refine HC.out.mono ?_
  rintro e W1 ⟨vs, rfl, hv, b1⟩
  obtain ⟨sa, sc, hvs⟩ := hv.form
  have hag := hv.1.form
  rw [sqL_len] at hvs
  subst hvs
  have HAG : Hid (0 < L.length → ∃ g, sa = some ⟨g, 0, none⟩) := fun h0 => by
    obtain ⟨a, c, h1, h2⟩ := hag
    injection h1 with h1
    subst h1
    exact h2 (by rw [sqL_len]; exact h0)
  have HV := Lib.hid hv.1
  have HB1 := Lib.hid b1
  have HB : Hid (Below W1.heap.size W1 (W1.alloc (Obj.cells #[] 22))) := (Below.refl _ _).alloc (Nat.le_refl _) _
  have HO : Hid (Has id 22 (W1.alloc (Obj.cells #[] 22)) W1.heap.size (.slice (some ⟨W1.heap.size, 0, none⟩) 0 0) []) := has_lit0 (enc := id) rfl (Nat.le_refl _)
  clear hv b1 hag
  go_wp2
  go_loopw [4, 5] (fun o' i' wr => ∃ (i : Nat) (vo : Value), i ≤ L.length ∧ i' = .int .i64 i ∧ vo = o' ∧ Hid (RowsV wr W1.heap.size W1.heap.size vo (sdl (sqW u (L.take i)))) ∧ Hid (Below W1.heap.size W1 wr)) (fun _ i' _ => L.length - (intOf i').toNat)
  case atStart => exact ⟨0, _, Nat.zero_le _, rfl, rfl, RowsV.nil HO.out, HB⟩
  case round =>
    obtain ⟨i, vo, hi', rfl, rfl, HOr, HBr⟩ := hrel
    by_cases hlt : i < L.length
    · obtain ⟨e, he⟩ : ∃ x, L[i]? = some x := ⟨_, List.getElem?_eq_getElem hlt⟩
      obtain ⟨g, rfl⟩ := HAG.out (by omega)
      have HO1 := HV.out.below HBr.out
      rw [show L.length = (sqL L).length from (sqL_len L).symm] at HO1
      have p0 := HO1.cell (j := 0) (sqL_at he) rfl
      have p2 := HO1.cell (j := 2) (sqL_at he) rfl
      rw [Nat.add_zero] at p0
      have hf := HFIT.out e (List.mem_of_getElem? he)
      obtain ⟨a1, c1, hsl, hcut⟩ := (HU.out.below (HB1.out.trans (HBr.out.mono HB1.out.size))).slice (l := e.1) (h := e.1 + 2 * e.2) (by omega) (by omega) (L := (e.1 : Int)) (H := (e.1 : Int) + 2 * (e.2 : Int)) rfl (by omega)
      rw [show e.1 + 2 * e.2 - e.1 = 2 * e.2 from by omega] at hsl hcut
      have hw : IntKind.i64.wrap ((e.1 : Int) + 2 * (e.2 : Int)) = (e.1 : Int) + 2 * (e.2 : Int) := by rw [IntKind.wrap_i64]; omega
      have HS := Lib.hid (sdl_snoc (sqW u (L.take i)) ((u.drop e.1).take (2 * e.2)))
      have HT := Lib.hid (sqW_step (u := u) he)
      have hlen : (sdl (sqW u (L.take i))).length ≤ 10000 := by
        have h1 := sdl_len (sqW u (L.take i))
        rw [sqW_len, List.length_take] at h1
        omega
      have hD : Below wr.heap.size wr wr.drew := below_drew' wr
      have HP := Lib.hid (put vo _ (sdl (sqW u (L.take i))) _ wr.drew W1.heap.size W1.heap.size (HOr.out.below hD) (hcut.lies.below hD) (Nat.le_trans HBr.out.size hD.size) hlen (by rw [List.length_take, List.length_drop]; omega))
      obtain ⟨x, y⟩ := e
      dsimp only at p0 p2 hf hsl hw HP HS HT
      have hil : (i : Int) < (L.length : Int) := by omega
      obtain ⟨hy0, hxy, hu64⟩ := hf
      clear hlen he hcut HO1
      go_wp2_with fail
      go_region_law (first | (go_simp; go_at_call 49; (with_reducible refine HP.out.mono ?_); rintro e W5 ⟨v5, rfl, ho5, b5⟩; have bA : Below wr.heap.size wr W5 := hD.trans (b5.mono hD.size)))
      all_goals
        rw [← HS.out, ← HT.out] at ho5
        have HO5 := Lib.hid (ho5.mono (show W1.heap.size ≤ wr.drew.heap.size from Nat.le_trans HBr.out.size hD.size) (Nat.le_refl _))
        have HB5 := Lib.hid (HBr.out.trans (bA.mono HBr.out.size))
        clear ho5 b5 bA p0 p2
        go_wp2
        go_roundw
        case rel => exact ⟨i + 1, _, by omega, by go_num, rfl, HO5, HB5⟩
        case measure => simp [intOf]; omega
    · have HE : Hid (RowsV wr W1.heap.size W1.heap.size vo (sdl (sqW u L))) := by
        have := HOr.out
        rw [List.take_of_length_le (by omega)] at this
        exact this
      obtain ⟨va, vc, hvo⟩ := HE.out.form
      rw [HDS.out] at hvo
      subst hvo
      go_wp2
      go_ret
      exact ⟨rfl, HB1.out.trans (HBr.out.mono HB1.out.size)⟩
theorem infoR3 : (Try.prog.info? 22).map (fun i => (i.zero, i.size, i.bytes)) = some (some (.slice none 0 0), 1, 24) := by kernel_rfl
set_option maxRecDepth 100000 in
set_option maxHeartbeats 4000000 in
theorem impl_dis (v : Value) (u : List Int) (w : World) (h : LiesC w v u) :
    Calls Try.prog 33 #[v] w fun e w' => e = .returned (.int .i64 (dsq u)) ∧ Below w.heap.size w w' := by
  obtain ⟨j0, hj, hy0, hy1, hy2⟩ := info_parts infoR3
  obtain ⟨pa, pc, rfl, hcap⟩ := h.form
  have hsm := h.1.1
  have HU := Lib.hid h
  have HC := Lib.hid (impl_sq _ u w h)
  have HFIT : Hid (∀ s ∈ sqV u, 0 < s.2 ∧ s.1 + 2 * s.2 ≤ u.length ∧ u.length ≤ 64) := fun s hs => sqV_fit hs
  have HDS : Hid ((sdl (sqW u (sqV u))).length = dsq u) := rfl
  have hdq := dsq_le u
  obtain ⟨L, hL⟩ : ∃ L, L = sqV u := ⟨_, rfl⟩
  have hLl : L.length ≤ 4096 := by rw [hL]; exact sqV_len u
  rw [← hL] at HC HFIT HDS
  clear h hL
  go_enter Try.func33, Try.ntmps33
  go_wp2_with fail
  refine HC.out.mono ?_
  rintro e W1 ⟨vs, rfl, hv, b1⟩
  obtain ⟨sa, sc, hvs⟩ := hv.form
  have hag := hv.1.form
  rw [sqL_len] at hvs
  subst hvs
  have HAG : Hid (0 < L.length → ∃ g, sa = some ⟨g, 0, none⟩) := fun h0 => by
    obtain ⟨a, c, h1, h2⟩ := hag
    injection h1 with h1
    subst h1
    exact h2 (by rw [sqL_len]; exact h0)
  have HV := Lib.hid hv.1
  have HB1 := Lib.hid b1
  clear hv b1 hag
  go_wp2
  go_loopw [3, 9] (fun o' i' wr => ∃ (i : Nat) (vo : Value) (D : List (Part w)), i ≤ L.length ∧ i' = .int .i64 i ∧ vo = o' ∧ Hid (Has Part.v 22 wr W1.heap.size vo D) ∧ Hid (D.map Part.k = sqW u (L.take i)) ∧ Hid (Below W1.heap.size W1 wr)) (fun _ i' _ => L.length - (intOf i').toNat)
  case atStart => exact ⟨0, _, [], Nat.zero_le _, rfl, rfl, World.ownsRow_nil _ _ _ _, rfl, Below.refl _ _⟩
  case round =>
    obtain ⟨i, vo, D, hi', rfl, rfl, HOr, HDr, HBr⟩ := hrel
    by_cases hlt : i < L.length
    · obtain ⟨e, he⟩ : ∃ x, L[i]? = some x := ⟨_, List.getElem?_eq_getElem hlt⟩
      obtain ⟨g, rfl⟩ := HAG.out (by omega)
      have HO1 := HV.out.below HBr.out
      rw [show L.length = (sqL L).length from (sqL_len L).symm] at HO1
      have p0 := HO1.cell (j := 0) (sqL_at he) rfl
      have p1 := HO1.cell (j := 1) (sqL_at he) rfl
      have p2 := HO1.cell (j := 2) (sqL_at he) rfl
      rw [Nat.add_zero] at p0
      have hf := HFIT.out e (List.mem_of_getElem? he)
      obtain ⟨a1, c1, hsl, hcut⟩ := HU.out.slice (l := e.1) (h := e.1 + 2 * e.2) (by omega) (by omega) (L := (e.1 : Int)) (H := (e.1 : Int) + 2 * (e.2 : Int)) rfl (by omega)
      rw [show e.1 + 2 * e.2 - e.1 = 2 * e.2 from by omega] at hsl hcut
      have hDl : D.length ≤ 4096 := by
        have := congrArg List.length HDr.out
        rw [List.length_map, sqW_len, List.length_take] at this
        omega
      obtain ⟨va, vc, hvo, _⟩ := HOr.out.form
      subst hvo
      have HP : Hid ((D ++ [Part.mk hcut.1]).map Part.k = sqW u (L.take (i + 1))) := by
        show _ = _
        rw [sqW_step he, List.map_append, HDr.out]
        rfl
      have HCT := Lib.hid hcut
      obtain ⟨x, y⟩ := e
      dsimp only at p0 p1 p2 hf hsl HP HCT
      have hil : (i : Int) < (L.length : Int) := by omega
      obtain ⟨hyp, hxy, hu64⟩ := hf
      clear he HO1
      go_upto_region 5 with (fail)
      obtain ⟨W5, hW5⟩ : ∃ W, W = wr.alloc (.cells #[.int .i64 (x : Int), .int .i64 (y : Int), .int .i64 (2 * (y : Int))] 35) := ⟨_, rfl⟩
      have hc := Cells3.new wr 35 (.int .i64 (x : Int)) (.int .i64 (y : Int)) (.int .i64 (2 * (y : Int)))
      have hbw : Below wr.heap.size wr W5 := by rw [hW5]; exact (Below.refl _ _).alloc (Nat.le_refl _) _
      rw [← hW5] at hc ⊢
      have q0 := hc.c0
      have q2 := hc.c2
      have HO5 := Lib.hid (HOr.out.below hbw)
      have HB5 := Lib.hid (HBr.out.trans (hbw.mono HBr.out.size))
      clear hW5 hc hbw p0 p1 p2
      go_wp2_with (at_builtin; refine append_one (enc := Part.v) (e := 22) W5 rfl _ _ 57 rfl W1.heap.size j0 (.slice none 0 0) 24 Try.underlying57 hj hy0 hy1 hy2 rfl (.slice va D.length vc) D rfl HO5.out (Part.mk HCT.out.1) rfl (fun x => x.one) (by omega) (by omega) HB5.out.size ?_; intro v' w1 ho hg; have HO2 := Lib.hid ho; have HB2 := Lib.hid (HO5.out.frame HB5.out (Nat.le_refl _) hg); clear hg ho)
      go_roundw
      case rel => exact ⟨i + 1, _, _, by omega, by go_num, rfl, HO2, HP, HB2⟩
      case measure => simp [intOf]; omega
    · have hE : D.map Part.k = sqW u L := by
        have := HDr.out
        rwa [List.take_of_length_le (by omega)] at this
      have hDl : D.length ≤ 4096 := by
        have := congrArg List.length hE
        rw [List.length_map, sqW_len] at this
        omega
      have HBW := Lib.hid (HB1.out.trans (HBr.out.mono HB1.out.size))
      have HD := Lib.hid (diff vo w wr D HBW.out (HOr.out.mono HB1.out.size) (by omega) fun x hx => by
        have := sqW_mem (u := u) (L := L) (x := x.k) (by rw [← hE]; exact List.mem_map_of_mem hx)
        have hmem : x.k ∈ sqW u L := by rw [← hE]; exact List.mem_map_of_mem hx
        obtain ⟨s, hs, _⟩ := List.mem_map.1 hmem
        have := (HFIT.out s hs).2.2
        omega)
      rw [hE] at HD
      clear hE
      go_wp2_with fail
      refine HD.out.mono ?_
      rintro e W5 ⟨v5, us5, rfl, ho5, b5⟩
      have h2 := ho5.rows.len
      obtain ⟨a5, c5, rfl, _⟩ := ho5.top.form
      rw [h2, HDS.out]
      have HB5 := Lib.hid b5
      clear ho5 b5 HD h2
      go_wp2
      go_ret
      exact ⟨rfl, HB5.out⟩
end Fac
end Go.Proofs.Ytojmlhcgghaceaa
