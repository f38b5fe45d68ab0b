/- Contract of the model's copy of a sequence. No conditions beyond those that each states. -/
import Derived.Test.YthnmighlgifoeaaSeqCopy
import Derived.Test.YthnmighlgifoeaaSeqs2
import Derived.Deep.DeepCutAuto
import Derived.Deep.RegionHeld3
namespace Go.Proofs.Ythnmighlgifoeaa
open Go.ChangeShapes Go.WideShapes Go.ChangeAt Go.RowKit
open Go.PlainAid Plain
set_option linter.unusedVariables false
namespace Seqs
open Digits
theorem copy_held {w wo w' : World} {t : TypeId} {x y z : Value} {pa o : Nat} {u : Value} (hA : Cells3 wo w.heap.size t x y z) (hpa : pa < w.heap.size) (hc : wo.cell? ⟨pa, o, none⟩ = some u) (h : Below (w.heap.size + 2) wo w') :
    w'.cell? ⟨w.heap.size, 0, none⟩ = some x ∧ w'.cell? ⟨w.heap.size, 1, none⟩ = some y ∧ w'.cell? ⟨w.heap.size, 2, none⟩ = some z ∧ w'.cell? ⟨pa, o, none⟩ = some u := by
  have hA' := c3_of_below h hA (by omega)
  exact ⟨hA'.c0, hA'.c1, hA'.c2, (h.cell (p := ⟨pa, o, none⟩) (by show pa < _; omega)).trans hc⟩
set_option maxHeartbeats 1000000 in
theorem spec_copied (v : Value) (b : Int) (rows : List (List Int)) (out : List Int) (w : World) (h : LiesS w v b rows out) (hs : rows.length + tot rows + out.length ≤ 1048576) :
    Calls Try.prog 58 #[v] w (GivesS b rows out w) := by
  obtain ⟨i0, hi, hz0, hz1, hz2⟩ := info_parts infoR
  obtain ⟨i1, hi1, hz01, hz11, hz21⟩ := info_parts Ints.infoI
  obtain ⟨an, cn, ao, co, rfl, hN, hO⟩ := liesS_open h
  have HN := Lib.hid hN
  have HO := Lib.hid hO
  clear h hN hO
  have hB : Below w.heap.size w ((w.alloc (Obj.cells #[Value.int .i64 b, Value.slice an rows.length cn, Value.slice ao out.length co] 27)).alloc (Obj.cells #[Value.int .i64 0, Value.slice none 0 0, Value.slice none 0 0] 27)) := ((Below.refl _ _).alloc (Nat.le_refl _) _).alloc (by simp) _
  have hA := Lib.hid ((Cells3.new w 27 (.int .i64 b) (.slice an rows.length cn) (.slice ao out.length co)).alloc (Obj.cells #[Value.int .i64 0, Value.slice none 0 0, Value.slice none 0 0] 27))
  have hZ := Lib.hid (Cells3.new (w.alloc (Obj.cells #[Value.int .i64 b, Value.slice an rows.length cn, Value.slice ao out.length co] 27)) 27 (.int .i64 0) (.slice none 0 0) (.slice none 0 0))
  rw [size_alloc'] at hZ
  have HB := Lib.hid hB
  have hz : ((w.alloc (Obj.cells #[Value.int .i64 b, Value.slice an rows.length cn, Value.slice ao out.length co] 27)).alloc (Obj.cells #[Value.int .i64 0, Value.slice none 0 0, Value.slice none 0 0] 27)).heap.size = w.heap.size + 2 := by simp
  have HZ := Lib.hid hz
  clear hB hz
  go_enter Try.func58, Try.ntmps58
  go_wp2_with fail
  obtain ⟨W0, hW0⟩ : ∃ W, W = (w.alloc (Obj.cells #[Value.int .i64 b, Value.slice an rows.length cn, Value.slice ao out.length co] 27)).alloc (Obj.cells #[Value.int .i64 0, Value.slice none 0 0, Value.slice none 0 0] 27) := ⟨_, rfl⟩
  rw [← hW0] at hA hZ HB HZ ⊢
  clear hW0
  go_cut [3] (fun s wx => ∃ (p : Nat) (vo : Value), s = .pointer (some ⟨p, 0, none⟩) ∧ Hid (w.heap.size + 2 ≤ p ∧ p < wx.heap.size) ∧ Hid (Cells3 wx p 27 (.int .i64 b) (.slice none 0 0) vo) ∧ Hid (OwnI wx (w.heap.size + 2) wx.heap.size vo out) ∧ Hid (Cells3 wx w.heap.size 27 (.int .i64 b) (.slice an rows.length cn) (.slice ao out.length co)) ∧ Hid (Cells3 wx (w.heap.size + 1) 27 (.int .i64 0) (.slice none 0 0) (.slice none 0 0)) ∧ Hid (Below w.heap.size w wx))
  case first =>
    have HOW := Lib.hid (HO.out.below HB.out)
    go_region_held3 (fun w' => w'.cell? ⟨w.heap.size, 0, none⟩ = some (.int .i64 b) ∧ w'.cell? ⟨w.heap.size, 1, none⟩ = some (.slice an rows.length cn) ∧ w'.cell? ⟨w.heap.size, 2, none⟩ = some (.slice ao out.length co))
      ((refine c3_all (t := 27) ?_; repeat (first | with_reducible exact hA.out | with_reducible apply c3_drew | with_reducible apply Cells3.alloc | (refine Cells3.grown ?_ hg (by have := HZ.out; simp [Value.ownBlock]; omega)) | (with_reducible refine Cells3.other ?_ (by have := HZ.out; simp; omega) _))))
      ((refine step_append_list (enc := Value.int .i64) (e := 3) rfl _ _ 23 rfl (w.heap.size + 2) i1 (.int .i64 0) 8 Try.underlying23 hi1 hz01 hz11 hz21 rfl (Value.slice (some ⟨_, 0, none⟩) 0 0) [] rfl (by repeat (first | with_reducible apply has_drew | ((with_reducible apply has_lit0) <;> (have := HZ.out; simp <;> omega)) | with_reducible apply has_alloc)) (Value.slice ao out.length co) out rfl (by repeat (first | with_reducible exact HOW.out | with_reducible apply lies_drew | with_reducible apply lies_alloc)) (fun _ _ => rfl) (by simp only [List.length_nil]; omega) (by simp only [List.length_nil]; omega) (by have := HZ.out; simp; omega) ?_; intro vo w1 ho hg; rw [List.nil_append] at ho; obtain ⟨av, cv, rfl, _⟩ := ho.form; (first | (refine with_fact (T := Cells3 w1 (W0.heap.size) 27 (.int .i64 0) (.slice none 0 0) (.slice none 0 0)) ?_ ?_; (refine Cells3.grown ?_ hg ?_; (focus ((repeat (first | with_reducible apply c3_drew | (with_reducible refine c3_new' ?_; simp; done) | with_reducible apply Cells3.alloc)); done)); (focus (simp [Value.ownBlock]; done))); intro hZ1; have q0 := hZ1.c0; have q1 := hZ1.c1; have q2 := hZ1.c2; have q3 := hZ1.f) | (refine with_fact (T := Cells3 w1 (W0.heap.size + 1) 27 (.int .i64 0) (.slice none 0 0) (.slice none 0 0)) ?_ ?_; (refine Cells3.grown ?_ hg ?_; (focus ((repeat (first | with_reducible apply c3_drew | (with_reducible refine c3_new' ?_; simp; done) | with_reducible apply Cells3.alloc)); done)); (focus (simp [Value.ownBlock]; done))); intro hZ1; have q0 := hZ1.c0; have q1 := hZ1.c1; have q2 := hZ1.c2; have q3 := hZ1.f) | skip)))
    all_goals
      have hgW : W0.grownBy w1 (some W0.heap.size) ∨ W0.grownBy w1 (some (W0.heap.size + 1)) := by
        first
        | exact Or.inl (grown_alloc (grown_drew hg))
        | exact Or.inl (grown_alloc (grown_alloc (grown_drew hg)))
        | exact Or.inr (grown_alloc (grown_alloc (grown_drew hg)))
      have hA1 : Cells3 w1 w.heap.size 27 (.int .i64 b) (.slice an rows.length cn) (.slice ao out.length co) := by
        rcases hgW with h | h
        · exact hA.out.grown h (by have := HZ.out; simp; omega)
        · exact hA.out.grown h (by have := HZ.out; simp; omega)
      have hZ1' : Cells3 w1 (w.heap.size + 1) 27 (.int .i64 0) (.slice none 0 0) (.slice none 0 0) := by
        rcases hgW with h | h
        · exact hZ.out.grown h (by have := HZ.out; simp; omega)
        · exact hZ.out.grown h (by have := HZ.out; simp; omega)
      have hB1 : Below w.heap.size w w1 := by
        rcases hgW with h | h
        · exact HB.out.grown h HB.out.size (fun k hk => by cases hk; exact HB.out.size)
        · exact HB.out.grown h HB.out.size (fun k hk => by cases hk; have := HB.out.size; omega)
      have hs1 : w.heap.size + 2 ≤ w1.heap.size := by
        have := HZ.out
        rcases hgW with h | h
        · have := h.size; omega
        · have := h.size; omega
      have hO1 : OwnI w1 (w.heap.size + 2) w1.heap.size (.slice av out.length cv) out := ⟨ho, fun k hk => (ho.lt k hk).2, Nat.le_refl _⟩
      have HA1 := Lib.hid hA1
      have HZ1 := Lib.hid hZ1'
      have HB1 := Lib.hid hB1
      have HS1 := Lib.hid hs1
      have HO1 := Lib.hid hO1
      clear hA1 hZ1' hB1 hs1 hO1 hgW hg ho
    · go_wp2_with fail
      go_meet
      refine ⟨_, _, rfl, ⟨HS1.out, ?_⟩, c3_new' rfl, (HO1.out.below ((Below.refl _ _).alloc (Nat.le_refl _) _)).mono (Nat.le_refl _) (by simp) (Nat.le_refl _), HA1.out.alloc _, HZ1.out.alloc _, HB1.out.alloc HB1.out.size _⟩
      simp
    all_goals
      have HC1 := Lib.hid hZ1
      have HNE := Lib.hid (has_ne_c3 HO1.out.has hZ1 (by decide))
      clear hZ1 q0 q1 q2 q3
      go_wp2_with fail
      go_meet
      refine ⟨_, _, rfl, ⟨by have := HZ.out; omega, by simpa [World.setCell] using HC1.out.lt⟩, ((HC1.out.set0 _).set1 _).set2 _, (((HO1.out.set HNE.out _).set HNE.out _).set HNE.out _).mono (Nat.le_refl _) (by simp [World.setCell]) (Nat.le_refl _), ((HA1.out.other ?_ _).other ?_ _).other ?_ _, ((HZ1.out.other ?_ _).other ?_ _).other ?_ _, ((HB1.out.setCell ?_ _).setCell ?_ _).setCell ?_ _⟩
      all_goals (have := HZ.out; simp; omega)
  case rest =>
    obtain ⟨p, vo, rfl, hp, hC, hO, hA, hZ, hB⟩ := hcut
    obtain ⟨W1, rfl⟩ : ∃ W, W = wc := ⟨_, rfl⟩
    go_wp2_with fail
    obtain ⟨M, hM⟩ : ∃ M, M = W1.heap.size := ⟨_, rfl⟩
    have hp1 := hp.out.1
    have hp2 := hp.out.2
    have hMl : M ≤ W1.heap.size := by omega
    rw [← hM] at hp2 hO
    have HML := Lib.hid hMl
    clear hM hp hMl
    go_loopw [4] (fun i' wr => ∃ (i : Nat) (us : List Value) (vn : Value) (hi : Nat), i ≤ rows.length ∧ us.length = i ∧ i' = .int .i64 i ∧ Hid (Has id 23 wr M vn us) ∧ Hid (OwnRows wr M hi us (rows.take i)) ∧ Hid (M ≤ hi ∧ hi ≤ wr.heap.size) ∧ Hid (Cells3 wr p 27 (.int .i64 b) vn vo) ∧ Hid (OwnI wr (w.heap.size + 2) M vo out) ∧ Hid (Cells3 wr w.heap.size 27 (.int .i64 b) (.slice an rows.length cn) (.slice ao out.length co)) ∧ Hid (Cells3 wr (w.heap.size + 1) 27 (.int .i64 0) (.slice none 0 0) (.slice none 0 0)) ∧ Hid (Below w.heap.size w wr)) (fun i' _ => rows.length - (intOf i').toNat)
    case atStart => exact ⟨0, [], _, M, Nat.zero_le _, rfl, rfl, World.ownsRow_nil _ _ _ _, OwnRows.nil _ _ _, ⟨Nat.le_refl _, HML.out⟩, hC, hO, hA, hZ, hB⟩
    case round =>
      obtain ⟨i, us, vn, hi', hile, hul, rfl, hown, hrows, hle, hC, hO, hA, hZ, hB⟩ := hrel
      obtain ⟨wo, rfl⟩ : ∃ wo : World, wo = wr := ⟨_, rfl⟩
      by_cases hlt : i < rows.length
      · obtain ⟨r, hr⟩ : ∃ r, rows[i]? = some r := ⟨_, List.getElem?_eq_getElem hlt⟩
        obtain ⟨a0, c0, hv0, _, hcl⟩ := (HN.out.below hB.out).row
        obtain ⟨pa, off, u, rfl, hcell, hlies⟩ := hcl i r hr
        have HL := Lib.hid hlies
        have hpa : pa < w.heap.size := by
          obtain ⟨a0', c0', hv0', _, hcl'⟩ := HN.out.row
          injection hv0' with e1 e2 e3
          obtain ⟨pa', off', u', h1, h2, h3⟩ := hcl' i r hr
          injection hv0 with f1 f2 f3
          rw [← e1, f1] at h1
          injection h1 with h1
          injection h1 with h1 h4
          subst h1
          exact World.block_lt_of_cell? w _ h2
        have HRL := Lib.hid (row_le rows i r hr)
        have HT := Lib.hid (show rows.take (i + 1) = rows.take i ++ [r] from by
          obtain ⟨h1, rfl⟩ := List.getElem?_eq_some_iff.1 hr
          exact List.take_succ_eq_append_getElem h1)
        have HUL := Lib.hid hul
        injection hv0 with e1 e2 e3
        subst e1; subst e3
        have hw2 : w.heap.size + 2 ≤ wo.heap.size := by have := hle.out; omega
        have k0 := hA.out.c0
        have k1 := hA.out.c1
        have k2 := hA.out.c2
        have HCELL := Lib.hid hcell
        clear hlies hr hul hcl hcell
        go_wp2_with fail
        have c1 := hC.out.c1
        have c1' := (hC.out.alloc (Obj.cells #[] 3)).c1
        have hpl := hC.out.lt
        have i0' : (0 : Int) ≤ (i : Int) := Int.natCast_nonneg _
        have i1' : (i : Int) < (rows.length : Int) := by omega
        have HUS := Lib.hid (show (us.length + 1) * 24 ≤ 140737488355328 ∧ us.length + 1 ≤ 9223372036854775807 by have := HUL.out; omega)
        have HRS := Lib.hid (show (0 + r.length) * 8 ≤ 140737488355328 ∧ 0 + r.length ≤ 9223372036854775807 by have := HRL.out; omega)
        have HMO := Lib.hid (show M ≤ wo.heap.size by have := hle.out; omega)
        have d0 := (hA.out.alloc (Obj.cells #[] 3)).c1
        have d1 := (World.cell?_alloc_some wo ⟨pa, off + i, none⟩ (Obj.cells #[] 3) (by rw [HCELL.out]; rfl)).trans HCELL.out
        have d2 := HCELL.out
        go_region_law (first
            | (refine step_append_list (enc := Value.int .i64) (e := 3) rfl (.tmp 21) (.tmp 26) 23 rfl wo.heap.size i1 (.int .i64 0) 8 Try.underlying23 hi1 hz01 hz11 hz21 rfl (Value.slice (some ⟨_, 0, none⟩) 0 0) [] rfl (by repeat (first | with_reducible apply has_drew | ((with_reducible apply has_lit0) <;> simp) | with_reducible apply has_alloc)) u r rfl (by repeat (first | with_reducible exact HL.out | with_reducible apply lies_drew | with_reducible apply lies_alloc)) (fun _ _ => rfl) HRS.out.1 HRS.out.2 (by simp) ?_; intro vr w1 ho hg; rw [List.nil_append] at ho; obtain ⟨ar, cr, rfl, _⟩ := ho.form;
                have hg1 := grown_alloc (grown_drew hg);
                have hbw1 : Below (w.heap.size + 2) wo w1 := (Below.refl _ _).grown hg1 hw2 (fun k hk => by cases hk; omega);
                have hc1 := hC.out.grown hg1 (by simp [Value.ownBlock]; omega);
                have q1 := hc1.c1; have q2 := (hc1.alloc (Obj.cells #[Value.slice ar r.length cr] 23)).c1; have q3 := hg1.size; have hN1 := hown.out.of_same (fun k hk => hg1.block k (hown.out.lt k hk).2 (fun e => by have h1 := (hown.out.lt k hk).2; have e2 : k = wo.heap.size := Option.some.inj e; omega)))
            | (refine step_append_list (enc := id) (e := 23) rfl (.tmp 20) (.tmp 28) 22 rfl M i0 (.slice none 0 0) 24 Try.underlying22 hi hz0 hz1 hz2 rfl vn us rfl (by repeat (first | with_reducible exact hN1 | with_reducible apply has_drew | with_reducible apply has_alloc)) (Value.slice (some ⟨_, 0, none⟩) 1 1) [.slice ar r.length cr] rfl (by repeat (first | with_reducible apply lies_drew | (with_reducible refine lies_lit1v _ rfl) | with_reducible apply lies_alloc)) (fun y hy => by simp at hy; subst hy; rfl) HUS.out.1 HUS.out.2 (by have := HMO.out; simp; omega) ?_; intro vt w2 ho2 hg2; obtain ⟨at2, ct2, rfl, _⟩ := ho2.form; rw [show (us ++ [Value.slice ar r.length cr]).length = us.length + 1 from by simp] at ho2; refine with_fact (T := w1.grownBy w2 vn.ownBlock) ?_ ?_; (focus (first | exact grown_alloc hg2 | exact grown_alloc (grown_drew hg2))); intro hg3; have hbw2 : Below (w.heap.size + 2) wo w2 := hbw1.grown hg3 (by omega) (fun k hk => by have := (hown.out.lt k hk).1; omega); have hc2 := hc1.grown hg3 (has_ne_c3 hN1 hc1 (by decide)); have r1 := hc2.c1; have r3 := hc2.f))
        all_goals
          have HB2 := Lib.hid hbw2
          have HC2 := Lib.hid hc2
          have HT2 := Lib.hid ho2
          have HNT := Lib.hid (has_ne_c3 ho2 hc2 (by decide))
          have HR1 := Lib.hid ((hrows.out.below ((Below.refl _ _).grown hg1 (Nat.le_refl _) (fun k hk => by cases hk; exact Nat.le_refl _))).snoc ((OwnI.of_gives ho).mono hle.out.2 (Nat.le_refl _) (Nat.le_refl _)) hle.out.1 (Nat.le_trans hle.out.2 hg1.size))
          have HR2 := Lib.hid (HR1.out.top_grown hN1 hg3)
          have HRN := Lib.hid (HR2.out.ne_c3 hc2 (by decide))
          have hs1 := hg1.size
          have hs2 := hg3.size
          have HSZ := Lib.hid (show M ≤ w1.heap.size ∧ w1.heap.size ≤ w2.heap.size by have := HMO.out; omega)
          have HO2 := Lib.hid ((hO.out.grown hg1 (fun k hk => by have e2 : wo.heap.size = k := Option.some.inj hk; have := hO.out.le; omega)).grown hg3 (fun k hk => by have := (hown.out.lt k hk).1; omega))
          have HON := Lib.hid (has_ne_c3 HO2.out.has hc2 (by decide))
          clear d0 d1 d2 hg hg1 hbw1 hc1 q1 q2 q3 hN1 hg2 hg3 hbw2 hc2 r1 r3 ho2 ho hs1 hs2 c1 c1' k0 k1 k2
          go_wp2
          go_roundw
          case rel =>
            refine ⟨i + 1, us ++ [Value.slice ar r.length cr], Value.slice at2 (us.length + 1) ct2, w1.heap.size, by omega, by simp [HUL.out], by go_num, HT2.out.set (a := ⟨p, 1, none⟩) HNT.out (.slice at2 (us.length + 1) ct2), ?_, ⟨HSZ.out.1, by simpa [World.setCell] using HSZ.out.2⟩, HC2.out.set1 (.slice at2 (us.length + 1) ct2), HO2.out.set (a := ⟨p, 1, none⟩) HON.out (.slice at2 (us.length + 1) ct2), (c3_of_below HB2.out hA.out (by omega)).other (by show p ≠ _; omega) _, (c3_of_below HB2.out hZ.out (by omega)).other (by show p ≠ _; omega) _, (hB.out.trans (HB2.out.mono (by omega))).setCell (by show _ ≤ p; omega) _⟩
            rw [HT.out]
            exact HR2.out.set (a := ⟨p, 1, none⟩) HRN.out (.slice at2 (us.length + 1) ct2)
          case measure => simp [intOf]; omega
      · obtain rfl : i = rows.length := by omega
        have HE : Hid (OwnR wo M wo.heap.size vn us rows) := by
          have h1 := hown.out
          have h2 := hrows.out
          rw [List.take_length] at h2
          exact ⟨h1, fun k hk => (h1.lt k hk).2, Nat.le_refl _, h2.mono hle.out.2 (Nat.le_refl _)⟩
        have hw2 : M ≤ wo.heap.size := by have := hle.out; omega
        obtain ⟨a1, c1, hv1⟩ : ∃ a1 c1, vn = .slice a1 rows.length c1 := by
          obtain ⟨a1, c1, h1, _⟩ := hown.out.form
          exact ⟨a1, c1, by rw [h1, hul]⟩
        obtain ⟨a2, c2, hv2⟩ := hO.out.form
        subst hv1; subst hv2
        have k0 := hA.out.c0
        have k1 := hA.out.c1
        have k2 := hA.out.c2
        have p0 := hC.out.c0
        have p1 := hC.out.c1
        have p2 := hC.out.c2
        have p3 := hC.out.f
        have z0 := hZ.out.c0
        have z1 := hZ.out.c1
        have z2 := hZ.out.c2
        have z3 := hZ.out.f
        have HUL := Lib.hid hul
        clear hown hrows hle hul
        go_wp2
        have m0 := (((hZ.out.set0 (.int .i64 b)).set1 (.slice a1 rows.length c1)).set2 (.slice a2 out.length c2)).c0
        have m1 := (((hZ.out.set0 (.int .i64 b)).set1 (.slice a1 rows.length c1)).set2 (.slice a2 out.length c2)).c1
        have m2 := (((hZ.out.set0 (.int .i64 b)).set1 (.slice a1 rows.length c1)).set2 (.slice a2 out.length c2)).c2
        refine bodyPost_ret (v := .agg #[.int .i64 b, .slice a1 rows.length c1, .slice a2 out.length c2]) (by simp [results, Try.results58, go_sem, m0, m1, m2]) rfl ⟨_, rfl, ?_, ?_⟩
        · have T0 : Plain.Touch w.heap.size (w.heap.size + 2) wo (((wo.setCell ⟨w.heap.size + 1, 0, none⟩ (.int .i64 b)).setCell ⟨w.heap.size + 1, 1, none⟩ (.slice a1 rows.length c1)).setCell ⟨w.heap.size + 1, 2, none⟩ (.slice a2 out.length c2)) :=
            ((Plain.Touch.of_set _ (by show _ ≤ _ + 1; omega) (by show _ + 1 < _; omega)).trans (Plain.Touch.of_set _ (by show _ ≤ _ + 1; omega) (by show _ + 1 < _; omega))).trans (Plain.Touch.of_set _ (by show _ ≤ _ + 1; omega) (by show _ + 1 < _; omega))
          simp only [size_setCell']
          exact OwnS.make_out (hO.out.touch T0 (.inr (Nat.le_refl _))) (HE.out.touch T0 (.inr (by omega))) (by omega) (by omega) hw2
        · exact ((hB.out.setCell (by show _ ≤ _ + 1; omega) _).setCell (by show _ ≤ _ + 1; omega) _).setCell (by show _ ≤ _ + 1; omega) _
end Seqs
end Go.Proofs.Ythnmighlgifoeaa
