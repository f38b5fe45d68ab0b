/- Several texts of this proof, one behind the other: each says ahead of it what it shows and under which conditions. -/
import Derived.Test.YtdgfecjakmdheaaKM2
import Derived.Deep.DeepCutAuto
import Derived.Deep.RegionHeld3
import Derived.Test.YtdgfecjakmdheaaKM3
/- Contract of the model's copy of a sequence. No conditions beyond those that each states. -/
namespace Go.Proofs.Ytdgfecjakmdheaa
open Go.ChangeShapes Go.WideShapes Go.ChangeAt Go.RowKit
open Go.PlainAid Plain
set_option linter.unusedVariables false
namespace Seqs
open Digits
theorem copy_held {w wo w' : World} {t : TypeId} {x y z : Value} {pa o : Nat} {u : Value} (hA : Cells3 wo w.heap.size t x y z) (hpa : pa < w.heap.size) (hc : wo.cell? ⟨pa, o, none⟩ = some u) (h : Below (w.heap.size + 2) wo w') :
    w'.cell? ⟨w.heap.size, 0, none⟩ = some x ∧ w'.cell? ⟨w.heap.size, 1, none⟩ = some y ∧ w'.cell? ⟨w.heap.size, 2, none⟩ = some z ∧ w'.cell? ⟨pa, o, none⟩ = some u := by
  have hA' := c3_of_below h hA (by omega)
  exact ⟨hA'.c0, hA'.c1, hA'.c2, (h.cell (p := ⟨pa, o, none⟩) (by show pa < _; omega)).trans hc⟩
set_option maxHeartbeats 1000000 in
theorem spec_copied (v : Value) (b : Int) (rows : List (List Int)) (out : List Int) (w : World) (h : LiesS w v b rows out) (hs : rows.length + tot rows + out.length ≤ 1048576) :
    Calls Try.prog 41 #[v] w (GivesS b rows out w) := by
  obtain ⟨i0, hi, hz0, hz1, hz2⟩ := info_parts infoR
  obtain ⟨i1, hi1, hz01, hz11, hz21⟩ := info_parts Ints.infoI
  obtain ⟨an, cn, ao, co, rfl, hN, hO⟩ := liesS_open h
  have HN := Lib.hid hN
  have HO := Lib.hid hO
  clear h hN hO
  have hB : Below w.heap.size w ((w.alloc (Obj.cells #[Value.int .i64 b, Value.slice an rows.length cn, Value.slice ao out.length co] 27)).alloc (Obj.cells #[Value.int .i64 0, Value.slice none 0 0, Value.slice none 0 0] 27)) := ((Below.refl _ _).alloc (Nat.le_refl _) _).alloc (by simp) _
  have hA := Lib.hid ((Cells3.new w 27 (.int .i64 b) (.slice an rows.length cn) (.slice ao out.length co)).alloc (Obj.cells #[Value.int .i64 0, Value.slice none 0 0, Value.slice none 0 0] 27))
  have hZ := Lib.hid (Cells3.new (w.alloc (Obj.cells #[Value.int .i64 b, Value.slice an rows.length cn, Value.slice ao out.length co] 27)) 27 (.int .i64 0) (.slice none 0 0) (.slice none 0 0))
  rw [size_alloc'] at hZ
  have HB := Lib.hid hB
  have hz : ((w.alloc (Obj.cells #[Value.int .i64 b, Value.slice an rows.length cn, Value.slice ao out.length co] 27)).alloc (Obj.cells #[Value.int .i64 0, Value.slice none 0 0, Value.slice none 0 0] 27)).heap.size = w.heap.size + 2 := by simp
  have HZ := Lib.hid hz
  clear hB hz
  go_enter Try.func41, Try.ntmps41
  go_wp2_with fail
  obtain ⟨W0, hW0⟩ : ∃ W, W = (w.alloc (Obj.cells #[Value.int .i64 b, Value.slice an rows.length cn, Value.slice ao out.length co] 27)).alloc (Obj.cells #[Value.int .i64 0, Value.slice none 0 0, Value.slice none 0 0] 27) := ⟨_, rfl⟩
  rw [← hW0] at hA hZ HB HZ ⊢
  clear hW0
  go_cut [3] (fun s wx => ∃ (p : Nat) (vo : Value), s = .pointer (some ⟨p, 0, none⟩) ∧ Hid (w.heap.size + 2 ≤ p ∧ p < wx.heap.size) ∧ Hid (Cells3 wx p 27 (.int .i64 b) (.slice none 0 0) vo) ∧ Hid (OwnI wx (w.heap.size + 2) wx.heap.size vo out) ∧ Hid (Cells3 wx w.heap.size 27 (.int .i64 b) (.slice an rows.length cn) (.slice ao out.length co)) ∧ Hid (Cells3 wx (w.heap.size + 1) 27 (.int .i64 0) (.slice none 0 0) (.slice none 0 0)) ∧ Hid (Below w.heap.size w wx))
  case first =>
    have HOW := Lib.hid (HO.out.below HB.out)
    go_region_held3 (fun w' => w'.cell? ⟨w.heap.size, 0, none⟩ = some (.int .i64 b) ∧ w'.cell? ⟨w.heap.size, 1, none⟩ = some (.slice an rows.length cn) ∧ w'.cell? ⟨w.heap.size, 2, none⟩ = some (.slice ao out.length co))
      ((refine c3_all (t := 27) ?_; repeat (first | with_reducible exact hA.out | with_reducible apply c3_drew | with_reducible apply Cells3.alloc | (refine Cells3.grown ?_ hg (by have := HZ.out; simp [Value.ownBlock]; omega)) | (with_reducible refine Cells3.other ?_ (by have := HZ.out; simp; omega) _))))
      ((refine step_append_list (enc := Value.int .i64) (e := 3) rfl _ _ 25 rfl (w.heap.size + 2) i1 (.int .i64 0) 8 Try.underlying25 hi1 hz01 hz11 hz21 rfl (Value.slice (some ⟨_, 0, none⟩) 0 0) [] rfl (by repeat (first | with_reducible apply has_drew | ((with_reducible apply has_lit0) <;> (have := HZ.out; simp <;> omega)) | with_reducible apply has_alloc)) (Value.slice ao out.length co) out rfl (by repeat (first | with_reducible exact HOW.out | with_reducible apply lies_drew | with_reducible apply lies_alloc)) (fun _ _ => rfl) (by simp only [List.length_nil]; omega) (by simp only [List.length_nil]; omega) (by have := HZ.out; simp; omega) ?_; intro vo w1 ho hg; rw [List.nil_append] at ho; obtain ⟨av, cv, rfl, _⟩ := ho.form; (first | (refine with_fact (T := Cells3 w1 (W0.heap.size) 27 (.int .i64 0) (.slice none 0 0) (.slice none 0 0)) ?_ ?_; (refine Cells3.grown ?_ hg ?_; (focus ((repeat (first | with_reducible apply c3_drew | (with_reducible refine c3_new' ?_; simp; done) | with_reducible apply Cells3.alloc)); done)); (focus (simp [Value.ownBlock]; done))); intro hZ1; have q0 := hZ1.c0; have q1 := hZ1.c1; have q2 := hZ1.c2; have q3 := hZ1.f) | (refine with_fact (T := Cells3 w1 (W0.heap.size + 1) 27 (.int .i64 0) (.slice none 0 0) (.slice none 0 0)) ?_ ?_; (refine Cells3.grown ?_ hg ?_; (focus ((repeat (first | with_reducible apply c3_drew | (with_reducible refine c3_new' ?_; simp; done) | with_reducible apply Cells3.alloc)); done)); (focus (simp [Value.ownBlock]; done))); intro hZ1; have q0 := hZ1.c0; have q1 := hZ1.c1; have q2 := hZ1.c2; have q3 := hZ1.f) | skip)))
    all_goals
      have hgW : W0.grownBy w1 (some W0.heap.size) ∨ W0.grownBy w1 (some (W0.heap.size + 1)) := by
        first
        | exact Or.inl (grown_alloc (grown_drew hg))
        | exact Or.inl (grown_alloc (grown_alloc (grown_drew hg)))
        | exact Or.inr (grown_alloc (grown_alloc (grown_drew hg)))
      have hA1 : Cells3 w1 w.heap.size 27 (.int .i64 b) (.slice an rows.length cn) (.slice ao out.length co) := by
        rcases hgW with h | h
        · exact hA.out.grown h (by have := HZ.out; simp; omega)
        · exact hA.out.grown h (by have := HZ.out; simp; omega)
      have hZ1' : Cells3 w1 (w.heap.size + 1) 27 (.int .i64 0) (.slice none 0 0) (.slice none 0 0) := by
        rcases hgW with h | h
        · exact hZ.out.grown h (by have := HZ.out; simp; omega)
        · exact hZ.out.grown h (by have := HZ.out; simp; omega)
      have hB1 : Below w.heap.size w w1 := by
        rcases hgW with h | h
        · exact HB.out.grown h HB.out.size (fun k hk => by cases hk; exact HB.out.size)
        · exact HB.out.grown h HB.out.size (fun k hk => by cases hk; have := HB.out.size; omega)
      have hs1 : w.heap.size + 2 ≤ w1.heap.size := by
        have := HZ.out
        rcases hgW with h | h
        · have := h.size; omega
        · have := h.size; omega
      have hO1 : OwnI w1 (w.heap.size + 2) w1.heap.size (.slice av out.length cv) out := ⟨ho, fun k hk => (ho.lt k hk).2, Nat.le_refl _⟩
      have HA1 := Lib.hid hA1
      have HZ1 := Lib.hid hZ1'
      have HB1 := Lib.hid hB1
      have HS1 := Lib.hid hs1
      have HO1 := Lib.hid hO1
      clear hA1 hZ1' hB1 hs1 hO1 hgW hg ho
    · go_wp2_with fail
      go_meet
      refine ⟨_, _, rfl, ⟨HS1.out, ?_⟩, c3_new' rfl, (HO1.out.below ((Below.refl _ _).alloc (Nat.le_refl _) _)).mono (Nat.le_refl _) (by simp) (Nat.le_refl _), HA1.out.alloc _, HZ1.out.alloc _, HB1.out.alloc HB1.out.size _⟩
      simp
    all_goals
      have HC1 := Lib.hid hZ1
      have HNE := Lib.hid (has_ne_c3 HO1.out.has hZ1 (by decide))
      clear hZ1 q0 q1 q2 q3
      go_wp2_with fail
      go_meet
      refine ⟨_, _, rfl, ⟨by have := HZ.out; omega, by simpa [World.setCell] using HC1.out.lt⟩, ((HC1.out.set0 _).set1 _).set2 _, (((HO1.out.set HNE.out _).set HNE.out _).set HNE.out _).mono (Nat.le_refl _) (by simp [World.setCell]) (Nat.le_refl _), ((HA1.out.other ?_ _).other ?_ _).other ?_ _, ((HZ1.out.other ?_ _).other ?_ _).other ?_ _, ((HB1.out.setCell ?_ _).setCell ?_ _).setCell ?_ _⟩
      all_goals (have := HZ.out; simp; omega)
  case rest =>
    obtain ⟨p, vo, rfl, hp, hC, hO, hA, hZ, hB⟩ := hcut
    obtain ⟨W1, rfl⟩ : ∃ W, W = wc := ⟨_, rfl⟩
    go_wp2_with fail
    obtain ⟨M, hM⟩ : ∃ M, M = W1.heap.size := ⟨_, rfl⟩
    have hp1 := hp.out.1
    have hp2 := hp.out.2
    have hMl : M ≤ W1.heap.size := by omega
    rw [← hM] at hp2 hO
    have HML := Lib.hid hMl
    clear hM hp hMl
    go_loopw [4] (fun i' wr => ∃ (i : Nat) (us : List Value) (vn : Value) (hi : Nat), i ≤ rows.length ∧ us.length = i ∧ i' = .int .i64 i ∧ Hid (Has id 25 wr M vn us) ∧ Hid (OwnRows wr M hi us (rows.take i)) ∧ Hid (M ≤ hi ∧ hi ≤ wr.heap.size) ∧ Hid (Cells3 wr p 27 (.int .i64 b) vn vo) ∧ Hid (OwnI wr (w.heap.size + 2) M vo out) ∧ Hid (Cells3 wr w.heap.size 27 (.int .i64 b) (.slice an rows.length cn) (.slice ao out.length co)) ∧ Hid (Cells3 wr (w.heap.size + 1) 27 (.int .i64 0) (.slice none 0 0) (.slice none 0 0)) ∧ Hid (Below w.heap.size w wr)) (fun i' _ => rows.length - (intOf i').toNat)
    case atStart => exact ⟨0, [], _, M, Nat.zero_le _, rfl, rfl, World.ownsRow_nil _ _ _ _, OwnRows.nil _ _ _, ⟨Nat.le_refl _, HML.out⟩, hC, hO, hA, hZ, hB⟩
    case round =>
      obtain ⟨i, us, vn, hi', hile, hul, rfl, hown, hrows, hle, hC, hO, hA, hZ, hB⟩ := hrel
      obtain ⟨wo, rfl⟩ : ∃ wo : World, wo = wr := ⟨_, rfl⟩
      by_cases hlt : i < rows.length
      · obtain ⟨r, hr⟩ : ∃ r, rows[i]? = some r := ⟨_, List.getElem?_eq_getElem hlt⟩
        obtain ⟨a0, c0, hv0, _, hcl⟩ := (HN.out.below hB.out).row
        obtain ⟨pa, off, u, rfl, hcell, hlies⟩ := hcl i r hr
        have HL := Lib.hid hlies
        have hpa : pa < w.heap.size := by
          obtain ⟨a0', c0', hv0', _, hcl'⟩ := HN.out.row
          injection hv0' with e1 e2 e3
          obtain ⟨pa', off', u', h1, h2, h3⟩ := hcl' i r hr
          injection hv0 with f1 f2 f3
          rw [← e1, f1] at h1
          injection h1 with h1
          injection h1 with h1 h4
          subst h1
          exact World.block_lt_of_cell? w _ h2
        have HRL := Lib.hid (row_le rows i r hr)
        have HT := Lib.hid (show rows.take (i + 1) = rows.take i ++ [r] from by
          obtain ⟨h1, rfl⟩ := List.getElem?_eq_some_iff.1 hr
          exact List.take_succ_eq_append_getElem h1)
        have HUL := Lib.hid hul
        injection hv0 with e1 e2 e3
        subst e1; subst e3
        have hw2 : w.heap.size + 2 ≤ wo.heap.size := by have := hle.out; omega
        have k0 := hA.out.c0
        have k1 := hA.out.c1
        have k2 := hA.out.c2
        have HCELL := Lib.hid hcell
        clear hlies hr hul hcl hcell
        go_wp2_with fail
        have c1 := hC.out.c1
        have c1' := (hC.out.alloc (Obj.cells #[] 3)).c1
        have hpl := hC.out.lt
        have i0' : (0 : Int) ≤ (i : Int) := Int.natCast_nonneg _
        have i1' : (i : Int) < (rows.length : Int) := by omega
        have HUS := Lib.hid (show (us.length + 1) * 24 ≤ 140737488355328 ∧ us.length + 1 ≤ 9223372036854775807 by have := HUL.out; omega)
        have HRS := Lib.hid (show (0 + r.length) * 8 ≤ 140737488355328 ∧ 0 + r.length ≤ 9223372036854775807 by have := HRL.out; omega)
        have HMO := Lib.hid (show M ≤ wo.heap.size by have := hle.out; omega)
        have d0 := (hA.out.alloc (Obj.cells #[] 3)).c1
        have d1 := (World.cell?_alloc_some wo ⟨pa, off + i, none⟩ (Obj.cells #[] 3) (by rw [HCELL.out]; rfl)).trans HCELL.out
        have d2 := HCELL.out
        go_region_law (first
            | (refine step_append_list (enc := Value.int .i64) (e := 3) rfl (.tmp 21) (.tmp 26) 25 rfl wo.heap.size i1 (.int .i64 0) 8 Try.underlying25 hi1 hz01 hz11 hz21 rfl (Value.slice (some ⟨_, 0, none⟩) 0 0) [] rfl (by repeat (first | with_reducible apply has_drew | ((with_reducible apply has_lit0) <;> simp) | with_reducible apply has_alloc)) u r rfl (by repeat (first | with_reducible exact HL.out | with_reducible apply lies_drew | with_reducible apply lies_alloc)) (fun _ _ => rfl) HRS.out.1 HRS.out.2 (by simp) ?_; intro vr w1 ho hg; rw [List.nil_append] at ho; obtain ⟨ar, cr, rfl, _⟩ := ho.form;
                have hg1 := grown_alloc (grown_drew hg);
                have hbw1 : Below (w.heap.size + 2) wo w1 := (Below.refl _ _).grown hg1 hw2 (fun k hk => by cases hk; omega);
                have hc1 := hC.out.grown hg1 (by simp [Value.ownBlock]; omega);
                have q1 := hc1.c1; have q2 := (hc1.alloc (Obj.cells #[Value.slice ar r.length cr] 25)).c1; have q3 := hg1.size; have hN1 := hown.out.of_same (fun k hk => hg1.block k (hown.out.lt k hk).2 (fun e => by have h1 := (hown.out.lt k hk).2; have e2 : k = wo.heap.size := Option.some.inj e; omega)))
            | (refine step_append_list (enc := id) (e := 25) rfl (.tmp 20) (.tmp 28) 24 rfl M i0 (.slice none 0 0) 24 Try.underlying24 hi hz0 hz1 hz2 rfl vn us rfl (by repeat (first | with_reducible exact hN1 | with_reducible apply has_drew | with_reducible apply has_alloc)) (Value.slice (some ⟨_, 0, none⟩) 1 1) [.slice ar r.length cr] rfl (by repeat (first | with_reducible apply lies_drew | (with_reducible refine lies_lit1v _ rfl) | with_reducible apply lies_alloc)) (fun y hy => by simp at hy; subst hy; rfl) HUS.out.1 HUS.out.2 (by have := HMO.out; simp; omega) ?_; intro vt w2 ho2 hg2; obtain ⟨at2, ct2, rfl, _⟩ := ho2.form; rw [show (us ++ [Value.slice ar r.length cr]).length = us.length + 1 from by simp] at ho2; refine with_fact (T := w1.grownBy w2 vn.ownBlock) ?_ ?_; (focus (first | exact grown_alloc hg2 | exact grown_alloc (grown_drew hg2))); intro hg3; have hbw2 : Below (w.heap.size + 2) wo w2 := hbw1.grown hg3 (by omega) (fun k hk => by have := (hown.out.lt k hk).1; omega); have hc2 := hc1.grown hg3 (has_ne_c3 hN1 hc1 (by decide)); have r1 := hc2.c1; have r3 := hc2.f))
        all_goals
          have HB2 := Lib.hid hbw2
          have HC2 := Lib.hid hc2
          have HT2 := Lib.hid ho2
          have HNT := Lib.hid (has_ne_c3 ho2 hc2 (by decide))
          have HR1 := Lib.hid ((hrows.out.below ((Below.refl _ _).grown hg1 (Nat.le_refl _) (fun k hk => by cases hk; exact Nat.le_refl _))).snoc ((OwnI.of_gives ho).mono hle.out.2 (Nat.le_refl _) (Nat.le_refl _)) hle.out.1 (Nat.le_trans hle.out.2 hg1.size))
          have HR2 := Lib.hid (HR1.out.top_grown hN1 hg3)
          have HRN := Lib.hid (HR2.out.ne_c3 hc2 (by decide))
          have hs1 := hg1.size
          have hs2 := hg3.size
          have HSZ := Lib.hid (show M ≤ w1.heap.size ∧ w1.heap.size ≤ w2.heap.size by have := HMO.out; omega)
          have HO2 := Lib.hid ((hO.out.grown hg1 (fun k hk => by have e2 : wo.heap.size = k := Option.some.inj hk; have := hO.out.le; omega)).grown hg3 (fun k hk => by have := (hown.out.lt k hk).1; omega))
          have HON := Lib.hid (has_ne_c3 HO2.out.has hc2 (by decide))
          clear d0 d1 d2 hg hg1 hbw1 hc1 q1 q2 q3 hN1 hg2 hg3 hbw2 hc2 r1 r3 ho2 ho hs1 hs2 c1 c1' k0 k1 k2
          go_wp2
          go_roundw
          case rel =>
            refine ⟨i + 1, us ++ [Value.slice ar r.length cr], Value.slice at2 (us.length + 1) ct2, w1.heap.size, by omega, by simp [HUL.out], by go_num, HT2.out.set (a := ⟨p, 1, none⟩) HNT.out (.slice at2 (us.length + 1) ct2), ?_, ⟨HSZ.out.1, by simpa [World.setCell] using HSZ.out.2⟩, HC2.out.set1 (.slice at2 (us.length + 1) ct2), HO2.out.set (a := ⟨p, 1, none⟩) HON.out (.slice at2 (us.length + 1) ct2), (c3_of_below HB2.out hA.out (by omega)).other (by show p ≠ _; omega) _, (c3_of_below HB2.out hZ.out (by omega)).other (by show p ≠ _; omega) _, (hB.out.trans (HB2.out.mono (by omega))).setCell (by show _ ≤ p; omega) _⟩
            rw [HT.out]
            exact HR2.out.set (a := ⟨p, 1, none⟩) HRN.out (.slice at2 (us.length + 1) ct2)
          case measure => simp [intOf]; omega
      · obtain rfl : i = rows.length := by omega
        have HE : Hid (OwnR wo M wo.heap.size vn us rows) := by
          have h1 := hown.out
          have h2 := hrows.out
          rw [List.take_length] at h2
          exact ⟨h1, fun k hk => (h1.lt k hk).2, Nat.le_refl _, h2.mono hle.out.2 (Nat.le_refl _)⟩
        have hw2 : M ≤ wo.heap.size := by have := hle.out; omega
        obtain ⟨a1, c1, hv1⟩ : ∃ a1 c1, vn = .slice a1 rows.length c1 := by
          obtain ⟨a1, c1, h1, _⟩ := hown.out.form
          exact ⟨a1, c1, by rw [h1, hul]⟩
        obtain ⟨a2, c2, hv2⟩ := hO.out.form
        subst hv1; subst hv2
        have k0 := hA.out.c0
        have k1 := hA.out.c1
        have k2 := hA.out.c2
        have p0 := hC.out.c0
        have p1 := hC.out.c1
        have p2 := hC.out.c2
        have p3 := hC.out.f
        have z0 := hZ.out.c0
        have z1 := hZ.out.c1
        have z2 := hZ.out.c2
        have z3 := hZ.out.f
        have HUL := Lib.hid hul
        clear hown hrows hle hul
        go_wp2
        have m0 := (((hZ.out.set0 (.int .i64 b)).set1 (.slice a1 rows.length c1)).set2 (.slice a2 out.length c2)).c0
        have m1 := (((hZ.out.set0 (.int .i64 b)).set1 (.slice a1 rows.length c1)).set2 (.slice a2 out.length c2)).c1
        have m2 := (((hZ.out.set0 (.int .i64 b)).set1 (.slice a1 rows.length c1)).set2 (.slice a2 out.length c2)).c2
        refine bodyPost_ret (v := .agg #[.int .i64 b, .slice a1 rows.length c1, .slice a2 out.length c2]) (by simp [results, Try.results41, go_sem, m0, m1, m2]) rfl ⟨_, rfl, ?_, ?_⟩
        · have T0 : Plain.Touch w.heap.size (w.heap.size + 2) wo (((wo.setCell ⟨w.heap.size + 1, 0, none⟩ (.int .i64 b)).setCell ⟨w.heap.size + 1, 1, none⟩ (.slice a1 rows.length c1)).setCell ⟨w.heap.size + 1, 2, none⟩ (.slice a2 out.length c2)) :=
            ((Plain.Touch.of_set _ (by show _ ≤ _ + 1; omega) (by show _ + 1 < _; omega)).trans (Plain.Touch.of_set _ (by show _ ≤ _ + 1; omega) (by show _ + 1 < _; omega))).trans (Plain.Touch.of_set _ (by show _ ≤ _ + 1; omega) (by show _ + 1 < _; omega))
          simp only [size_setCell']
          exact OwnS.make_out (hO.out.touch T0 (.inr (Nat.le_refl _))) (HE.out.touch T0 (.inr (by omega))) (by omega) (by omega) hw2
        · exact ((hB.out.setCell (by show _ ≤ _ + 1; omega) _).setCell (by show _ ≤ _ + 1; omega) _).setCell (by show _ ≤ _ + 1; omega) _
end Seqs
end Go.Proofs.Ytdgfecjakmdheaa
/- Contract of raised: a new row whose states are one higher. No conditions beyond those that it states. -/
namespace Go.Proofs.Ytdgfecjakmdheaa
open Go.ChangeShapes Go.WideShapes Go.ChangeAt Go.RowKit
open Go.PlainAid Plain
set_option linter.unusedVariables false
namespace Seqs
theorem raise_len (r : List Int) : (raise r).length = r.length := by simp [raise]
theorem raise_set (xs : List Int) (i : Nat) (h : i < xs.length) : (((raise xs).take i ++ List.replicate (xs.length - i) (0 : Int)).map (Value.int .i64)).set i (.int .i64 (xs[i] + 1)) = ((raise xs).take (i + 1) ++ List.replicate (xs.length - (i + 1)) (0 : Int)).map (Value.int .i64) := by
  have h1 := Ints.take_set (raise xs) i (by rw [raise_len]; exact h)
  have e : (raise xs)[i]'(by rw [raise_len]; exact h) = xs[i] + 1 := by simp [raise]
  rw [e] at h1
  simpa only [raise_len] using h1
theorem raised_any (v : Value) (xs : List Int) (w : World) (h : Lies (Value.int .i64) w v xs) (hs : xs.length ≤ 1048576) (hb : ∀ x ∈ xs, 0 ≤ x ∧ x < 1000) :
    Calls Try.prog 58 #[v] w (Gives (Value.int .i64) 3 (raise xs) w) := by
  obtain ⟨i0, hi, hz0, hz1, hz2⟩ := info_parts Ints.infoI
  obtain ⟨hl, a, ca, rfl, _, hc⟩ := h
  have HC := Lib.hid hc
  have HBD := Lib.hid hb
  clear hc hb
  go_enter Try.func58, Try.ntmps58
  go_wp2_with (at_make; refine wpList_make_full w rfl _ _ 25 rfl w.heap.size 3 i0 (.int .i64 0) 1 Try.underlying25 hi hz0 hz1 .i64 .i64 _ _ xs.length rfl rfl rfl rfl (by rw [hz2]; omega) (by unfold maxLen; omega) (Nat.le_refl _) ?_; intro w1 hown hgrow)
  have hown0 : Hid (w1.ownsRow w.heap.size 3 1 (.slice (some ⟨w.heap.size, 0, none⟩) xs.length xs.length) xs.length (((raise xs).take 0 ++ List.replicate (xs.length - 0) (0 : Int)).map (Value.int .i64))) := by
    show w1.ownsRow _ _ _ _ _ _
    rw [Ints.zero_made] at hown
    simpa using hown
  have hbel0 := Lib.hid (below_of_grown hgrow)
  clear hown hgrow
  go_loopw [11] (fun i' wr => ∃ i : Nat, i ≤ xs.length ∧ i' = .int .i64 i ∧ Hid (wr.ownsRow w.heap.size 3 1 (.slice (some ⟨w.heap.size, 0, none⟩) xs.length xs.length) xs.length (((raise xs).take i ++ List.replicate (xs.length - i) (0 : Int)).map (Value.int .i64))) ∧ Hid (Below w.heap.size w wr)) (fun i' _ => xs.length - (intOf i').toNat)
  case atStart => exact ⟨0, Nat.zero_le _, rfl, hown0, hbel0⟩
  case round =>
    obtain ⟨i, hi, rfl, hown, hbel⟩ := hrel
    by_cases hlt : i < xs.length
    · obtain ⟨b, o, rfl, hc1⟩ := HC.out i _ (List.getElem?_eq_getElem hlt)
      have hx := HBD.out xs[i] (List.getElem_mem _)
      have hx0 := hx.1
      have hx1 := hx.2
      have hc2 : wr.cell? ⟨b, o + i, none⟩ = some (.int .i64 xs[i]) := (hbel.out.cell (p := ⟨b, o + i, none⟩) (World.block_lt_of_cell? w _ hc1)).trans hc1
      have hne : b ≠ w.heap.size := by have := World.block_lt_of_cell? w _ hc1; simp at this; omega
      have hc : wr.cell? ⟨w.heap.size, i, none⟩ = some (.int .i64 0) := by
        rw [hown.out.cellAt i (by omega)]
        rw [List.getElem?_map, List.getElem?_append_right (by rw [List.length_take, raise_len]; omega), List.length_take, List.getElem?_replicate, if_pos (by rw [raise_len]; omega)]
        rfl
      have hfr := hown.out.frozenAt i
      have hst := hown.out.stored i (.int .i64 (xs[i] + 1))
      rw [raise_set xs i hlt] at hst
      have HS := Lib.hid hst
      clear hst hown hc1 hx
      go_wp2
      go_roundw
      case rel => exact ⟨i + 1, by omega, by go_num, HS.out.1, hbel.out.setCell (Nat.le_refl _) _⟩
      case measure => simp [intOf]; omega
    · obtain rfl : i = xs.length := by omega
      have H2 : Hid (Has (Value.int .i64) 3 wr w.heap.size (.slice (some ⟨w.heap.size, 0, none⟩) xs.length xs.length) (raise xs)) := by
        show wr.ownsRow _ _ _ _ _ _
        have := hown.out
        rw [raise_len]
        rw [Nat.sub_self, List.replicate_zero, List.append_nil, List.take_of_length_le (by rw [raise_len]; exact Nat.le_refl _)] at this
        exact this
      clear hown hlt hi
      go_wp2
      go_ret
      exact ⟨_, rfl, H2.out, hbel.out⟩
end Seqs
end Go.Proofs.Ytdgfecjakmdheaa
/- Contract of the program's SteadyForm. No conditions beyond those that each states. -/
namespace Go.Proofs.Ytdgfecjakmdheaa
open Go.ChangeShapes Go.WideShapes Go.ChangeAt Go.RowKit
open Go.PlainAid Plain
set_option linter.unusedVariables false
namespace Seqs
open Digits

theorem impl_form_no (v : Value) (b : Int) (rows : List (List Int)) (out : List Int) (w : World) (h : LiesS w v b rows out) (hno : formK b rows out = false) :
    Calls Try.prog 38 #[v] w (GivesK 0 [] [] false w) := by
  have HS := Lib.hid h
  obtain ⟨an, cn, ao, co, rfl⟩ := h.form
  clear h
  have hst : steadyB b rows out = false := by simp [formK] at hno; exact hno.1
  have HST := Lib.hid hst
  have hB : Below w.heap.size w ((w.alloc (Obj.cells #[Value.int .i64 b, Value.slice an rows.length cn, Value.slice ao out.length co] 27)).alloc (Obj.cells #[Value.int .i64 0, Value.slice none 0 0, Value.slice none 0 0] 27)) := ((Below.refl _ _).alloc (Nat.le_refl _) _).alloc (by simp) _
  have hA := Lib.hid ((Cells3.new w 27 (.int .i64 b) (.slice an rows.length cn) (.slice ao out.length co)).alloc (Obj.cells #[Value.int .i64 0, Value.slice none 0 0, Value.slice none 0 0] 27))
  have hZ := Lib.hid (Cells3.new (w.alloc (Obj.cells #[Value.int .i64 b, Value.slice an rows.length cn, Value.slice ao out.length co] 27)) 27 (.int .i64 0) (.slice none 0 0) (.slice none 0 0))
  rw [size_alloc'] at hZ
  have HB := Lib.hid hB
  have hz : ((w.alloc (Obj.cells #[Value.int .i64 b, Value.slice an rows.length cn, Value.slice ao out.length co] 27)).alloc (Obj.cells #[Value.int .i64 0, Value.slice none 0 0, Value.slice none 0 0] 27)).heap.size = w.heap.size + 2 := by simp
  have HZ := Lib.hid hz
  clear hB hz
  have hwf : (rows.length : Int) = 16 ∨ ¬ (rows.length : Int) = 16 := by omega
  cases hq : seqB b rows out with
  | false =>
    have HQ := Lib.hid hq
    clear hq hno hst hwf
    go_enter Try.func38, Try.ntmps38
    go_wp2_with fail
    refine (impl_steady _ b rows out _ (HS.out.below HB.out)).mono ?_
    rintro e W1 ⟨rfl, b1⟩
    rw [HST.out]
    have HB1 := Lib.hid (HB.out.trans (b1.mono HB.out.size))
    have hA1 := Lib.hid (hA.out.below b1)
    have hZ1 := Lib.hid (hZ.out.below b1)
    clear b1 HB hA hZ HZ
    have k0 := hA1.out.c0
    have k1 := hA1.out.c1
    have k2 := hA1.out.c2
    go_wp2_with fail
    refine (impl_is _ b rows out _ (HS.out.below HB1.out)).mono ?_
    rintro e W2 ⟨rfl, b1⟩
    rw [HQ.out]
    have HB2 := Lib.hid (HB1.out.trans (b1.mono HB1.out.size))
    have hZ2 := Lib.hid (hZ1.out.below b1)
    clear b1 HB1 hA1 hZ1 k0 k1 k2
    have z0 := hZ2.out.c0
    have z1 := hZ2.out.c1
    have z2 := hZ2.out.c2
    have z3 := hZ2.out.f
    go_wp2
    have m0 := (((hZ2.out.set0 (.int .i64 0)).set1 (.slice none 0 0)).set2 (.slice none 0 0)).c0
    have m1 := (((hZ2.out.set0 (.int .i64 0)).set1 (.slice none 0 0)).set2 (.slice none 0 0)).c1
    have m2 := (((hZ2.out.set0 (.int .i64 0)).set1 (.slice none 0 0)).set2 (.slice none 0 0)).c2
    refine bodyPost_ret (v := .tuple #[.agg #[.int .i64 0, .slice none 0 0, .slice none 0 0], .bool false]) (by simp [results, Try.results38, go_sem, m0, m1, m2]) rfl ⟨_, rfl, OwnS.zero _, ?_⟩
    exact ((HB2.out.setCell (by show _ ≤ _ + 1; omega) _).setCell (by show _ ≤ _ + 1; omega) _).setCell (by show _ ≤ _ + 1; omega) _
  | true =>
    have hl : rows.length = 16 := by
      have h1 := seqB_out hq
      simp [formK, hq] at hno
      have := h1.2.2.2.1
      omega
    have HQ := Lib.hid hq
    have hd := decide_eq_true (show (rows.length : Int) = 16 by omega)
    have hd2 : ((rows.length : Int) == 16) = true := by simp [hl]
    clear hq hno hst hwf hl
    go_enter Try.func38, Try.ntmps38
    go_wp2_with fail
    refine (impl_steady _ b rows out _ (HS.out.below HB.out)).mono ?_
    rintro e W1 ⟨rfl, b1⟩
    rw [HST.out]
    have HB1 := Lib.hid (HB.out.trans (b1.mono HB.out.size))
    have hA1 := Lib.hid (hA.out.below b1)
    have hZ1 := Lib.hid (hZ.out.below b1)
    clear b1 HB hA hZ HZ
    have k0 := hA1.out.c0
    have k1 := hA1.out.c1
    have k2 := hA1.out.c2
    go_wp2_with fail
    refine (impl_is _ b rows out _ (HS.out.below HB1.out)).mono ?_
    rintro e W2 ⟨rfl, b1⟩
    rw [HQ.out]
    have HB2 := Lib.hid (HB1.out.trans (b1.mono HB1.out.size))
    have hZ2 := Lib.hid (hZ1.out.below b1)
    have hA2 := Lib.hid (hA1.out.below b1)
    clear b1 HB1 hA1 hZ1 k0 k1 k2
    have k0 := hA2.out.c0
    have k1 := hA2.out.c1
    have k2 := hA2.out.c2
    have z0 := hZ2.out.c0
    have z1 := hZ2.out.c1
    have z2 := hZ2.out.c2
    have z3 := hZ2.out.f
    go_wp2
    have m0 := (((hZ2.out.set0 (.int .i64 0)).set1 (.slice none 0 0)).set2 (.slice none 0 0)).c0
    have m1 := (((hZ2.out.set0 (.int .i64 0)).set1 (.slice none 0 0)).set2 (.slice none 0 0)).c1
    have m2 := (((hZ2.out.set0 (.int .i64 0)).set1 (.slice none 0 0)).set2 (.slice none 0 0)).c2
    refine bodyPost_ret (v := .tuple #[.agg #[.int .i64 0, .slice none 0 0, .slice none 0 0], .bool false]) (by simp [results, Try.results38, go_sem, m0, m1, m2]) rfl ⟨_, rfl, OwnS.zero _, ?_⟩
    exact ((HB2.out.setCell (by show _ ≤ _ + 1; omega) _).setCell (by show _ ≤ _ + 1; omega) _).setCell (by show _ ≤ _ + 1; omega) _
theorem impl_form_same (v : Value) (b : Int) (rows : List (List Int)) (out : List Int) (w : World) (h : LiesS w v b rows out) (hst : steadyB b rows out = true) (hs : rows.length + tot rows + out.length ≤ 1048576) :
    Calls Try.prog 38 #[v] w (GivesK b rows out true w) := by
  have HS := Lib.hid h
  obtain ⟨an, cn, ao, co, rfl⟩ := h.form
  clear h
  have HST := Lib.hid hst
  clear hst
  have hB : Below w.heap.size w ((w.alloc (Obj.cells #[Value.int .i64 b, Value.slice an rows.length cn, Value.slice ao out.length co] 27)).alloc (Obj.cells #[Value.int .i64 0, Value.slice none 0 0, Value.slice none 0 0] 27)) := ((Below.refl _ _).alloc (Nat.le_refl _) _).alloc (by simp) _
  have hA := Lib.hid ((Cells3.new w 27 (.int .i64 b) (.slice an rows.length cn) (.slice ao out.length co)).alloc (Obj.cells #[Value.int .i64 0, Value.slice none 0 0, Value.slice none 0 0] 27))
  have hZ := Lib.hid (Cells3.new (w.alloc (Obj.cells #[Value.int .i64 b, Value.slice an rows.length cn, Value.slice ao out.length co] 27)) 27 (.int .i64 0) (.slice none 0 0) (.slice none 0 0))
  rw [size_alloc'] at hZ
  have HB := Lib.hid hB
  have hz : ((w.alloc (Obj.cells #[Value.int .i64 b, Value.slice an rows.length cn, Value.slice ao out.length co] 27)).alloc (Obj.cells #[Value.int .i64 0, Value.slice none 0 0, Value.slice none 0 0] 27)).heap.size = w.heap.size + 2 := by simp
  have HZ := Lib.hid hz
  clear hB hz
  go_enter Try.func38, Try.ntmps38
  go_wp2_with fail
  refine (impl_steady _ b rows out _ (HS.out.below HB.out)).mono ?_
  rintro e W1 ⟨rfl, b1⟩
  rw [HST.out]
  have HB1 := Lib.hid (HB.out.trans (b1.mono HB.out.size))
  have hA1 := Lib.hid (hA.out.below b1)
  have hZ1 := Lib.hid (hZ.out.below b1)
  have HZ1 := Lib.hid (show w.heap.size + 2 ≤ W1.heap.size by have := b1.size; rw [HZ.out] at this; exact this)
  clear b1 HB hA hZ HZ
  have k0 := hA1.out.c0
  have k1 := hA1.out.c1
  have k2 := hA1.out.c2
  go_wp2_with fail
  refine (impl_copied _ b rows out _ (HS.out.below HB1.out) hs).mono ?_
  rintro e W2 ⟨v2, rfl, ho, b1⟩
  obtain ⟨a1, c1, a2, c2, rfl⟩ := ho.form
  have HB2 := Lib.hid (HB1.out.trans (b1.mono HB1.out.size))
  have hZ2 := Lib.hid (hZ1.out.below b1)
  have HO := Lib.hid ho
  clear b1 HB1 hA1 hZ1 k0 k1 k2 ho
  have z0 := hZ2.out.c0
  have z1 := hZ2.out.c1
  have z2 := hZ2.out.c2
  have z3 := hZ2.out.f
  go_wp2
  have hZ3 := (((hZ2.out.set0 (.int .i64 b)).set1 (.slice a1 rows.length c1)).set2 (.slice a2 out.length c2))
  have m0 := hZ3.c0
  have m1 := hZ3.c1
  have m2 := hZ3.c2
  refine bodyPost_ret (v := .tuple #[.agg #[.int .i64 b, .slice a1 rows.length c1, .slice a2 out.length c2], .bool true]) (by simp [results, Try.results38, go_sem, m0, m1, m2]) rfl ⟨_, rfl, ?_, ?_⟩
  · have T0 : Plain.Touch w.heap.size (w.heap.size + 2) W2 (((W2.setCell ⟨w.heap.size + 1, 0, none⟩ (.int .i64 b)).setCell ⟨w.heap.size + 1, 1, none⟩ (.slice a1 rows.length c1)).setCell ⟨w.heap.size + 1, 2, none⟩ (.slice a2 out.length c2)) :=
      ((Plain.Touch.of_set _ (by show _ ≤ _ + 1; omega) (by show _ + 1 < _; omega)).trans (Plain.Touch.of_set _ (by show _ ≤ _ + 1; omega) (by show _ + 1 < _; omega))).trans (Plain.Touch.of_set _ (by show _ ≤ _ + 1; omega) (by show _ + 1 < _; omega))
    have g1 := HZ1.out
    have := (HO.out.touch T0 (.inr g1)).lower (show w.heap.size ≤ W1.heap.size by omega)
    simpa only [size_setCell'] using this
  · exact ((HB2.out.setCell (by show _ ≤ _ + 1; omega) _).setCell (by show _ ≤ _ + 1; omega) _).setCell (by show _ ≤ _ + 1; omega) _

theorem set_first (xs : List Int) (h : 0 < xs.length) : (raise xs).set 0 0 = 0 :: raise (xs.drop 1) := by
  cases xs with
  | nil => simp at h
  | cons x l => simp [raise]
theorem form_meet {wx w W4 : World} {b o0 : Int} {row : List Int} {v1 vn vo A1 A2 s : Value} {p : Nat} (HF : OwnI W4 (w.heap.size + 2) W4.heap.size v1 row) (HB : Below w.heap.size w W4) (HA : Cells3 W4 w.heap.size 27 (.int .i64 b) A1 A2) (HZ : Cells3 W4 (w.heap.size + 1) 27 (.int .i64 0) (.slice none 0 0) (.slice none 0 0)) (hs : w.heap.size + 2 ≤ W4.heap.size)
    (hbel : Below W4.heap.size W4 wx) (hp : W4.heap.size ≤ p) (hc : Cells3 wx p 27 (.int .i64 b) vn vo) (hn : Has id 25 wx W4.heap.size vn [v1]) (ho : Has (Value.int .i64) 3 wx W4.heap.size vo [o0]) (hsv : s = .pointer (some ⟨p, 0, none⟩)) :
    ∃ (p : Nat) (vn vo : Value), s = .pointer (some ⟨p, 0, none⟩) ∧ Hid (w.heap.size + 2 ≤ p ∧ p < wx.heap.size) ∧ Hid (Has id 25 wx (w.heap.size + 2) vn [v1]) ∧ Hid (OwnRows wx (w.heap.size + 2) wx.heap.size (vo :: [v1]) ([o0] :: [row])) ∧ Hid (Cells3 wx p 27 (.int .i64 b) vn vo) ∧ Hid (Below w.heap.size w wx) ∧ Hid (Cells3 wx w.heap.size 27 (.int .i64 b) A1 A2) ∧ Hid (Cells3 wx (w.heap.size + 1) 27 (.int .i64 0) (.slice none 0 0) (.slice none 0 0)) :=
  ⟨p, vn, vo, hsv, ⟨Nat.le_trans hs hp, hc.lt⟩, hn.mono hs, own_pair (HF.below hbel) (own_of_has ho) hs hbel.size, hc, HB.trans (hbel.mono HB.size), c3_of_below hbel HA (by omega), c3_of_below hbel HZ (by omega)⟩
set_option maxHeartbeats 2000000 in
theorem impl_form_make (v : Value) (b : Int) (rows : List (List Int)) (out : List Int) (w : World) (h : LiesS w v b rows out) (hq : seqB b rows out = true) (hst : steadyB b rows out = false) (hlen : rows.length < 16) (hs : rows.length + tot rows + out.length ≤ 1048576) :
    Calls Try.prog 38 #[v] w (GivesK b (steadyRows rows) (steadyOut out) true w) := by
  obtain ⟨i0, hi, hz0, hz1, hz2⟩ := info_parts infoR
  obtain ⟨i1, hi1, hz01, hz11, hz21⟩ := info_parts Ints.infoI
  have HS := Lib.hid h
  obtain ⟨an, cn, ao, co, rfl, hN, hO⟩ := liesS_open h
  have HN := Lib.hid hN
  have HO := Lib.hid hO
  clear h hN hO
  have HST := Lib.hid hst
  have HQ := Lib.hid hq
  have hv := seqB_out hq
  have hr1 : 0 < rows.length := by have := hv.2.2.1; omega
  have hol : out.length = rows.length := hv.2.2.2.2.1
  have hb2 : 2 ≤ b := hv.1
  have hb4 : b ≤ 4 := hv.2.1
  have HROW := Lib.hid (fun (i : Nat) (r : List Int) (hr : rows[i]? = some r) => hv.2.2.2.2.2.1 r (List.mem_of_getElem? hr))
  obtain ⟨o0, ho0⟩ : ∃ o0, out[0]? = some o0 := ⟨_, List.getElem?_eq_getElem (by omega)⟩
  obtain ⟨r0, hr0⟩ : ∃ r0, rows[0]? = some r0 := ⟨_, List.getElem?_eq_getElem hr1⟩
  have hr0b := HROW.out 0 r0 hr0
  have hr0l : 0 < r0.length := by omega
  have hr0s : r0.length ≤ 4 := by omega
  have HR0B := Lib.hid (show ∀ x ∈ r0, 0 ≤ x ∧ x < 1000 from fun x hx => by have := hr0b.2 x hx; omega)
  have HO0 := Lib.hid ho0
  have HR0 := Lib.hid hr0
  have HSR := Lib.hid (show steadyRows rows = (0 :: raise (r0.drop 1)) :: rows.map raise by rw [steadyRows, List.getD_eq_getElem?_getD, hr0]; rfl)
  have HSO := Lib.hid (show steadyOut out = o0 :: out by rw [steadyOut, List.getD_eq_getElem?_getD, ho0]; rfl)
  have HOL := Lib.hid hol
  have hd := decide_eq_false (show ¬ (rows.length : Int) = 16 by omega)
  have hd2 : ((rows.length : Int) == 16) = false := by simp; omega
  clear hst hq hv hr0b ho0 hr0 hol
  have hB : Below w.heap.size w ((w.alloc (Obj.cells #[Value.int .i64 b, Value.slice an rows.length cn, Value.slice ao out.length co] 27)).alloc (Obj.cells #[Value.int .i64 0, Value.slice none 0 0, Value.slice none 0 0] 27)) := ((Below.refl _ _).alloc (Nat.le_refl _) _).alloc (by simp) _
  have hA := Lib.hid ((Cells3.new w 27 (.int .i64 b) (.slice an rows.length cn) (.slice ao out.length co)).alloc (Obj.cells #[Value.int .i64 0, Value.slice none 0 0, Value.slice none 0 0] 27))
  have hZ := Lib.hid (Cells3.new (w.alloc (Obj.cells #[Value.int .i64 b, Value.slice an rows.length cn, Value.slice ao out.length co] 27)) 27 (.int .i64 0) (.slice none 0 0) (.slice none 0 0))
  rw [size_alloc'] at hZ
  have HB := Lib.hid hB
  have hz : ((w.alloc (Obj.cells #[Value.int .i64 b, Value.slice an rows.length cn, Value.slice ao out.length co] 27)).alloc (Obj.cells #[Value.int .i64 0, Value.slice none 0 0, Value.slice none 0 0] 27)).heap.size = w.heap.size + 2 := by simp
  have HZ := Lib.hid hz
  clear hB hz
  go_enter Try.func38, Try.ntmps38
  go_wp2_with fail
  refine (impl_steady _ b rows out _ (HS.out.below HB.out)).mono ?_
  rintro e W1 ⟨rfl, b1⟩
  rw [HST.out]
  have HB1 := Lib.hid (HB.out.trans (b1.mono HB.out.size))
  have hA1 := Lib.hid (hA.out.below b1)
  have hZ1 := Lib.hid (hZ.out.below b1)
  have hs1 : w.heap.size + 2 ≤ W1.heap.size := by have := b1.size; rw [HZ.out] at this; exact this
  clear b1 HB hA hZ HZ
  have k0 := hA1.out.c0
  have k1 := hA1.out.c1
  have k2 := hA1.out.c2
  go_wp2_with fail
  refine (impl_is _ b rows out _ (HS.out.below HB1.out)).mono ?_
  rintro e W2 ⟨rfl, b1⟩
  rw [HQ.out]
  have HB2 := Lib.hid (HB1.out.trans (b1.mono HB1.out.size))
  have hZ2 := Lib.hid (hZ1.out.below b1)
  have hA2 := Lib.hid (hA1.out.below b1)
  have hs2 : w.heap.size + 2 ≤ W2.heap.size := by have := b1.size; omega
  clear b1 HB1 hA1 hZ1 k0 k1 k2 hs1
  have k0 := hA2.out.c0
  have k1 := hA2.out.c1
  have k2 := hA2.out.c2
  obtain ⟨a0, c0, hv0, _, hcl⟩ := (HN.out.below HB2.out).row
  obtain ⟨pa, off, u, rfl, hcell, hlies⟩ := hcl 0 r0 HR0.out
  injection hv0 with e1 e2 e3
  subst e1; subst e3
  rw [Nat.add_zero] at hcell
  have HL := Lib.hid hlies
  clear hcl hlies
  have hrr : (0 : Int) < (rows.length : Int) := by omega
  go_wp2_with fail
  refine (raised_any _ r0 _ HL.out (by omega) HR0B.out).mono ?_
  rintro e W3 ⟨v1, rfl, hv1, b1⟩
  obtain ⟨a1, c1, rfl, hf1⟩ := hv1.form
  rw [raise_len] at hf1
  obtain ⟨g1, rfl⟩ := hf1 hr0l
  have hrl := raise_len r0
  rw [hrl] at hv1 ⊢
  have hW1 : W3.ownsRow W2.heap.size 3 1 (.slice (some ⟨g1, 0, none⟩) r0.length c1) r0.length ((raise r0).map (Value.int .i64)) := by
    have := hv1
    unfold Has at this
    rw [hrl] at this
    exact this
  have hg1 : W2.heap.size ≤ g1 := (hv1.lt g1 rfl).1
  have hg1' : g1 < W3.heap.size := (hv1.lt g1 rfl).2
  have hc : ∃ x, W3.cell? ⟨g1, 0, none⟩ = some (.int .i64 x) := by
    refine ⟨(raise r0)[0]'(by rw [hrl]; exact hr0l), ?_⟩
    rw [hW1.cellAt 0 (by omega), List.getElem?_map, List.getElem?_eq_getElem (by rw [hrl]; exact hr0l)]
    rfl
  obtain ⟨x0, hc⟩ := hc
  have hfr := hW1.frozenAt 0
  have hst := hW1.stored 0 (.int .i64 0)
  rw [show ((raise r0).map (Value.int .i64)).set 0 (.int .i64 0) = (0 :: raise (r0.drop 1)).map (Value.int .i64) from by rw [← set_first r0 hr0l, List.map_set]] at hst
  have HST3 := Lib.hid hst
  have HB3 := Lib.hid (HB2.out.trans (b1.mono HB2.out.size))
  have hZ3 := Lib.hid (hZ2.out.below b1)
  have hA3 := Lib.hid (hA2.out.below b1)
  have hs3 : w.heap.size + 2 ≤ W3.heap.size := by have := b1.size; omega
  clear b1 HB2 hA2 hZ2 k0 k1 k2 hv1 hW1 hst hrl hf1 hcell HL
  have hr0i : (0 : Int) < (r0.length : Int) := by omega
  go_wp2_with fail
  obtain ⟨W4, hW4⟩ : ∃ W, W = W3.setCell ⟨g1, 0, none⟩ (.int .i64 0) := ⟨_, rfl⟩
  have HF : Hid (OwnI W4 (w.heap.size + 2) W4.heap.size (.slice (some ⟨g1, 0, none⟩) r0.length c1) (0 :: raise (r0.drop 1))) := by
    have h1 := HST3.out.1
    rw [← hW4] at h1
    have h2 : Has (Value.int .i64) 3 W4 W2.heap.size (.slice (some ⟨g1, 0, none⟩) r0.length c1) (0 :: raise (r0.drop 1)) := by
      unfold Has
      rw [show (0 :: raise (r0.drop 1)).length = r0.length from by simp [raise]; omega]
      exact h1
    exact ⟨h2.mono hs2, fun k hk => (h2.lt k hk).2, Nat.le_refl _⟩
  have hB4 : Below w.heap.size w (W3.setCell ⟨g1, 0, none⟩ (.int .i64 0)) := HB3.out.setCell (by show _ ≤ g1; omega) _
  have HB4 := Lib.hid hB4
  have HZ4 := Lib.hid (hZ3.out.other (a := ⟨g1, 0, none⟩) (by show g1 ≠ _; omega) (.int .i64 0))
  have HA4 := Lib.hid (hA3.out.other (a := ⟨g1, 0, none⟩) (by show g1 ≠ _; omega) (.int .i64 0))
  have hs4 : w.heap.size + 2 ≤ (W3.setCell ⟨g1, 0, none⟩ (.int .i64 0)).heap.size := by simpa [World.setCell] using hs3
  rw [← hW4] at HB4 HZ4 HA4 hs4 ⊢
  clear hB4 HB3 hZ3 hA3 HST3 hs3 hc hfr hg1 hg1' hs2 hW4
  obtain ⟨_, ao', co', hv0, _, hco⟩ := HO.out.below HB4.out
  injection hv0 with e1 e2 e3
  subst e1; subst e3
  obtain ⟨po, oo, rfl, hoc⟩ := hco 0 o0 HO0.out
  rw [Nat.add_zero] at hoc
  have hpo : po < w.heap.size := by
    obtain ⟨_, ao', co', hv0, _, hco'⟩ := HO.out
    injection hv0 with e1 e2 e3
    subst e1
    obtain ⟨po', oo', h1, h2⟩ := hco' 0 o0 HO0.out
    injection h1 with h1
    injection h1 with h1 h3
    subst h1
    exact World.block_lt_of_cell? w _ h2
  have HOC := Lib.hid hoc
  have hol : 0 < out.length := by have := HOL.out; omega
  clear hco hoc
  go_cut [5] (fun s wx => ∃ (p : Nat) (vn vo : Value), s = .pointer (some ⟨p, 0, none⟩) ∧ Hid (w.heap.size + 2 ≤ p ∧ p < wx.heap.size) ∧ Hid (Has id 25 wx (w.heap.size + 2) vn [.slice (some ⟨g1, 0, none⟩) r0.length c1]) ∧ Hid (OwnRows wx (w.heap.size + 2) wx.heap.size (vo :: [.slice (some ⟨g1, 0, none⟩) r0.length c1]) ([o0] :: [0 :: raise (r0.drop 1)])) ∧ Hid (Cells3 wx p 27 (.int .i64 b) vn vo) ∧ Hid (Below w.heap.size w wx) ∧ Hid (Cells3 wx w.heap.size 27 (.int .i64 b) (.slice (some ⟨pa, off, none⟩) rows.length cn) (.slice (some ⟨po, oo, none⟩) out.length co)) ∧ Hid (Cells3 wx (w.heap.size + 1) 27 (.int .i64 0) (.slice none 0 0) (.slice none 0 0)))
  case first =>
    go_region_held3 (fun w' => w'.cell? ⟨w.heap.size, 0, none⟩ = some (.int .i64 b) ∧ w'.cell? ⟨w.heap.size, 1, none⟩ = some (.slice (some ⟨pa, off, none⟩) rows.length cn) ∧ w'.cell? ⟨w.heap.size, 2, none⟩ = some (.slice (some ⟨po, oo, none⟩) out.length co) ∧ w'.cell? ⟨po, oo, none⟩ = some (.int .i64 o0))
      ((refine copy_held (w := w) (wo := W4) (t := 27) HA4.out hpo HOC.out ?_; repeat (first | with_reducible exact Below.refl _ _ | with_reducible apply Below.drew | (with_reducible refine Below.alloc ?_ (by first | omega | (simp; omega)) _))))
      (fail)
    all_goals
      go_wp2_with fail
      go_meet
      apply form_meet HF.out HB4.out HA4.out HZ4.out hs4 (hsv := rfl)
      case hc => repeat (first | with_reducible apply c3_drew | ((with_reducible refine c3_new' ?_) <;> (first | rfl | exact Nat.le_refl _ | omega | (simp; done) | (simp; omega))) | with_reducible apply Cells3.alloc)
      case hbel => repeat (first | with_reducible exact Below.refl _ _ | with_reducible apply Below.drew | with_reducible apply below_allocs)
      case hn => repeat (first | with_reducible apply has_drew | ((with_reducible refine has_lit1v _ ?_ ?_) <;> (first | rfl | exact Nat.le_refl _ | omega | (simp; done) | (simp; omega))) | with_reducible apply has_alloc)
      case ho => repeat (first | with_reducible apply has_drew | ((with_reducible refine has_lit1 (enc := Value.int .i64) _ ?_ ?_) <;> (first | rfl | exact Nat.le_refl _ | omega | (simp; done) | (simp; omega))) | with_reducible apply has_alloc)
      case hp => first | exact Nat.le_refl _ | (simp; done) | omega
  case rest =>
    obtain ⟨p, vn, vo, rfl, hp, hN1, hR1, hC1, hB1, hA1, hZ1⟩ := hcut
    obtain ⟨W5, rfl⟩ : ∃ W, W = wc := ⟨_, rfl⟩
    have hp1 := hp.out.1
    clear hp HF HB4 HZ4 HA4 hs4 HOC
    have k0 := hA1.out.c0
    have k1 := hA1.out.c1
    have k2 := hA1.out.c2
    go_wp2_with fail
    go_loopw [42] (fun i' wr => ∃ (i : Nat) (us : List Value) (vn vo : Value), i ≤ rows.length ∧ i' = .int .i64 i ∧ Hid (Has id 25 wr (w.heap.size + 2) vn us) ∧ Hid (OwnRows wr (w.heap.size + 2) wr.heap.size (vo :: us) ((o0 :: out.take i) :: ((0 :: raise (r0.drop 1)) :: (rows.take i).map raise))) ∧ Hid (Cells3 wr p 27 (.int .i64 b) vn vo) ∧ Hid (Below w.heap.size w wr) ∧ Hid (Cells3 wr w.heap.size 27 (.int .i64 b) (.slice (some ⟨pa, off, none⟩) rows.length cn) (.slice (some ⟨po, oo, none⟩) out.length co)) ∧ Hid (Cells3 wr (w.heap.size + 1) 27 (.int .i64 0) (.slice none 0 0) (.slice none 0 0))) (fun i' _ => rows.length - (intOf i').toNat)
    case atStart => exact ⟨0, [_], vn, vo, Nat.zero_le _, rfl, hN1, hR1, hC1, hB1, hA1, hZ1⟩
    case round =>
      clear k0 k1 k2
      obtain ⟨i, us, vn, vo, hile, rfl, hN, hR, hC, hB, hA, hZ⟩ := hrel
      obtain ⟨wo, rfl⟩ : ∃ wo : World, wo = wr := ⟨_, rfl⟩
      by_cases hlt : i < rows.length
      · obtain ⟨r, hr⟩ : ∃ r, rows[i]? = some r := ⟨_, List.getElem?_eq_getElem hlt⟩
        obtain ⟨oi, hoi⟩ : ∃ o, out[i]? = some o := ⟨_, List.getElem?_eq_getElem (by have := HOL.out; omega)⟩
        obtain ⟨a0, c0, hv0, _, hcl⟩ := (HN.out.below hB.out).row
        obtain ⟨pa', off', u, h1, hcell, hlies⟩ := hcl i r hr
        injection hv0 with e1 e2 e3
        rw [← e1] at h1
        injection h1 with h1
        injection h1 with h1 h2
        subst h1; subst h2
        have HL := Lib.hid hlies
        have hrb := HROW.out i r hr
        have hrl : r.length ≤ 4 := by omega
        have HRB := Lib.hid (show ∀ x ∈ r, 0 ≤ x ∧ x < 1000 from fun x hx => by have := hrb.2 x hx; omega)
        have HT := Lib.hid (show rows.take (i + 1) = rows.take i ++ [r] from by
          obtain ⟨h1, rfl⟩ := List.getElem?_eq_some_iff.1 hr
          exact List.take_succ_eq_append_getElem h1)
        have HTO := Lib.hid (show out.take (i + 1) = out.take i ++ [oi] from by
          obtain ⟨h1, rfl⟩ := List.getElem?_eq_some_iff.1 hoi
          exact List.take_succ_eq_append_getElem h1)
        have HOI := Lib.hid hoi
        have hul : us.length = i + 1 := by
          have := hR.out.len
          simp at this
          omega
        have HUL := Lib.hid hul
        have hw2 : w.heap.size + 2 ≤ wo.heap.size := by have := hC.out.lt; omega
        have hi0 : (0 : Int) ≤ (i : Int) := Int.natCast_nonneg _
        have hi1' : (i : Int) < (rows.length : Int) := by omega
        have HCELL := Lib.hid hcell
        have d2 := hcell
        clear hlies hr hul hcl hcell e1 e2 e3 hrb hoi
        go_wp2_with fail
        go_cut [] (fun wx => ∃ (us' : List Value) (vn' : Value), Hid (us'.length = i + 2) ∧ Hid (Has id 25 wx (w.heap.size + 2) vn' us') ∧ Hid (OwnRows wx (w.heap.size + 2) wx.heap.size (vo :: us') ((o0 :: out.take i) :: ((0 :: raise (r0.drop 1)) :: (rows.take (i + 1)).map raise))) ∧ Hid (Cells3 wx p 27 (.int .i64 b) vn' vo) ∧ Hid (Below w.heap.size w wx) ∧ Hid (Cells3 wx w.heap.size 27 (.int .i64 b) (.slice (some ⟨pa, off, none⟩) rows.length cn) (.slice (some ⟨po, oo, none⟩) out.length co)) ∧ Hid (Cells3 wx (w.heap.size + 1) 27 (.int .i64 0) (.slice none 0 0) (.slice none 0 0)))
        case first =>
          have c1 := hC.out.c1
          have hpl := hC.out.lt
          have HUS := Lib.hid (show (us.length + 1) * 24 ≤ 140737488355328 ∧ us.length + 1 ≤ 9223372036854775807 by have := HUL.out; omega)
          clear d2
          go_region_law (first
            | (go_simp; go_at_call 58; refine (raised_any _ r _ (lies_drew HL.out) (by omega) HRB.out).mono ?_; rintro e wa ⟨va, rfl, hva, ba⟩; obtain ⟨aa, ca, hvf, _⟩ := hva.form; rw [raise_len] at hvf; subst hvf; have hba := (below_drew' wo).trans ba; have hca := hC.out.below hba; have q1 := hca.c1; have q2 := (hca.alloc (Obj.cells #[Value.slice aa r.length ca] 25)).c1; have hna := hN.out.below hba)
            | (refine step_append_list (enc := id) (e := 25) rfl (.tmp 48) (.tmp 51) 24 rfl (w.heap.size + 2) i0 (.slice none 0 0) 24 Try.underlying24 hi hz0 hz1 hz2 rfl vn us rfl (by repeat (first | with_reducible exact hna | with_reducible apply has_drew | with_reducible apply has_alloc)) (Value.slice (some ⟨_, 0, none⟩) 1 1) [Value.slice aa r.length ca] rfl (by repeat (first | with_reducible apply lies_drew | (with_reducible refine lies_lit1v _ rfl) | with_reducible apply lies_alloc)) (fun y hy => by simp at hy; subst hy; rfl) HUS.out.1 HUS.out.2 (by have := hba.size; simp; omega) ?_; intro vt w2 ho2 hg2; obtain ⟨at2, ct2, rfl, _⟩ := ho2.form; rw [show (us ++ [Value.slice aa r.length ca]).length = us.length + 1 from by simp] at ho2; refine with_fact (T := wa.grownBy w2 vn.ownBlock) ?_ ?_; (focus (first | exact grown_alloc hg2 | exact grown_alloc (grown_drew hg2))); intro hg3; have hc2 := hca.grown hg3 (has_ne_c3 hna hca (by decide)); have r1 := hc2.c1; have r3 := hc2.f))
          all_goals
            have HC2 := Lib.hid hc2
            have HT2 := Lib.hid ho2
            have HNT := Lib.hid (has_ne_c3 ho2 hc2 (by decide))
            have HR1 : Hid (OwnRows wa (w.heap.size + 2) wa.heap.size (vo :: (us ++ [Value.slice aa r.length ca])) ((o0 :: out.take i) :: ((0 :: raise (r0.drop 1)) :: (rows.take (i + 1)).map raise))) := by
              have h1 : OwnI wa wo.heap.size wa.heap.size (Value.slice aa r.length ca) (raise r) := OwnI.of_gives hva
              have h2 := (hR.out.below hba).snoc h1 hw2 hba.size
              rw [HT.out, List.map_append]
              exact h2
            have HR2 := Lib.hid ((HR1.out.top_grown hna hg3).mono hg3.size (Nat.le_refl _))
            have HRN := Lib.hid (HR2.out.ne_c3 hc2 (by decide))
            have hvp : w.heap.size + 2 ≤ p := hp1
            have HB2 := Lib.hid (((Below.refl (w.heap.size + 2) wo).trans (hba.mono hw2)).grown hg3 (Nat.le_trans hw2 hba.size) (fun k hk => (hN.out.lt k hk).1))
            clear hg2 hg3 hc2 r1 r3 ho2 hva ba hba hca q1 q2 hna c1 hpl
            go_wp2_with fail
            go_meet
            refine ⟨us ++ [Value.slice aa r.length ca], Value.slice at2 (us.length + 1) ct2, Lib.hid (by simp [HUL.out]), HT2.out.set (a := ⟨p, 1, none⟩) HNT.out (.slice at2 (us.length + 1) ct2), ?_, HC2.out.set1 (.slice at2 (us.length + 1) ct2), (hB.out.trans (HB2.out.mono (by omega))).setCell (by show _ ≤ p; omega) _, (c3_of_below HB2.out hA.out (by omega)).other (by show p ≠ _; omega) _, (c3_of_below HB2.out hZ.out (by omega)).other (by show p ≠ _; omega) _⟩
            have := HR2.out.set (a := ⟨p, 1, none⟩) HRN.out (.slice at2 (us.length + 1) ct2)
            show OwnRows _ _ _ _ _
            simpa only [size_setCell'] using this
        case rest =>
          clear hN hR hC hB hA hZ HL HRB HCELL HUL hw2
          obtain ⟨us', vn', hul, hN, hR, hC, hB, hA, hZ⟩ := hcut
          obtain ⟨W6, rfl⟩ : ∃ W, W = wc := ⟨_, rfl⟩
          have hw2 : w.heap.size + 2 ≤ W6.heap.size := by have := hC.out.lt; omega
          obtain ⟨_, ao', co', hv0, _, hco⟩ := HO.out.below hB.out
          injection hv0 with e1 e2 e3
          obtain ⟨po', oo', h1, hoc⟩ := hco i oi HOI.out
          rw [← e1] at h1
          injection h1 with h1
          injection h1 with h1 h2
          subst h1; subst h2
          have k1 := hA.out.c2
          have c2 := hC.out.c2
          have c3 := (hC.out.alloc (Obj.cells #[Value.int .i64 oi] 3)).c2
          have hpl := hC.out.lt
          have hol1 : (i : Int) < (out.length : Int) := by have := HOL.out; omega
          have hon1 : i < out.length := by have := HOL.out; omega
          have HVO := Lib.hid (hR.out.row 0 vo (o0 :: out.take i) rfl rfl)
          have HLE := Lib.hid (show ((o0 :: out.take i).length + 1) * 8 ≤ 140737488355328 ∧ (o0 :: out.take i).length + 1 ≤ 9223372036854775807 by simp; omega)
          clear hco e1 e2 e3
          go_wp2_with fail
          go_region_law ((refine step_append_at_list (enc := Value.int .i64) (e := 3) rfl (.tmp 55) (.tmp 61) 25 rfl (w.heap.size + 2) i1 (.int .i64 0) 8 Try.underlying25 hi1 hz01 hz11 hz21 rfl vo (o0 :: out.take i) rfl (by repeat (first | with_reducible exact HVO.out.has | with_reducible apply has_drew | with_reducible apply has_alloc)) (Value.slice (some ⟨_, 0, none⟩) 1 1) [oi] rfl (by repeat (first | with_reducible apply lies_drew | (with_reducible refine lies_lit1 (enc := Value.int .i64) _ rfl) | with_reducible apply lies_alloc)) (fun _ _ => rfl) HLE.out.1 HLE.out.2 (by simp; omega) ?_; intro vt w2 ho2 hg2 hb2; obtain ⟨at2, ct2, hvf, _⟩ := ho2.form; rw [show (o0 :: out.take i ++ [oi]).length = i + 2 from by simp; omega] at hvf; subst hvf; rw [List.cons_append] at ho2; refine with_fact (T := W6.grownBy w2 vo.ownBlock) ?_ ?_; (focus (exact grown_alloc (grown_drew hg2))); intro hg3; have hc2 := hC.out.grown hg3 (has_ne_c3 HVO.out.has hC.out (by decide)); have r1 := hc2.c2; have r3 := hc2.f))
          all_goals
            have HC2 := Lib.hid hc2
            have HT2 := Lib.hid ho2
            have HR2 := Lib.hid (hR.out.head_grown ho2 (Nat.le_refl _) (Nat.le_refl _) hg3 (fun k hk => (hb2 k hk).imp id (fun h => by simp at h; omega)))
            have HRN := Lib.hid (HR2.out.ne_c3 hc2 (by decide))
            have HN2 := Lib.hid (hN.out.grown hg3 (hN.out.ne_top HVO.out.has))
            have HNN := Lib.hid (has_ne_c3 HN2.out hc2 (by decide))
            have HB2 := Lib.hid ((Below.refl (w.heap.size + 2) W6).grown hg3 hw2 (fun k hk => (HVO.out.has.lt k hk).1))
            clear hg2 hg3 hc2 r1 r3 ho2 hb2 c2 c3 hpl k1 hoc
            go_wp2
            go_roundw
            case rel =>
              refine ⟨i + 1, us', vn', .slice at2 (i + 2) ct2, by omega, by go_num, HN2.out.set (a := ⟨p, 2, none⟩) HNN.out (.slice at2 (i + 2) ct2), ?_, HC2.out.set2 (.slice at2 (i + 2) ct2), (hB.out.trans (HB2.out.mono (by omega))).setCell (by show _ ≤ p; omega) _, (c3_of_below HB2.out hA.out (by omega)).other (by show p ≠ _; omega) _, (c3_of_below HB2.out hZ.out (by omega)).other (by show p ≠ _; omega) _⟩
              have := HR2.out.set (a := ⟨p, 2, none⟩) HRN.out (.slice at2 (i + 2) ct2)
              show OwnRows _ _ _ _ _
              rw [HTO.out]
              simpa only [size_setCell'] using this
            case measure => simp [intOf]; omega
      · obtain rfl : i = rows.length := by omega
        have hw2 : w.heap.size + 2 ≤ wo.heap.size := by have := hC.out.lt; omega
        have hus : us.length = (steadyRows rows).length := by
          have := hR.out.len
          rw [HSR.out]
          simp at this ⊢
          omega
        have hol : (o0 :: out.take rows.length).length = (steadyOut out).length := by
          rw [HSO.out]
          have := HOL.out
          simp
          omega
        have HE : Hid (OwnRows wo (w.heap.size + 2) wo.heap.size (vo :: us) (steadyOut out :: steadyRows rows)) := by
          have h1 := hR.out
          rw [List.take_length] at h1
          rw [show out.take rows.length = out from List.take_of_length_le (by have := HOL.out; omega)] at h1
          rw [HSR.out, HSO.out]
          exact h1
        obtain ⟨an1, cn1, hv1, _⟩ := hN.out.form
        obtain ⟨ao1, co1, hv2, _⟩ := (hR.out.row 0 vo _ rfl rfl).has.form
        rw [hus] at hv1
        rw [hol] at hv2
        subst hv1; subst hv2
        have k0 := hA.out.c0
        have k1 := hA.out.c1
        have k2 := hA.out.c2
        have p0 := hC.out.c0
        have p1 := hC.out.c1
        have p2 := hC.out.c2
        have p3 := hC.out.f
        have z0 := hZ.out.c0
        have z1 := hZ.out.c1
        have z2 := hZ.out.c2
        have z3 := hZ.out.f
        clear hus hol hR
        go_wp2
        have hZ3 := (((hZ.out.set0 (.int .i64 b)).set1 (.slice an1 (steadyRows rows).length cn1)).set2 (.slice ao1 (steadyOut out).length co1))
        have m0 := hZ3.c0
        have m1 := hZ3.c1
        have m2 := hZ3.c2
        refine bodyPost_ret (v := .tuple #[.agg #[.int .i64 b, .slice an1 (steadyRows rows).length cn1, .slice ao1 (steadyOut out).length co1], .bool true]) (by simp [results, Try.results38, go_sem, m0, m1, m2]) rfl ⟨_, rfl, ?_, ?_⟩
        · have T0 : Plain.Touch w.heap.size (w.heap.size + 2) wo (((wo.setCell ⟨w.heap.size + 1, 0, none⟩ (.int .i64 b)).setCell ⟨w.heap.size + 1, 1, none⟩ (.slice an1 (steadyRows rows).length cn1)).setCell ⟨w.heap.size + 1, 2, none⟩ (.slice ao1 (steadyOut out).length co1)) :=
            ((Plain.Touch.of_set _ (by show _ ≤ _ + 1; omega) (by show _ + 1 < _; omega)).trans (Plain.Touch.of_set _ (by show _ ≤ _ + 1; omega) (by show _ + 1 < _; omega))).trans (Plain.Touch.of_set _ (by show _ ≤ _ + 1; omega) (by show _ + 1 < _; omega))
          have hS : OwnS wo (w.heap.size + 2) wo.heap.size (.agg #[.int .i64 b, .slice an1 (steadyRows rows).length cn1, .slice ao1 (steadyOut out).length co1]) b (steadyRows rows) (steadyOut out) := OwnS.make_head hN.out HE.out
          have := (hS.touch T0 (.inr (Nat.le_refl _))).lower (show w.heap.size ≤ w.heap.size + 2 by omega)
          simpa only [size_setCell'] using this
        · exact ((hB.out.setCell (by show _ ≤ _ + 1; omega) _).setCell (by show _ ≤ _ + 1; omega) _).setCell (by show _ ≤ _ + 1; omega) _
end Seqs
end Go.Proofs.Ytdgfecjakmdheaa
/- Contract of the model's SteadyForm. No conditions beyond those that each states. -/
namespace Go.Proofs.Ytdgfecjakmdheaa
open Go.ChangeShapes Go.WideShapes Go.ChangeAt Go.RowKit
open Go.PlainAid Plain
set_option linter.unusedVariables false
namespace Seqs
open Digits

theorem spec_form_no (v : Value) (b : Int) (rows : List (List Int)) (out : List Int) (w : World) (h : LiesS w v b rows out) (hno : formK b rows out = false) :
    Calls Try.prog 40 #[v] w (GivesK 0 [] [] false w) := by
  have HS := Lib.hid h
  obtain ⟨an, cn, ao, co, rfl⟩ := h.form
  clear h
  have hst : steadyB b rows out = false := by simp [formK] at hno; exact hno.1
  have HST := Lib.hid hst
  have hB : Below w.heap.size w ((w.alloc (Obj.cells #[Value.int .i64 b, Value.slice an rows.length cn, Value.slice ao out.length co] 27)).alloc (Obj.cells #[Value.int .i64 0, Value.slice none 0 0, Value.slice none 0 0] 27)) := ((Below.refl _ _).alloc (Nat.le_refl _) _).alloc (by simp) _
  have hA0 := Lib.hid ((Cells3.new w 27 (.int .i64 b) (.slice an rows.length cn) (.slice ao out.length co)).alloc (Obj.cells #[Value.int .i64 0, Value.slice none 0 0, Value.slice none 0 0] 27))
  have hZ0 := Lib.hid (Cells3.new (w.alloc (Obj.cells #[Value.int .i64 b, Value.slice an rows.length cn, Value.slice ao out.length co] 27)) 27 (.int .i64 0) (.slice none 0 0) (.slice none 0 0))
  rw [size_alloc'] at hZ0
  have HB0 := Lib.hid hB
  have hs0 : w.heap.size + 2 ≤ ((w.alloc (Obj.cells #[Value.int .i64 b, Value.slice an rows.length cn, Value.slice ao out.length co] 27)).alloc (Obj.cells #[Value.int .i64 0, Value.slice none 0 0, Value.slice none 0 0] 27)).heap.size := by simp
  clear hB
  cases hq : seqB b rows out with
  | false =>
    have HQ := Lib.hid hq
    clear hq hno hst
    go_enter Try.func40, Try.ntmps40
    go_wp2_with fail
    refine (spec_is _ b rows out _ (HS.out.below HB0.out)).mono ?_
    rintro e W1 ⟨rfl, b1⟩
    rw [HQ.out]
    have HB1 := Lib.hid (HB0.out.trans (b1.mono HB0.out.size))
    have hA1 := Lib.hid (hA0.out.below b1)
    have hZ1 := Lib.hid (hZ0.out.below b1)
    have hs1 : w.heap.size + 2 ≤ W1.heap.size := Nat.le_trans hs0 b1.size
    clear b1 HB0 hA0 hZ0
    have k0 := hA1.out.c0
    have k1 := hA1.out.c1
    have k2 := hA1.out.c2
    have HB2 := HB1
    have hZ2 := hZ1
    have z0 := hZ2.out.c0
    have z1 := hZ2.out.c1
    have z2 := hZ2.out.c2
    have z3 := hZ2.out.f
    go_wp2
    have m0 := (((hZ2.out.set0 (.int .i64 0)).set1 (.slice none 0 0)).set2 (.slice none 0 0)).c0
    have m1 := (((hZ2.out.set0 (.int .i64 0)).set1 (.slice none 0 0)).set2 (.slice none 0 0)).c1
    have m2 := (((hZ2.out.set0 (.int .i64 0)).set1 (.slice none 0 0)).set2 (.slice none 0 0)).c2
    refine bodyPost_ret (v := .tuple #[.agg #[.int .i64 0, .slice none 0 0, .slice none 0 0], .bool false]) (by simp [results, Try.results40, go_sem, m0, m1, m2]) rfl ⟨_, rfl, OwnS.zero _, ?_⟩
    exact ((HB2.out.setCell (by show _ ≤ _ + 1; omega) _).setCell (by show _ ≤ _ + 1; omega) _).setCell (by show _ ≤ _ + 1; omega) _
  | true =>
    have hl : rows.length = 16 := by
      have h1 := seqB_out hq
      simp [formK, hq] at hno
      have := h1.2.2.2.1
      omega
    have HQ := Lib.hid hq
    have hd := decide_eq_true (show 16 ≤ (rows.length : Int) by omega)
    clear hq hno hst hl
    go_enter Try.func40, Try.ntmps40
    go_wp2_with fail
    refine (spec_is _ b rows out _ (HS.out.below HB0.out)).mono ?_
    rintro e W1 ⟨rfl, b1⟩
    rw [HQ.out]
    have HB1 := Lib.hid (HB0.out.trans (b1.mono HB0.out.size))
    have hA1 := Lib.hid (hA0.out.below b1)
    have hZ1 := Lib.hid (hZ0.out.below b1)
    have hs1 : w.heap.size + 2 ≤ W1.heap.size := Nat.le_trans hs0 b1.size
    clear b1 HB0 hA0 hZ0
    have k0 := hA1.out.c0
    have k1 := hA1.out.c1
    have k2 := hA1.out.c2
    go_wp2_with fail
    refine (spec_steady _ b rows out _ (HS.out.below HB1.out)).mono ?_
    rintro e W2 ⟨rfl, b1⟩
    rw [HST.out]
    have HB2 := Lib.hid (HB1.out.trans (b1.mono HB1.out.size))
    have hA2 := Lib.hid (hA1.out.below b1)
    have hZ2 := Lib.hid (hZ1.out.below b1)
    have hs2 : w.heap.size + 2 ≤ W2.heap.size := Nat.le_trans hs1 b1.size
    clear b1 HB1 hA1 hZ1
    have k0 := hA2.out.c0
    have k1 := hA2.out.c1
    have k2 := hA2.out.c2
    have z0 := hZ2.out.c0
    have z1 := hZ2.out.c1
    have z2 := hZ2.out.c2
    have z3 := hZ2.out.f
    go_wp2
    have m0 := (((hZ2.out.set0 (.int .i64 0)).set1 (.slice none 0 0)).set2 (.slice none 0 0)).c0
    have m1 := (((hZ2.out.set0 (.int .i64 0)).set1 (.slice none 0 0)).set2 (.slice none 0 0)).c1
    have m2 := (((hZ2.out.set0 (.int .i64 0)).set1 (.slice none 0 0)).set2 (.slice none 0 0)).c2
    refine bodyPost_ret (v := .tuple #[.agg #[.int .i64 0, .slice none 0 0, .slice none 0 0], .bool false]) (by simp [results, Try.results40, go_sem, m0, m1, m2]) rfl ⟨_, rfl, OwnS.zero _, ?_⟩
    exact ((HB2.out.setCell (by show _ ≤ _ + 1; omega) _).setCell (by show _ ≤ _ + 1; omega) _).setCell (by show _ ≤ _ + 1; omega) _
set_option maxHeartbeats 1000000 in
theorem spec_form_same (v : Value) (b : Int) (rows : List (List Int)) (out : List Int) (w : World) (h : LiesS w v b rows out) (hst : steadyB b rows out = true) (hs : rows.length + tot rows + out.length ≤ 1048576) :
    Calls Try.prog 40 #[v] w (GivesK b rows out true w) := by
  have HS := Lib.hid h
  obtain ⟨an, cn, ao, co, rfl⟩ := h.form
  clear h
  have hq : seqB b rows out = true := by rw [steadyB, Bool.and_eq_true] at hst; exact hst.1
  have HST := Lib.hid hst
  have HQ := Lib.hid hq
  clear hst hq
  have hB : Below w.heap.size w ((w.alloc (Obj.cells #[Value.int .i64 b, Value.slice an rows.length cn, Value.slice ao out.length co] 27)).alloc (Obj.cells #[Value.int .i64 0, Value.slice none 0 0, Value.slice none 0 0] 27)) := ((Below.refl _ _).alloc (Nat.le_refl _) _).alloc (by simp) _
  have hA0 := Lib.hid ((Cells3.new w 27 (.int .i64 b) (.slice an rows.length cn) (.slice ao out.length co)).alloc (Obj.cells #[Value.int .i64 0, Value.slice none 0 0, Value.slice none 0 0] 27))
  have hZ0 := Lib.hid (Cells3.new (w.alloc (Obj.cells #[Value.int .i64 b, Value.slice an rows.length cn, Value.slice ao out.length co] 27)) 27 (.int .i64 0) (.slice none 0 0) (.slice none 0 0))
  rw [size_alloc'] at hZ0
  have HB0 := Lib.hid hB
  have hs0 : w.heap.size + 2 ≤ ((w.alloc (Obj.cells #[Value.int .i64 b, Value.slice an rows.length cn, Value.slice ao out.length co] 27)).alloc (Obj.cells #[Value.int .i64 0, Value.slice none 0 0, Value.slice none 0 0] 27)).heap.size := by simp
  clear hB

  by_cases hl : rows.length = 16
  · have hd := decide_eq_true (show 16 ≤ (rows.length : Int) by omega)
    clear hl
    go_enter Try.func40, Try.ntmps40
    go_wp2_with fail
    refine (spec_is _ b rows out _ (HS.out.below HB0.out)).mono ?_
    rintro e W1 ⟨rfl, b1⟩
    rw [HQ.out]
    have HB1 := Lib.hid (HB0.out.trans (b1.mono HB0.out.size))
    have hA1 := Lib.hid (hA0.out.below b1)
    have hZ1 := Lib.hid (hZ0.out.below b1)
    have hs1 : w.heap.size + 2 ≤ W1.heap.size := Nat.le_trans hs0 b1.size
    clear b1 HB0 hA0 hZ0
    have k0 := hA1.out.c0
    have k1 := hA1.out.c1
    have k2 := hA1.out.c2
    go_wp2_with fail
    refine (spec_steady _ b rows out _ (HS.out.below HB1.out)).mono ?_
    rintro e W2 ⟨rfl, b1⟩
    rw [HST.out]
    have HB2 := Lib.hid (HB1.out.trans (b1.mono HB1.out.size))
    have hA2 := Lib.hid (hA1.out.below b1)
    have hZ2 := Lib.hid (hZ1.out.below b1)
    have hs2 : w.heap.size + 2 ≤ W2.heap.size := Nat.le_trans hs1 b1.size
    clear b1 HB1 hA1 hZ1
    have k0 := hA2.out.c0
    have k1 := hA2.out.c1
    have k2 := hA2.out.c2
    go_wp2_with fail
    refine (spec_steady _ b rows out _ (HS.out.below HB2.out)).mono ?_
    rintro e W3 ⟨rfl, b1⟩
    rw [HST.out]
    have HB3 := Lib.hid (HB2.out.trans (b1.mono HB2.out.size))
    have hA3 := Lib.hid (hA2.out.below b1)
    have hZ3 := Lib.hid (hZ2.out.below b1)
    have hs3 : w.heap.size + 2 ≤ W3.heap.size := Nat.le_trans hs2 b1.size
    clear b1 HB2 hA2 hZ2
    have k0 := hA3.out.c0
    have k1 := hA3.out.c1
    have k2 := hA3.out.c2
    go_wp2_with fail
    refine (spec_copied _ b rows out _ (HS.out.below HB3.out) hs).mono ?_
    rintro e WE ⟨v2, rfl, ho, b1⟩
    obtain ⟨a1, c1, a2, c2, rfl⟩ := ho.form
    have HBE := Lib.hid (HB3.out.trans (b1.mono HB3.out.size))
    have hZE := Lib.hid (hZ3.out.below b1)
    have HO := Lib.hid ho
    clear b1 HB3 hA3 hZ3 k0 k1 k2 ho
    have z0 := hZE.out.c0
    have z1 := hZE.out.c1
    have z2 := hZE.out.c2
    have z3 := hZE.out.f
    go_wp2
    have hZ3 := (((hZE.out.set0 (.int .i64 b)).set1 (.slice a1 rows.length c1)).set2 (.slice a2 out.length c2))
    have m0 := hZ3.c0
    have m1 := hZ3.c1
    have m2 := hZ3.c2
    refine bodyPost_ret (v := .tuple #[.agg #[.int .i64 b, .slice a1 rows.length c1, .slice a2 out.length c2], .bool true]) (by simp [results, Try.results40, go_sem, m0, m1, m2]) rfl ⟨_, rfl, ?_, ?_⟩
    · have T0 : Plain.Touch w.heap.size (w.heap.size + 2) WE (((WE.setCell ⟨w.heap.size + 1, 0, none⟩ (.int .i64 b)).setCell ⟨w.heap.size + 1, 1, none⟩ (.slice a1 rows.length c1)).setCell ⟨w.heap.size + 1, 2, none⟩ (.slice a2 out.length c2)) :=
        ((Plain.Touch.of_set _ (by show _ ≤ _ + 1; omega) (by show _ + 1 < _; omega)).trans (Plain.Touch.of_set _ (by show _ ≤ _ + 1; omega) (by show _ + 1 < _; omega))).trans (Plain.Touch.of_set _ (by show _ ≤ _ + 1; omega) (by show _ + 1 < _; omega))
      have := (HO.out.touch T0 (.inr hs3)).lower (show w.heap.size ≤ W3.heap.size by omega)
      simpa only [size_setCell'] using this
    · exact ((HBE.out.setCell (by show _ ≤ _ + 1; omega) _).setCell (by show _ ≤ _ + 1; omega) _).setCell (by show _ ≤ _ + 1; omega) _
  · have hl2 : rows.length < 16 := by
      have := (seqB_out HQ.out).2.2.2.1
      omega
    have hd := decide_eq_false (show ¬ 16 ≤ (rows.length : Int) by omega)
    clear hl
    go_enter Try.func40, Try.ntmps40
    go_wp2_with fail
    refine (spec_is _ b rows out _ (HS.out.below HB0.out)).mono ?_
    rintro e W1 ⟨rfl, b1⟩
    rw [HQ.out]
    have HB1 := Lib.hid (HB0.out.trans (b1.mono HB0.out.size))
    have hA1 := Lib.hid (hA0.out.below b1)
    have hZ1 := Lib.hid (hZ0.out.below b1)
    have hs1 : w.heap.size + 2 ≤ W1.heap.size := Nat.le_trans hs0 b1.size
    clear b1 HB0 hA0 hZ0
    have k0 := hA1.out.c0
    have k1 := hA1.out.c1
    have k2 := hA1.out.c2
    go_wp2_with fail
    refine (spec_steady _ b rows out _ (HS.out.below HB1.out)).mono ?_
    rintro e W2 ⟨rfl, b1⟩
    rw [HST.out]
    have HB2 := Lib.hid (HB1.out.trans (b1.mono HB1.out.size))
    have hA2 := Lib.hid (hA1.out.below b1)
    have hZ2 := Lib.hid (hZ1.out.below b1)
    have hs2 : w.heap.size + 2 ≤ W2.heap.size := Nat.le_trans hs1 b1.size
    clear b1 HB1 hA1 hZ1
    have k0 := hA2.out.c0
    have k1 := hA2.out.c1
    have k2 := hA2.out.c2
    go_wp2_with fail
    refine (spec_copied _ b rows out _ (HS.out.below HB2.out) hs).mono ?_
    rintro e WE ⟨v2, rfl, ho, b1⟩
    obtain ⟨a1, c1, a2, c2, rfl⟩ := ho.form
    have HBE := Lib.hid (HB2.out.trans (b1.mono HB2.out.size))
    have hZE := Lib.hid (hZ2.out.below b1)
    have HO := Lib.hid ho
    clear b1 HB2 hA2 hZ2 k0 k1 k2 ho
    have z0 := hZE.out.c0
    have z1 := hZE.out.c1
    have z2 := hZE.out.c2
    have z3 := hZE.out.f
    go_wp2
    have hZ3 := (((hZE.out.set0 (.int .i64 b)).set1 (.slice a1 rows.length c1)).set2 (.slice a2 out.length c2))
    have m0 := hZ3.c0
    have m1 := hZ3.c1
    have m2 := hZ3.c2
    refine bodyPost_ret (v := .tuple #[.agg #[.int .i64 b, .slice a1 rows.length c1, .slice a2 out.length c2], .bool true]) (by simp [results, Try.results40, go_sem, m0, m1, m2]) rfl ⟨_, rfl, ?_, ?_⟩
    · have T0 : Plain.Touch w.heap.size (w.heap.size + 2) WE (((WE.setCell ⟨w.heap.size + 1, 0, none⟩ (.int .i64 b)).setCell ⟨w.heap.size + 1, 1, none⟩ (.slice a1 rows.length c1)).setCell ⟨w.heap.size + 1, 2, none⟩ (.slice a2 out.length c2)) :=
        ((Plain.Touch.of_set _ (by show _ ≤ _ + 1; omega) (by show _ + 1 < _; omega)).trans (Plain.Touch.of_set _ (by show _ ≤ _ + 1; omega) (by show _ + 1 < _; omega))).trans (Plain.Touch.of_set _ (by show _ ≤ _ + 1; omega) (by show _ + 1 < _; omega))
      have := (HO.out.touch T0 (.inr hs2)).lower (show w.heap.size ≤ W2.heap.size by omega)
      simpa only [size_setCell'] using this
    · exact ((HBE.out.setCell (by show _ ≤ _ + 1; omega) _).setCell (by show _ ≤ _ + 1; omega) _).setCell (by show _ ≤ _ + 1; omega) _

theorem raise_snoc (l : List Int) (k : Nat) (x : Int) (h : l[k]? = some x) : raise (l.take (k + 1)) = raise (l.take k) ++ [x + 1] := by
  obtain ⟨h1, rfl⟩ := List.getElem?_eq_some_iff.1 h
  rw [List.take_succ_eq_append_getElem h1]
  simp only [raise, List.map_append, List.map_cons, List.map_nil]
set_option maxRecDepth 100000 in
set_option maxHeartbeats 4000000 in
theorem spec_form_make (v : Value) (b : Int) (rows : List (List Int)) (out : List Int) (w : World) (h : LiesS w v b rows out) (hq : seqB b rows out = true) (hst : steadyB b rows out = false) (hlen : rows.length < 16) :
    Calls Try.prog 40 #[v] w (GivesK b (steadyRows rows) (steadyOut out) true w) := by
  obtain ⟨i0, hi, hzA0, hzA1, hzA2⟩ := info_parts infoR
  obtain ⟨i1, hi1, hzB0, hzB1, hzB2⟩ := info_parts Ints.infoI
  have HS := Lib.hid h
  obtain ⟨an, cn, ao, co, rfl, hN, hO⟩ := liesS_open h
  have HN := Lib.hid hN
  have HO := Lib.hid hO
  clear h hN hO
  have HST := Lib.hid hst
  have HQ := Lib.hid hq
  have hv := seqB_out hq
  have hr1 : 0 < rows.length := by have := hv.2.2.1; omega
  have hol : out.length = rows.length := hv.2.2.2.2.1
  obtain ⟨bn, hbn⟩ : ∃ n : Nat, b = (n : Int) := ⟨b.toNat, by have := hv.1; omega⟩
  have hb2 : 2 ≤ bn := by have := hv.1; omega
  have hb4 : bn ≤ 4 := by have := hv.2.1; omega
  have HROW := Lib.hid (fun (i : Nat) (r : List Int) (hr : rows[i]? = some r) => hv.2.2.2.2.2.1 r (List.mem_of_getElem? hr))
  obtain ⟨o0, ho0⟩ : ∃ o0, out[0]? = some o0 := ⟨_, List.getElem?_eq_getElem (by omega)⟩
  obtain ⟨r0, hr0⟩ : ∃ r0, rows[0]? = some r0 := ⟨_, List.getElem?_eq_getElem hr1⟩
  have HO0 := Lib.hid ho0
  have HR0 := Lib.hid hr0
  have HSR := Lib.hid (show steadyRows rows = (0 :: raise (r0.drop 1)) :: rows.map raise by rw [steadyRows, List.getD_eq_getElem?_getD, hr0]; rfl)
  have HSO := Lib.hid (show steadyOut out = o0 :: out by rw [steadyOut, List.getD_eq_getElem?_getD, ho0]; rfl)
  have HOL := Lib.hid hol
  have hd := decide_eq_false (show ¬ 16 ≤ (rows.length : Int) by omega)
  subst hbn
  clear hst hq hv ho0 hr0 hol
  have hB : Below w.heap.size w ((w.alloc (Obj.cells #[Value.int .i64 bn, Value.slice an rows.length cn, Value.slice ao out.length co] 27)).alloc (Obj.cells #[Value.int .i64 0, Value.slice none 0 0, Value.slice none 0 0] 27)) := ((Below.refl _ _).alloc (Nat.le_refl _) _).alloc (by simp) _
  have hA0 := Lib.hid ((Cells3.new w 27 (.int .i64 bn) (.slice an rows.length cn) (.slice ao out.length co)).alloc (Obj.cells #[Value.int .i64 0, Value.slice none 0 0, Value.slice none 0 0] 27))
  have hZ0 := Lib.hid (Cells3.new (w.alloc (Obj.cells #[Value.int .i64 bn, Value.slice an rows.length cn, Value.slice ao out.length co] 27)) 27 (.int .i64 0) (.slice none 0 0) (.slice none 0 0))
  rw [size_alloc'] at hZ0
  have HB0 := Lib.hid hB
  have hs0 : w.heap.size + 2 ≤ ((w.alloc (Obj.cells #[Value.int .i64 bn, Value.slice an rows.length cn, Value.slice ao out.length co] 27)).alloc (Obj.cells #[Value.int .i64 0, Value.slice none 0 0, Value.slice none 0 0] 27)).heap.size := by simp
  clear hB
  go_enter Try.func40, Try.ntmps40
  go_wp2_with fail
  refine (spec_is _ (bn : Int) rows out _ (HS.out.below HB0.out)).mono ?_
  rintro e W1 ⟨rfl, b1⟩
  rw [HQ.out]
  have HB1 := Lib.hid (HB0.out.trans (b1.mono HB0.out.size))
  have hA1 := Lib.hid (hA0.out.below b1)
  have hZ1 := Lib.hid (hZ0.out.below b1)
  have hs1 : w.heap.size + 2 ≤ W1.heap.size := Nat.le_trans hs0 b1.size
  clear b1 HB0 hA0 hZ0
  have k0 := hA1.out.c0
  have k1 := hA1.out.c1
  have k2 := hA1.out.c2
  go_wp2_with fail
  refine (spec_steady _ (bn : Int) rows out _ (HS.out.below HB1.out)).mono ?_
  rintro e W2 ⟨rfl, b1⟩
  rw [HST.out]
  have HB2 := Lib.hid (HB1.out.trans (b1.mono HB1.out.size))
  have hA2 := Lib.hid (hA1.out.below b1)
  have hZ2 := Lib.hid (hZ1.out.below b1)
  have hs2 : w.heap.size + 2 ≤ W2.heap.size := Nat.le_trans hs1 b1.size
  clear b1 HB1 hA1 hZ1
  have k0 := hA2.out.c0
  have k1 := hA2.out.c1
  have k2 := hA2.out.c2
  have hoc : ∃ po oo, ao = some ⟨po, oo, none⟩ ∧ W2.cell? ⟨po, oo, none⟩ = some (.int .i64 o0) ∧ po < w.heap.size := by
    obtain ⟨_, ao', co', hv0, _, hco'⟩ := HO.out
    injection hv0 with e1 e2 e3
    subst e1
    obtain ⟨po', oo', h1, h2⟩ := hco' 0 o0 HO0.out
    rw [Nat.add_zero] at h2
    exact ⟨po', oo', h1, (HB2.out.cell (p := ⟨po', oo', none⟩) (World.block_lt_of_cell? w _ h2)).trans h2, World.block_lt_of_cell? w _ h2⟩
  obtain ⟨po, oo, rfl, hoc, hpo⟩ := hoc
  have HOC := Lib.hid hoc
  have hol : 0 < out.length := by have := HOL.out; omega
  have HOW := Lib.hid (HO.out.below HB2.out)
  have HOLL := Lib.hid (show ([o0].length + out.length) * 8 ≤ 140737488355328 ∧ [o0].length + out.length ≤ 9223372036854775807 by have := HOL.out; simp; omega)
  clear hoc
  go_wp2_with fail
  go_cut [4] (fun s wx => ∃ (p : Nat) (vo : Value), s = .pointer (some ⟨p, 0, none⟩) ∧ Hid (w.heap.size + 2 ≤ p ∧ p < wx.heap.size) ∧ Hid (Cells3 wx p 27 (.int .i64 bn) (.slice none 0 0) vo) ∧ Hid (OwnI wx (w.heap.size + 2) wx.heap.size vo (o0 :: out)) ∧ Hid (Cells3 wx w.heap.size 27 (.int .i64 bn) (.slice an rows.length cn) (.slice (some ⟨po, oo, none⟩) out.length co)) ∧ Hid (Cells3 wx (w.heap.size + 1) 27 (.int .i64 0) (.slice none 0 0) (.slice none 0 0)) ∧ Hid (Below w.heap.size w wx))
  case first =>
    go_region_held3 (fun w' => w'.cell? ⟨w.heap.size, 0, none⟩ = some (.int .i64 bn) ∧ w'.cell? ⟨w.heap.size, 1, none⟩ = some (.slice an rows.length cn) ∧ w'.cell? ⟨w.heap.size, 2, none⟩ = some (.slice (some ⟨po, oo, none⟩) out.length co) ∧ w'.cell? ⟨po, oo, none⟩ = some (.int .i64 o0))
      ((refine copy_held (w := w) (wo := W2) (t := 27) hA2.out hpo HOC.out ?_; repeat (first | with_reducible exact Below.refl _ _ | with_reducible exact hbw | with_reducible apply Below.drew | (with_reducible refine Below.alloc ?_ ?_ _; rotate_left; focus (first | exact hs2 | exact Nat.le_trans hs2 hbw.size | omega | (simp; omega))) | (with_reducible refine Below.setCell ?_ ?_ _; rotate_left; focus (simp; omega)))))
      ((refine step_append_list (enc := Value.int .i64) (e := 3) rfl (.tmp 35) (.tmp 37) 25 rfl W2.heap.size i1 (.int .i64 0) 8 Try.underlying25 hi1 hzB0 hzB1 hzB2 rfl (Value.slice (some ⟨_, 0, none⟩) 1 1) [o0] rfl (by repeat (first | with_reducible apply has_drew | ((with_reducible refine has_lit1 (enc := Value.int .i64) _ ?_ ?_) <;> (first | rfl | exact Nat.le_refl _ | omega | (simp; done) | (simp; omega))) | with_reducible apply has_alloc)) (Value.slice (some ⟨po, oo, none⟩) out.length co) out rfl (by repeat (first | with_reducible exact HOW.out | with_reducible apply lies_drew | with_reducible apply lies_alloc)) (fun _ _ => rfl) HOLL.out.1 HOLL.out.2 (by simp <;> omega) ?_; intro vo w1 ho hg; obtain ⟨av, cv, hvf, _⟩ := ho.form; rw [show ([o0] ++ out).length = out.length + 1 from by simp] at hvf; subst hvf; rw [List.singleton_append] at ho; refine with_fact (T := W2.grownBy w1 (some W2.heap.size) ∨ W2.grownBy w1 (some (W2.heap.size + 1))) ?_ ?_; (focus (first | exact Or.inl (grown_alloc (grown_drew hg)) | exact Or.inl (grown_alloc (grown_alloc (grown_drew hg))) | exact Or.inr (grown_alloc (grown_alloc (grown_drew hg))))); intro hgW; have hbw : Below (w.heap.size + 2) W2 w1 := grown_below2 hgW hs2; (first | (refine with_fact (T := Cells3 w1 (W2.heap.size) 27 (.int .i64 0) (.slice none 0 0) (.slice none 0 0)) ?_ ?_; (refine Cells3.grown ?_ hg ?_; (focus ((repeat (first | with_reducible apply c3_drew | ((with_reducible refine c3_new' ?_) <;> (first | rfl | (simp; done))) | with_reducible apply Cells3.alloc)); done)); (focus (simp [Value.ownBlock]; done))); intro hZ1; have q0 := hZ1.c0; have q1 := hZ1.c1; have q2 := hZ1.c2; have q3 := hZ1.f) | (refine with_fact (T := Cells3 w1 (W2.heap.size + 1) 27 (.int .i64 0) (.slice none 0 0) (.slice none 0 0)) ?_ ?_; (refine Cells3.grown ?_ hg ?_; (focus ((repeat (first | with_reducible apply c3_drew | ((with_reducible refine c3_new' ?_) <;> (first | rfl | (simp; done))) | with_reducible apply Cells3.alloc)); done)); (focus (simp [Value.ownBlock]; done))); intro hZ1; have q0 := hZ1.c0; have q1 := hZ1.c1; have q2 := hZ1.c2; have q3 := hZ1.f) | skip)))
    all_goals
      have HA1 := Lib.hid (c3_of_below hbw hA2.out (by omega))
      have HZ1 := Lib.hid (c3_of_below hbw hZ2.out (by omega))
      have HB1 := Lib.hid (HB2.out.trans (hbw.mono (by omega)))
      have HS1 := Lib.hid (Nat.le_trans hs2 hbw.size)
      have HS2 := Lib.hid hbw.size
      have HO1 := Lib.hid ((own_of_has ho).mono hs2 (Nat.le_refl _) (Nat.le_refl _))
      clear hgW hg ho hbw
    · go_wp2_with fail
      go_meet
      refine ⟨_, _, rfl, ⟨HS1.out, ?_⟩, c3_new' rfl, (HO1.out.below ((Below.refl _ _).alloc (Nat.le_refl _) _)).mono (Nat.le_refl _) (by simp) (Nat.le_refl _), HA1.out.alloc _, HZ1.out.alloc _, HB1.out.alloc HB1.out.size _⟩
      simp
    all_goals
      have HC1 := Lib.hid hZ1
      have HNE := Lib.hid (has_ne_c3 HO1.out.has hZ1 (by decide))
      clear hZ1 q0 q1 q2 q3
      go_wp2_with fail
      go_meet
      refine ⟨_, _, rfl, ⟨by omega, by simpa [World.setCell] using HC1.out.lt⟩, ((HC1.out.set0 _).set1 _).set2 _, (((HO1.out.set HNE.out _).set HNE.out _).set HNE.out _).mono (Nat.le_refl _) (by simp [World.setCell]) (Nat.le_refl _), ((HA1.out.other ?_ _).other ?_ _).other ?_ _, ((HZ1.out.other ?_ _).other ?_ _).other ?_ _, ((HB1.out.setCell ?_ _).setCell ?_ _).setCell ?_ _⟩
      all_goals first | (show W2.heap.size ≠ _; omega) | (show W2.heap.size + 1 ≠ _; omega) | (show _ ≤ W2.heap.size; omega) | (show _ ≤ W2.heap.size + 1; omega)
  case rest =>
    obtain ⟨p, vo, rfl, hp, hC, hO, hA, hZ, hB⟩ := hcut
    obtain ⟨W5, rfl⟩ : ∃ W, W = wc := ⟨_, rfl⟩
    have hR0 := HROW.out 0 r0 HR0.out
    have hr0l : r0.length = bn := by omega
    obtain ⟨pa, off, rfl⟩ : ∃ pa off, an = some ⟨pa, off, none⟩ := by
      obtain ⟨a, cap, hv, _, hc⟩ := HN.out.row
      obtain ⟨b', o', u', h1, _⟩ := hc 0 r0 HR0.out
      injection hv with e1 e2 e3
      exact ⟨b', o', by rw [e1, h1]⟩
    obtain ⟨q0, s0, c0, hcell0, hrow0, hpa, hq0⟩ := row_at HN.out HR0.out (by omega)
    rw [Nat.add_zero] at hcell0
    have HCE0 := Lib.hid hcell0
    have HRO0 := Lib.hid hrow0
    have HX0 := Lib.hid hR0.2
    have hp1 := hp.out.1
    have hp2 := hp.out.2
    have hM2 : w.heap.size + 2 ≤ W5.heap.size := by omega
    have hl0 : 0 < rows.length := hr1
    clear hR0 hcell0 hrow0 hp hr1
    have k0 := hA.out.c0
    have k1 := hA.out.c1
    have k2 := hA.out.c2
    go_wp2_with fail
    have HV5 : Hid (Has (Value.int .i64) 3 (W5.alloc (Obj.cells #[Value.int .i64 0] 3)) W5.heap.size (.slice (some ⟨W5.heap.size, 0, none⟩) 1 1) (0 :: raise ((r0.drop 1).take (1 - 1)))) := has_lit1 (enc := Value.int .i64) 0 rfl (Nat.le_refl _)
    have HB5 : Hid (Below W5.heap.size W5 (W5.alloc (Obj.cells #[Value.int .i64 0] 3))) := below_allocs (Below.refl _ _)
    clear k0 k1 k2
    go_loopw [5, 6] (fun t5 t6 wr => ∃ n : Nat, 1 ≤ n ∧ n ≤ bn ∧ t6 = .int .i64 n ∧ Hid (Has (Value.int .i64) 3 wr W5.heap.size t5 (0 :: raise ((r0.drop 1).take (n - 1)))) ∧ Hid (Below W5.heap.size W5 wr)) (fun _ t6 _ => bn - (intOf t6).toNat)
    case atStart => exact ⟨1, by omega, by omega, rfl, HV5, HB5⟩
    case round =>
      clear HV5 HB5
      obtain ⟨n, hn1, hnb, rfl, hown, hbel⟩ := hrel
      obtain ⟨wo, rfl⟩ : ∃ wo : World, wo = wr := ⟨_, rfl⟩
      have hA' := c3_of_below hbel.out hA.out (by omega)
      have hBw := Lib.hid (hB.out.trans (hbel.out.mono (by omega)))
      have k0 := hA'.c0
      have k1 := hA'.c1
      have k2 := hA'.c2
      by_cases hlt : n < bn
      · obtain ⟨x, hx⟩ : ∃ x, r0[n]? = some x := ⟨_, List.getElem?_eq_getElem (by omega)⟩
        have hxb := HX0.out x (List.mem_of_getElem? hx)
        have hx0 : 0 ≤ x := hxb.1
        have hx1 : x < 16 := by omega
        have c1 : wo.cell? ⟨pa, off, none⟩ = some (.slice (some ⟨q0, s0, none⟩) r0.length c0) := (hBw.out.cell (p := ⟨pa, off, none⟩) hpa).trans HCE0.out
        have c2 : wo.cell? ⟨q0, s0 + n, none⟩ = some (.int .i64 x) := (hBw.out.cell (p := ⟨q0, s0 + n, none⟩) hq0).trans (HRO0.out n x hx)
        have HSN := Lib.hid (show raise ((r0.drop 1).take (n + 1 - 1)) = raise ((r0.drop 1).take (n - 1)) ++ [x + 1] from by
          have h1 := raise_snoc (r0.drop 1) (n - 1) x (by rw [List.getElem?_drop, show 1 + (n - 1) = n from by omega]; exact hx)
          rw [show n - 1 + 1 = n + 1 - 1 from by omega] at h1
          exact h1)
        have HLN := Lib.hid (show ((0 :: raise ((r0.drop 1).take (n - 1))).length + 1) * 8 ≤ 140737488355328 ∧ (0 :: raise ((r0.drop 1).take (n - 1))).length + 1 ≤ 9223372036854775807 from by
          have : (raise ((r0.drop 1).take (n - 1))).length ≤ n - 1 := by rw [raise_len, List.length_take]; omega
          simp only [List.length_cons]
          omega)
        have hnl : n < r0.length := by omega
        clear hx hxb hA'
        go_wp2_with (at_builtin; refine wpList_append_list (enc := Value.int .i64) (e := 3) rfl (.tmp 47) (.tmp 56) 25 rfl W5.heap.size i1 (.int .i64 0) 8 Try.underlying25 hi1 hzB0 hzB1 hzB2 rfl u5 (0 :: raise ((r0.drop 1).take (n - 1))) rfl (has_alloc hown.out _) (Value.slice (some ⟨_, 0, none⟩) 1 1) [x + 1] rfl (lies_lit1 (enc := Value.int .i64) _ rfl) (fun _ _ => rfl) HLN.out.1 HLN.out.2 (by have := hbel.out.size; simp; omega) ?_; intro v5 w2 ho2 hg2 hb2)
        have HB2 := Lib.hid (hbel.out.grown (grown_alloc hg2) hbel.out.size (fun k hk => (hown.out.lt k hk).1))
        have HO2 : Hid (Has (Value.int .i64) 3 w2 W5.heap.size v5 (0 :: raise ((r0.drop 1).take (n + 1 - 1)))) := by
          show Has _ _ _ _ _ _
          rw [HSN.out]
          exact ho2
        clear ho2 hg2 hb2 k0 k1 k2 c1 c2
        go_wp2
        go_roundw
        case rel => exact ⟨n + 1, by omega, by omega, by go_num, HO2, HB2⟩
        case measure => simp [intOf]; omega
      · obtain rfl : n = bn := by omega
        have HV5 : Hid (Has (Value.int .i64) 3 wo W5.heap.size u5 (0 :: raise (r0.drop 1))) := by
          have := hown.out
          rw [show (r0.drop 1).take (n - 1) = r0.drop 1 from List.take_of_length_le (by rw [List.length_drop]; omega)] at this
          exact this
        clear hown
        obtain ⟨a5, c5, hv5, _⟩ := HV5.out.form
        rw [show (0 :: raise (r0.drop 1)).length = n from by rw [List.length_cons, raise_len, List.length_drop]; omega] at hv5
        subst hv5
        have hCo := hC.out.below hbel.out
        have c1 := hCo.c1
        have HCo := Lib.hid hCo
        have HVo := Lib.hid (hO.out.below hbel.out)
        have HZo := Lib.hid (c3_of_below hbel.out hZ.out (by omega))
        have HAo := Lib.hid hA'
        have hso := hbel.out.size
        clear hC hO hA hZ hB hA' hCo hbel hlt hn1 hnb
        go_wp2_with (at_builtin; refine wpList_append_list (enc := id) (e := 25) rfl (.tmp 59) (.tmp 61) 24 rfl W5.heap.size i0 (.slice none 0 0) 24 Try.underlying24 hi hzA0 hzA1 hzA2 rfl (.slice none 0 0) [] rfl (World.ownsRow_nil _ _ _ _) (Value.slice (some ⟨_, 0, none⟩) 1 1) [.slice a5 n c5] rfl (lies_lit1v _ rfl) (fun y hy => by simp at hy; subst hy; rfl) (by simp) (by simp) (by simp; omega) ?_; intro vt w2 ho2 hg2 hb2; rw [List.nil_append] at ho2; obtain ⟨at2, ct2, rfl, _⟩ := ho2.form; have hg3 := grown_alloc hg2; have hc2 := HCo.out.grown hg3 (by simp [Value.ownBlock]); have r1 := hc2.c1; have r3 := hc2.f)
        have HB2 : Hid (Below W5.heap.size wo w2) := (Below.refl W5.heap.size wo).grown hg3 hso (fun k hk => by cases hk)
        have HB2' : Hid (Below wo.heap.size wo w2) := (Below.refl wo.heap.size wo).grown hg3 (Nat.le_refl _) (fun k hk => by cases hk)
        obtain ⟨W7, hW7⟩ : ∃ W, W = w2.setCell ⟨p, 1, none⟩ (.slice at2 1 ct2) := ⟨_, rfl⟩
        have HNE := Lib.hid (has_ne_c3 ho2 hc2 (by decide))
        have HN7 := Lib.hid (ho2.set (a := ⟨p, 1, none⟩) HNE.out (.slice at2 1 ct2))
        have HI5 := Lib.hid ((own_of_has HV5.out).below HB2'.out)
        have HIN := Lib.hid (has_ne_c3 HI5.out.has hc2 (by decide))
        have HR7 : Hid (OwnRows (w2.setCell ⟨p, 1, none⟩ (.slice at2 1 ct2)) W5.heap.size (w2.setCell ⟨p, 1, none⟩ (.slice at2 1 ct2)).heap.size [.slice a5 n c5] ((0 :: raise (r0.drop 1)) :: (rows.take 0).map raise)) :=
          OwnRows.one (((HI5.out.set (a := ⟨p, 1, none⟩) HIN.out (.slice at2 1 ct2))).mono (Nat.le_refl _) (by simpa [World.setCell] using HB2'.out.size) (Nat.le_refl _))
        have HC7 := Lib.hid (hc2.set1 (.slice at2 1 ct2))
        have HO7 := Lib.hid ((HVo.out.touch (Plain.Touch.of_grown_none hg3) (.inr (Nat.zero_le _))))
        have HO7' := Lib.hid (HO7.out.set (a := ⟨p, 1, none⟩) (has_ne_c3 HO7.out.has hc2 (by decide)) (.slice at2 1 ct2))
        have HA7 := Lib.hid ((c3_of_below HB2.out HAo.out (by omega)).other (a := ⟨p, 1, none⟩) (by show p ≠ _; omega) (.slice at2 1 ct2))
        have HZ7 := Lib.hid ((c3_of_below HB2.out HZo.out (by omega)).other (a := ⟨p, 1, none⟩) (by show p ≠ _; omega) (.slice at2 1 ct2))
        have HB7 := Lib.hid ((hBw.out.trans (HB2.out.mono (by omega))).setCell (p := ⟨p, 1, none⟩) (by show _ ≤ p; omega) (.slice at2 1 ct2))
        have HS7 : Hid (W5.heap.size ≤ (w2.setCell ⟨p, 1, none⟩ (.slice at2 1 ct2)).heap.size) := by
          have := HB2.out.size
          show _ ≤ _
          simp only [size_setCell']
          omega
        rw [← hW7] at HN7 HR7 HC7 HO7' HA7 HZ7 HB7 HS7
        clear ho2 hg2 hb2 hg3 hc2 r1 r3 HB2 HB2' HNE HI5 HIN HO7 HVo HZo HAo HCo HV5 c1 k0 k1 k2 hso hBw
        go_wp2_with fail
        rw [← hW7]
        clear hW7
        go_loopw [7] (fun t7 wr => ∃ (i : Nat) (us : List Value) (vn : Value), i ≤ rows.length ∧ t7 = .int .i64 i ∧ Hid (Has id 25 wr W5.heap.size vn us) ∧ Hid (OwnRows wr W5.heap.size wr.heap.size us ((0 :: raise (r0.drop 1)) :: (rows.take i).map raise)) ∧ Hid (Cells3 wr p 27 (.int .i64 n) vn vo) ∧ Hid (OwnI wr (w.heap.size + 2) W5.heap.size vo (o0 :: out)) ∧ Hid (Cells3 wr w.heap.size 27 (.int .i64 n) (.slice (some ⟨pa, off, none⟩) rows.length cn) (.slice (some ⟨po, oo, none⟩) out.length co)) ∧ Hid (Cells3 wr (w.heap.size + 1) 27 (.int .i64 0) (.slice none 0 0) (.slice none 0 0)) ∧ Hid (Below w.heap.size w wr) ∧ Hid (W5.heap.size ≤ wr.heap.size)) (fun t7 _ => rows.length - (intOf t7).toNat)
        case atStart => exact ⟨0, [_], _, Nat.zero_le _, rfl, HN7, HR7, HC7, HO7', HA7, HZ7, HB7, HS7⟩
        case round =>
          clear HN7 HR7 HC7 HO7' HA7 HZ7 HB7 HS7
          obtain ⟨i, us, vn, hile, rfl, hN, hR, hC, hO, hA, hZ, hB, hS⟩ := hrel
          obtain ⟨wq, rfl⟩ : ∃ wq : World, wq = wr := ⟨_, rfl⟩
          have k0 := hA.out.c0
          have k1 := hA.out.c1
          have k2 := hA.out.c2
          by_cases hlt : i < rows.length
          · obtain ⟨r, hr⟩ : ∃ r, rows[i]? = some r := ⟨_, List.getElem?_eq_getElem hlt⟩
            have hrb := HROW.out i r hr
            have hrl : r.length = n := by omega
            obtain ⟨q, s, c, hcell, hrow, _, hq⟩ := row_at HN.out hr (by omega)
            have HX := Lib.hid hrb.2
            have HCE := Lib.hid hcell
            have HRO := Lib.hid hrow
            have HT := Lib.hid (show rows.take (i + 1) = rows.take i ++ [r] from by
              obtain ⟨h1, rfl⟩ := List.getElem?_eq_some_iff.1 hr
              exact List.take_succ_eq_append_getElem h1)
            have hws := hS.out
            clear hr hrb hcell hrow
            go_wp2_with fail
            have HV8 : Hid (Has (Value.int .i64) 3 (wq.alloc (Obj.cells #[] 3)) wq.heap.size (.slice (some ⟨wq.heap.size, 0, none⟩) 0 0) (raise (r.take 0))) := has_lit0 rfl (Nat.le_refl _)
            have HB8 : Hid (Below wq.heap.size wq (wq.alloc (Obj.cells #[] 3))) := below_allocs (Below.refl _ _)
            clear k0 k1 k2
            go_loopw [8, 9] (fun t8 t9 wi => ∃ k : Nat, k ≤ n ∧ t9 = .int .i64 k ∧ Hid (Has (Value.int .i64) 3 wi wq.heap.size t8 (raise (r.take k))) ∧ Hid (Below wq.heap.size wq wi)) (fun _ t9 _ => n - (intOf t9).toNat)
            case atStart => exact ⟨0, by omega, rfl, HV8, HB8⟩
            case round =>
              clear HV8 HB8
              obtain ⟨k, hkn, rfl, hown, hbel⟩ := hrel
              obtain ⟨wi', rfl⟩ : ∃ wi' : World, wi' = wr := ⟨_, rfl⟩
              have hA' := c3_of_below hbel.out hA.out (by omega)
              have hBw := Lib.hid (hB.out.trans (hbel.out.mono (by omega)))
              have k0 := hA'.c0
              have k1 := hA'.c1
              have k2 := hA'.c2
              by_cases hkl : k < n
              · obtain ⟨x, hx⟩ : ∃ x, r[k]? = some x := ⟨_, List.getElem?_eq_getElem (by omega)⟩
                have hxb := HX.out x (List.mem_of_getElem? hx)
                have hx0 : 0 ≤ x := hxb.1
                have hx1 : x < 16 := by omega
                have c1 : wi'.cell? ⟨pa, off + i, none⟩ = some (.slice (some ⟨q, s, none⟩) r.length c) := (hBw.out.cell (p := ⟨pa, off + i, none⟩) hpa).trans HCE.out
                have c2 : wi'.cell? ⟨q, s + k, none⟩ = some (.int .i64 x) := (hBw.out.cell (p := ⟨q, s + k, none⟩) hq).trans (HRO.out k x hx)
                have HSN := Lib.hid (raise_snoc r k x hx)
                have HLN := Lib.hid (show ((raise (r.take k)).length + 1) * 8 ≤ 140737488355328 ∧ (raise (r.take k)).length + 1 ≤ 9223372036854775807 from by
                  have : (raise (r.take k)).length ≤ k := by rw [raise_len, List.length_take]; omega
                  omega)
                have hnl : k < r.length := by omega
                clear hx hxb hA'
                go_wp2_with (at_builtin; refine wpList_append_list (enc := Value.int .i64) (e := 3) rfl (.tmp 78) (.tmp 88) 25 rfl wq.heap.size i1 (.int .i64 0) 8 Try.underlying25 hi1 hzB0 hzB1 hzB2 rfl u8 (raise (r.take k)) rfl (has_alloc hown.out _) (Value.slice (some ⟨_, 0, none⟩) 1 1) [x + 1] rfl (lies_lit1 (enc := Value.int .i64) _ rfl) (fun _ _ => rfl) HLN.out.1 HLN.out.2 (by have := hbel.out.size; simp; omega) ?_; intro v8 w2 ho2 hg2 hb2)
                have HB2 := Lib.hid (hbel.out.grown (grown_alloc hg2) hbel.out.size (fun k hk => (hown.out.lt k hk).1))
                have HO2 : Hid (Has (Value.int .i64) 3 w2 wq.heap.size v8 (raise (r.take (k + 1)))) := by
                  show Has _ _ _ _ _ _
                  rw [HSN.out]
                  exact ho2
                clear ho2 hg2 hb2 k0 k1 k2 c1 c2
                go_wp2
                go_roundw
                case rel => exact ⟨k + 1, by omega, by go_num, HO2, HB2⟩
                case measure => simp [intOf]; omega
              · obtain rfl : k = n := by omega
                have HV8 : Hid (Has (Value.int .i64) 3 wi' wq.heap.size u8 (raise r)) := by
                  have := hown.out
                  rw [show r.take k = r from List.take_of_length_le (by omega)] at this
                  exact this
                clear hown
                obtain ⟨a8, c8, hv8, _⟩ := HV8.out.form
                rw [show (raise r).length = k from by rw [raise_len]; exact hrl] at hv8
                subst hv8
                have hCo := hC.out.below hbel.out
                have c1 := hCo.c1
                have HCo := Lib.hid hCo
                have hno := hN.out.below hbel.out
                have HNo := Lib.hid hno
                have hul : us.length = i + 1 := by
                  have := hR.out.len
                  simp at this
                  omega
                have HUL := Lib.hid hul
                have HUS := Lib.hid (show (us.length + 1) * 24 ≤ 140737488355328 ∧ us.length + 1 ≤ 9223372036854775807 by omega)
                have hso := hbel.out.size
                clear hCo hno hul
                go_wp2_with (at_builtin; refine wpList_append_list (enc := id) (e := 25) rfl (.tmp 91) (.tmp 93) 24 rfl W5.heap.size i0 (.slice none 0 0) 24 Try.underlying24 hi hzA0 hzA1 hzA2 rfl vn us rfl (has_alloc HNo.out _) (Value.slice (some ⟨_, 0, none⟩) 1 1) [.slice a8 k c8] rfl (lies_lit1v _ rfl) (fun y hy => by simp at hy; subst hy; rfl) HUS.out.1 HUS.out.2 (by simp; omega) ?_; intro vt w2 ho2 hg2 hb2; obtain ⟨at2, ct2, hvf, _⟩ := ho2.form; rw [show (us ++ [Value.slice a8 k c8]).length = us.length + 1 from by simp] at hvf; subst hvf; have hg3 := grown_alloc hg2; have hc2 := HCo.out.grown hg3 (has_ne_c3 HNo.out HCo.out (by decide)); have r1 := hc2.c1; have r3 := hc2.f)
                have HB2 := Lib.hid ((Below.refl W5.heap.size wi').grown hg3 (by omega) (fun k hk => (HNo.out.lt k hk).1))
                have HC2 := Lib.hid hc2
                have HNT := Lib.hid (has_ne_c3 ho2 hc2 (by decide))
                have HT2 := Lib.hid ho2
                have HR1 : Hid (OwnRows wi' W5.heap.size wi'.heap.size (us ++ [Value.slice a8 k c8]) ((0 :: raise (r0.drop 1)) :: (rows.take (i + 1)).map raise)) := by
                  have h2 := (hR.out.below hbel.out).snoc (own_of_has HV8.out) hws hso
                  rw [HT.out, List.map_append]
                  exact h2
                have HR2 := Lib.hid ((HR1.out.top_grown HNo.out hg3).mono hg3.size (Nat.le_refl _))
                have HRN := Lib.hid (HR2.out.ne_c3 hc2 (by decide))
                have HO2 := Lib.hid ((hO.out.below hbel.out).grown hg3 (fun k hk => .inr (HNo.out.lt k hk).1))
                have HON := Lib.hid (has_ne_c3 HO2.out.has hc2 (by decide))
                have HBW := Lib.hid (Below.trans (hbel.out.mono hws) HB2.out)
                have hsz := hg3.size
                clear ho2 hg2 hb2 hg3 hc2 r1 r3 c1 k0 k1 k2 hA'
                go_roundw
                case rel =>
                  refine ⟨i + 1, us ++ [Value.slice a8 k c8], Value.slice at2 (us.length + 1) ct2, by omega, by go_num, HT2.out.set (a := ⟨p, 1, none⟩) HNT.out (.slice at2 (us.length + 1) ct2), ?_, HC2.out.set1 (.slice at2 (us.length + 1) ct2), HO2.out.set (a := ⟨p, 1, none⟩) HON.out (.slice at2 (us.length + 1) ct2), (c3_of_below HBW.out hA.out (by omega)).other (by show p ≠ _; omega) _, (c3_of_below HBW.out hZ.out (by omega)).other (by show p ≠ _; omega) _, (hB.out.trans (HBW.out.mono (by omega))).setCell (by show _ ≤ p; omega) _, ?_⟩
                  · have := HR2.out.set (a := ⟨p, 1, none⟩) HRN.out (.slice at2 (us.length + 1) ct2)
                    show OwnRows _ _ _ _ _
                    simpa only [size_setCell'] using this
                  · show _ ≤ _
                    simp only [size_setCell']
                    omega
                case measure => simp [intOf]; omega
          · obtain rfl : i = rows.length := by omega
            have hus : us.length = (steadyRows rows).length := by
              have := hR.out.len
              rw [HSR.out]
              simp at this ⊢
              omega
            have hol : (o0 :: out).length = (steadyOut out).length := by rw [HSO.out]
            have HE : Hid (OwnR wq W5.heap.size wq.heap.size vn us (steadyRows rows)) := by
              have h1 := hR.out
              rw [List.take_length] at h1
              rw [HSR.out]
              exact ⟨hN.out, fun k hk => (hN.out.lt k hk).2, Nat.le_refl _, h1⟩
            have HEO : Hid (OwnI wq (w.heap.size + 2) W5.heap.size vo (steadyOut out)) := by
              rw [HSO.out]
              exact hO.out
            obtain ⟨an1, cn1, hv1, _⟩ := hN.out.form
            obtain ⟨ao1, co1, hv2⟩ := hO.out.form
            rw [hus] at hv1
            rw [hol] at hv2
            subst hv1; subst hv2
            have p0 := hC.out.c0
            have p1 := hC.out.c1
            have p2 := hC.out.c2
            have p3 := hC.out.f
            have z0 := hZ.out.c0
            have z1 := hZ.out.c1
            have z2 := hZ.out.c2
            have z3 := hZ.out.f
            clear hus hol hR hN hO
            go_wp2
            have hZ3 := (((hZ.out.set0 (.int .i64 n)).set1 (.slice an1 (steadyRows rows).length cn1)).set2 (.slice ao1 (steadyOut out).length co1))
            have m0 := hZ3.c0
            have m1 := hZ3.c1
            have m2 := hZ3.c2
            refine bodyPost_ret (v := .tuple #[.agg #[.int .i64 n, .slice an1 (steadyRows rows).length cn1, .slice ao1 (steadyOut out).length co1], .bool true]) (by simp [results, Try.results40, go_sem, m0, m1, m2]) rfl ⟨_, rfl, ?_, ?_⟩
            · have T0 : Plain.Touch w.heap.size (w.heap.size + 2) wq (((wq.setCell ⟨w.heap.size + 1, 0, none⟩ (.int .i64 n)).setCell ⟨w.heap.size + 1, 1, none⟩ (.slice an1 (steadyRows rows).length cn1)).setCell ⟨w.heap.size + 1, 2, none⟩ (.slice ao1 (steadyOut out).length co1)) :=
                ((Plain.Touch.of_set _ (by show _ ≤ _ + 1; omega) (by show _ + 1 < _; omega)).trans (Plain.Touch.of_set _ (by show _ ≤ _ + 1; omega) (by show _ + 1 < _; omega))).trans (Plain.Touch.of_set _ (by show _ ≤ _ + 1; omega) (by show _ + 1 < _; omega))
              have hS1 : OwnS wq (w.heap.size + 2) wq.heap.size (.agg #[.int .i64 n, .slice an1 (steadyRows rows).length cn1, .slice ao1 (steadyOut out).length co1]) n (steadyRows rows) (steadyOut out) := OwnS.make_out HEO.out HE.out (Nat.le_refl _) hM2 hS.out
              have := (hS1.touch T0 (.inr (Nat.le_refl _))).lower (show w.heap.size ≤ w.heap.size + 2 by omega)
              simpa only [size_setCell'] using this
            · exact ((hB.out.setCell (by show _ ≤ _ + 1; omega) _).setCell (by show _ ≤ _ + 1; omega) _).setCell (by show _ ≤ _ + 1; omega) _

end Seqs
end Go.Proofs.Ytdgfecjakmdheaa
/- Contracts of SteadyForm, of the program and of the model, at every sequence that may be copied. No conditions beyond those that each states. -/
namespace Go.Proofs.Ytdgfecjakmdheaa
open Go.ChangeShapes Go.WideShapes Go.ChangeAt Go.RowKit
open Go.PlainAid Plain
set_option linter.unusedVariables false
namespace Seqs
theorem form_parts (b : Int) (rows : List (List Int)) (out : List Int) :
    (steadyB b rows out = true ∧ formK b rows out = true ∧ formB b rows out = b ∧ formR b rows out = rows ∧ formO b rows out = out) ∨
    (formK b rows out = false ∧ formB b rows out = 0 ∧ formR b rows out = [] ∧ formO b rows out = []) ∨
    (seqB b rows out = true ∧ steadyB b rows out = false ∧ rows.length < 16 ∧ formK b rows out = true ∧ formB b rows out = b ∧ formR b rows out = steadyRows rows ∧ formO b rows out = steadyOut out) := by
  cases hs : steadyB b rows out with
  | true =>
    have hk : formK b rows out = true := by simp [formK, hs]
    exact .inl ⟨rfl, hk, by simp [formB, hk], by simp [formR, hs], by simp [formO, hs]⟩
  | false =>
    cases hk : formK b rows out with
    | false => exact .inr (.inl ⟨rfl, by simp [formB, hk], by simp [formR, hs, hk], by simp [formO, hs, hk]⟩)
    | true =>
      have h1 := hk
      simp only [formK, hs, Bool.false_or, Bool.and_eq_true, decide_eq_true_eq] at h1
      exact .inr (.inr ⟨h1.1, rfl, h1.2, rfl, by simp [formB, hk], by simp [formR, hs, hk], by simp [formO, hs, hk]⟩)
theorem tot_le4 : ∀ rows : List (List Int), (∀ r ∈ rows, r.length ≤ 4) → tot rows ≤ 4 * rows.length
  | [], _ => by simp [tot]
  | r :: rows, h => by
    have h1 := tot_le4 rows (fun x hx => h x (by simp [hx]))
    have h2 := h r (by simp)
    have h3 : tot (r :: rows) = r.length + tot rows := by simp [tot]
    rw [h3, List.length_cons]
    omega
theorem seq_rows4 {b : Int} {rows : List (List Int)} {out : List Int} (h : seqB b rows out = true) : (∀ r ∈ rows, r.length ≤ 4) ∧ rows.length ≤ 16 ∧ out.length ≤ 16 := by
  have hv := seqB_out h
  refine ⟨fun r hr => ?_, hv.2.2.2.1, by have := hv.2.2.2.1; have := hv.2.2.2.2.1; omega⟩
  have := (hv.2.2.2.2.2.1 r hr).1
  have := hv.2.1
  omega
theorem form_size (b : Int) (rows : List (List Int)) (out : List Int) : tot (formR b rows out) + (formO b rows out).length ≤ 1000 := by
  rcases form_parts b rows out with ⟨hs, _, _, hr, ho⟩ | ⟨_, _, hr, ho⟩ | ⟨hq, _, hl, _, _, hr, ho⟩
  · rw [hr, ho]
    have hq : seqB b rows out = true := by rw [steadyB, Bool.and_eq_true] at hs; exact hs.1
    have h1 := seq_rows4 hq
    have h2 := tot_le4 rows h1.1
    omega
  · rw [hr, ho]
    simp [tot]
  · rw [hr, ho]
    have h1 := seq_rows4 hq
    have h0 : (rows.getD 0 []).length ≤ 4 := by
      cases rows with
      | nil => simp
      | cons r l => simpa using h1.1 r (by simp)
    have h2 : tot (steadyRows rows) ≤ 4 * (steadyRows rows).length := tot_le4 _ (fun r hr => by
      simp only [steadyRows, List.mem_cons, List.mem_map] at hr
      rcases hr with rfl | ⟨x, hx, rfl⟩
      · have hv := seqB_out hq
        have h5 := hv.1
        have h6 := hv.2.2.1
        have h7 : 1 ≤ (rows.getD 0 []).length := by
          cases rows with
          | nil => simp at h6
          | cons r l =>
            have := (hv.2.2.2.2.2.1 r (by simp)).1
            simp
            omega
        rw [List.length_cons, raise_len, List.length_drop]
        omega
      · rw [raise_len]
        exact h1.1 x hx)
    have h3 : (steadyRows rows).length = rows.length + 1 := by simp [steadyRows]
    have h4 : (steadyOut out).length = out.length + 1 := by simp [steadyOut]
    omega
theorem spec_form (v : Value) (b : Int) (rows : List (List Int)) (out : List Int) (w : World) (h : LiesS w v b rows out) (hs : rows.length + tot rows + out.length ≤ 1048576) :
    Calls Try.prog 40 #[v] w (GivesK (formB b rows out) (formR b rows out) (formO b rows out) (formK b rows out) w) := by
  rcases form_parts b rows out with ⟨h1, h2, h3, h4, h5⟩ | ⟨h2, h3, h4, h5⟩ | ⟨hq, h1, hl, h2, h3, h4, h5⟩
  · rw [h2, h3, h4, h5]
    exact spec_form_same v b rows out w h h1 hs
  · rw [h2, h3, h4, h5]
    exact spec_form_no v b rows out w h h2
  · rw [h2, h3, h4, h5]
    exact spec_form_make v b rows out w h hq h1 hl
theorem impl_form (v : Value) (b : Int) (rows : List (List Int)) (out : List Int) (w : World) (h : LiesS w v b rows out) (hs : rows.length + tot rows + out.length ≤ 1048576) :
    Calls Try.prog 38 #[v] w (GivesK (formB b rows out) (formR b rows out) (formO b rows out) (formK b rows out) w) := by
  rcases form_parts b rows out with ⟨h1, h2, h3, h4, h5⟩ | ⟨h2, h3, h4, h5⟩ | ⟨hq, h1, hl, h2, h3, h4, h5⟩
  · rw [h2, h3, h4, h5]
    exact impl_form_same v b rows out w h h1 hs
  · rw [h2, h3, h4, h5]
    exact impl_form_no v b rows out w h h2
  · rw [h2, h3, h4, h5]
    exact impl_form_make v b rows out w h hq h1 hl hs
end Seqs
end Go.Proofs.Ytdgfecjakmdheaa
/- Prepared and minimal forms keep the shape of a sequence. No conditions beyond those that each states. -/
namespace Go.Proofs.Ytdgfecjakmdheaa
open Go.ChangeShapes Go.WideShapes Go.ChangeAt Go.RowKit
open Go.PlainAid Plain
set_option linter.unusedVariables false
namespace Mins
open Seqs
theorem raise_mem {r : List Int} {y : Int} (h : y ∈ raise r) : ∃ x ∈ r, y = x + 1 := by
  obtain ⟨x, hx, rfl⟩ := List.mem_map.1 h
  exact ⟨x, hx, rfl⟩
theorem steady_valid {b : Int} {rows : List (List Int)} {out : List Int} (hv : IsSeq b rows out) (hl : rows.length < 16) : IsSeq b (steadyRows rows) (steadyOut out) := by
  have h1 := hv.2.2.1
  have h5 := hv.2.2.2.2.1
  have h0 : rows.getD 0 [] ∈ rows := by
    rw [List.getD_eq_getElem?_getD, List.getElem?_eq_getElem (show 0 < rows.length by omega)]
    exact List.getElem_mem _
  have hb0 := hv.2.2.2.2.2.1 _ h0
  have hlen : (steadyRows rows).length = rows.length + 1 := by simp [steadyRows]
  have b2 := hv.1
  refine ⟨hv.1, hv.2.1, by omega, by omega, by rw [hlen]; simp [steadyOut]; omega, fun r hr => ?_, fun x hx => ?_⟩
  · rw [hlen]
    simp only [steadyRows, List.mem_cons, List.mem_map] at hr
    rcases hr with rfl | ⟨q, hq, rfl⟩
    · refine ⟨?_, fun x hx => ?_⟩
      · rw [List.length_cons, raise_len, List.length_drop]
        omega
      · rw [List.mem_cons] at hx
        rcases hx with rfl | hx
        · omega
        · obtain ⟨y, hy, rfl⟩ := raise_mem hx
          have := hb0.2 y (List.mem_of_mem_drop hy)
          omega
    · have hq' := hv.2.2.2.2.2.1 q hq
      refine ⟨by rw [raise_len]; exact hq'.1, fun x hx => ?_⟩
      obtain ⟨y, hy, rfl⟩ := raise_mem hx
      have := hq'.2 y hy
      omega
  · simp only [steadyOut, List.mem_cons] at hx
    rcases hx with rfl | hx
    · exact hv.2.2.2.2.2.2 _ (by
        rw [List.getD_eq_getElem?_getD, List.getElem?_eq_getElem (show 0 < out.length by omega)]
        exact List.getElem_mem _)
    · exact hv.2.2.2.2.2.2 x hx
theorem form_valid {b : Int} {rows : List (List Int)} {out : List Int} (h : formK b rows out = true) : IsSeq (formB b rows out) (formR b rows out) (formO b rows out) := by
  rcases form_parts b rows out with ⟨hs, _, h1, h2, h3⟩ | ⟨hk, _⟩ | ⟨hq, _, hl, _, h1, h2, h3⟩
  · rw [h1, h2, h3]
    rw [steadyB, Bool.and_eq_true] at hs
    exact seqB_out hs.1
  · rw [h] at hk
    cases hk
  · rw [h1, h2, h3]
    exact steady_valid (seqB_out hq) hl
end Mins
end Go.Proofs.Ytdgfecjakmdheaa
/- Contract of the program's MinimalForm. No conditions beyond those that each states. -/
namespace Go.Proofs.Ytdgfecjakmdheaa
open Go.ChangeShapes Go.WideShapes Go.ChangeAt Go.RowKit
open Go.PlainAid Plain
set_option linter.unusedVariables false
namespace Mins
open Seqs
def minRV (b : Int) (rows : List (List Int)) (out : List Int) : List (List Int) := if formK b rows out = true then minR (formR b rows out) (formO b rows out) else []
def minOV (b : Int) (rows : List (List Int)) (out : List Int) : List Int := if formK b rows out = true then minO (formR b rows out) (formO b rows out) else []
theorem min_valid {b : Int} {rows : List (List Int)} {out : List Int} (h : formK b rows out = true) : IsSeq (formB b rows out) (minRV b rows out) (minOV b rows out) := by
  rw [minRV, if_pos h, minOV, if_pos h]
  exact (form_valid h).minimal
theorem min_size {b : Int} {rows : List (List Int)} {out : List Int} : tot (minRV b rows out) + (minOV b rows out).length ≤ 1000 := by
  cases hk : formK b rows out with
  | true =>
    have hv := min_valid hk
    have h1 := seq_rows4 (seqB_yes hv)
    have h2 := tot_le4 _ h1.1
    omega
  | false =>
    have hk' : ¬ formK b rows out = true := by rw [hk]; simp
    rw [minRV, if_neg hk', minOV, if_neg hk']
    simp [tot]
set_option maxHeartbeats 1000000 in
theorem impl_min_no (v : Value) (b : Int) (rows : List (List Int)) (out : List Int) (w : World) (h : LiesS w v b rows out) (hs : rows.length + tot rows + out.length ≤ 1048576) (hk : formK b rows out = false) :
    Calls Try.prog 39 #[v] w (GivesK 0 [] [] false w) := by
  have HS := Lib.hid h
  obtain ⟨an, cn, ao, co, rfl⟩ := h.form
  clear h
  have HB : Hid (Below w.heap.size w (w.alloc (Obj.cells #[Value.int .i64 b, Value.slice an rows.length cn, Value.slice ao out.length co] 27))) := (Below.refl _ _).alloc (Nat.le_refl _) _
  have HC := Lib.hid (Cells3.new w 27 (.int .i64 b) (.slice an rows.length cn) (.slice ao out.length co))
  have HK := Lib.hid hk
  have HFP : Hid (formB b rows out = 0 ∧ formR b rows out = [] ∧ formO b rows out = []) := by
    rcases form_parts b rows out with ⟨_, h1, _⟩ | ⟨_, h1, h2, h3⟩ | ⟨_, _, _, h1, _⟩
    · rw [hk] at h1; cases h1
    · exact ⟨h1, h2, h3⟩
    · rw [hk] at h1; cases h1
  have HSZ := Lib.hid hs
  have HB1 := Lib.hid (HB.out.alloc (by simp) (Obj.cells #[Value.int .i64 0, Value.slice none 0 0, Value.slice none 0 0] 27))
  have HC1 := Lib.hid (HC.out.alloc (Obj.cells #[Value.int .i64 0, Value.slice none 0 0, Value.slice none 0 0] 27))
  have hZ := Cells3.new (w.alloc (Obj.cells #[Value.int .i64 b, Value.slice an rows.length cn, Value.slice ao out.length co] 27)) 27 (.int .i64 0) (.slice none 0 0) (.slice none 0 0)
  rw [size_alloc'] at hZ
  have HZ1 := Lib.hid hZ
  have k0 := HC1.out.c0
  have k1 := HC1.out.c1
  have k2 := HC1.out.c2
  clear hZ HB HC hk hs
  go_enter Try.func39, Try.ntmps39
  go_wp2_with fail
  refine (impl_form _ b rows out _ (HS.out.below HB1.out) HSZ.out).mono ?_
  rintro e W1 ⟨v1, rfl, hv1, b1⟩
  rw [HFP.out.1, HFP.out.2.1, HFP.out.2.2] at hv1
  obtain ⟨a1, c1, a2, c2, rfl⟩ := hv1.form
  rw [HK.out]
  have HB2 := Lib.hid (HB1.out.trans (b1.mono HB1.out.size))
  have hZ2 := HZ1.out.below b1
  have HZ2 := Lib.hid (hZ2.alloc (Obj.cells #[Value.int .i64 0, Value.slice a1 ([] : List (List Int)).length c1, Value.slice a2 ([] : List Int).length c2] 27))
  have HB3 := Lib.hid (HB2.out.alloc HB2.out.size (Obj.cells #[Value.int .i64 0, Value.slice a1 ([] : List (List Int)).length c1, Value.slice a2 ([] : List Int).length c2] 27))
  simp only [List.length_nil] at HZ2 HB3
  have z0 := HZ2.out.c0
  have z1 := HZ2.out.c1
  have z2 := HZ2.out.c2
  have z3 := HZ2.out.f
  clear hv1 b1 hZ2 k0 k1 k2 HB1 HC1 HZ1
  go_wp2
  have hZ3 := (((HZ2.out.set0 (.int .i64 0)).set1 (.slice none 0 0)).set2 (.slice none 0 0))
  have n0 := hZ3.c0
  have n1 := hZ3.c1
  have n2 := hZ3.c2
  refine bodyPost_ret (v := .tuple #[.agg #[.int .i64 0, .slice none 0 0, .slice none 0 0], .bool false]) (by simp [results, Try.results39, go_sem, n0, n1, n2]) rfl ⟨_, rfl, OwnS.zero _, ?_⟩
  exact ((HB3.out.setCell (by show _ ≤ _ + 1; omega) _).setCell (by show _ ≤ _ + 1; omega) _).setCell (by show _ ≤ _ + 1; omega) _
set_option maxHeartbeats 1000000 in
theorem impl_min_yes (v : Value) (b : Int) (rows : List (List Int)) (out : List Int) (w : World) (h : LiesS w v b rows out) (hs : rows.length + tot rows + out.length ≤ 1048576) (hk : formK b rows out = true) :
    Calls Try.prog 39 #[v] w (GivesK (formB b rows out) (minR (formR b rows out) (formO b rows out)) (minO (formR b rows out) (formO b rows out)) true w) := by
  have HS := Lib.hid h
  obtain ⟨an, cn, ao, co, rfl⟩ := h.form
  clear h
  have HB : Hid (Below w.heap.size w (w.alloc (Obj.cells #[Value.int .i64 b, Value.slice an rows.length cn, Value.slice ao out.length co] 27))) := (Below.refl _ _).alloc (Nat.le_refl _) _
  have HC := Lib.hid (Cells3.new w 27 (.int .i64 b) (.slice an rows.length cn) (.slice ao out.length co))
  have HK := Lib.hid hk
  have HCF := Lib.hid (fun (W : World) (hW : Below w.heap.size w W) => impl_form _ b rows out W (HS.out.below hW) hs)
  have hval := form_valid hk
  obtain ⟨B, hBB⟩ : ∃ B, B = formB b rows out := ⟨_, rfl⟩
  obtain ⟨RR, hRR⟩ : ∃ R, R = formR b rows out := ⟨_, rfl⟩
  obtain ⟨OO, hOO⟩ : ∃ O, O = formO b rows out := ⟨_, rfl⟩
  rw [← hBB, ← hRR, ← hOO, hk] at HCF
  rw [← hBB, ← hRR, ← hOO] at hval ⊢
  have HVAL := Lib.hid hval
  clear hBB hRR hOO hval hk hs
  have HB1 := Lib.hid (HB.out.alloc (by simp) (Obj.cells #[Value.int .i64 0, Value.slice none 0 0, Value.slice none 0 0] 27))
  have HC1 := Lib.hid (HC.out.alloc (Obj.cells #[Value.int .i64 0, Value.slice none 0 0, Value.slice none 0 0] 27))
  have hZ := Cells3.new (w.alloc (Obj.cells #[Value.int .i64 b, Value.slice an rows.length cn, Value.slice ao out.length co] 27)) 27 (.int .i64 0) (.slice none 0 0) (.slice none 0 0)
  rw [size_alloc'] at hZ
  have HZ1 := Lib.hid hZ
  have k0 := HC1.out.c0
  have k1 := HC1.out.c1
  have k2 := HC1.out.c2
  clear hZ HB HC
  go_enter Try.func39, Try.ntmps39
  go_wp2_with fail
  refine (HCF.out _ HB1.out).mono ?_
  rintro e W1 ⟨v1, rfl, hv1, b1⟩
  obtain ⟨a1, c1, a2, c2, rfl⟩ := hv1.form
  have HB2 := Lib.hid (HB1.out.trans (b1.mono HB1.out.size))
  have hZ2 := HZ1.out.below b1
  have HW1 : Hid (w.heap.size + 2 ≤ W1.heap.size) := by have := hZ2.lt; show _ ≤ _; omega
  have HZ2 := Lib.hid (hZ2.alloc (Obj.cells #[Value.int .i64 B, Value.slice a1 RR.length c1, Value.slice a2 OO.length c2] 27))
  have HB3 := Lib.hid (HB2.out.alloc HB2.out.size (Obj.cells #[Value.int .i64 B, Value.slice a1 RR.length c1, Value.slice a2 OO.length c2] 27))
  have HL3 := Lib.hid (hv1.lies.below ((Below.refl _ _).alloc (Nat.le_refl _) (Obj.cells #[Value.int .i64 B, Value.slice a1 RR.length c1, Value.slice a2 OO.length c2] 27)))
  have hS3 := Cells3.new W1 27 (.int .i64 B) (.slice a1 RR.length c1) (.slice a2 OO.length c2)
  have j0 := hS3.c0
  have j1 := hS3.c1
  have j2 := hS3.c2
  clear hv1 b1 hZ2 hS3 k0 k1 k2 HB1 HC1 HZ1
  go_wp2_with fail
  refine (merged_any _ B RR OO _ HL3.out HVAL.out).mono ?_
  rintro e W2 ⟨v2, rfl, hv2, b2⟩
  have HB4 := Lib.hid (HB3.out.trans (b2.mono HB3.out.size))
  have HZ4 := Lib.hid (HZ2.out.below b2)
  have HL4 := Lib.hid hv2.lies
  clear hv2 b2 j0 j1 j2 HL3 HB3 HZ2
  go_wp2_with fail
  refine (searched_any _ B (rowsQ RR OO) (outQ RR OO) _ HL4.out HVAL.out.merged).mono ?_
  rintro e W3 ⟨v3, rfl, hv3, b3⟩
  have HW2 : Hid (w.heap.size + 2 ≤ W2.heap.size) := by have := HZ4.out.lt; show _ ≤ _; omega
  have HB5 := Lib.hid (HB4.out.trans (b3.mono HB4.out.size))
  have HZ5 := Lib.hid (HZ4.out.below b3)
  have HV3 : Hid (OwnS W3 W2.heap.size W3.heap.size v3 B (minR RR OO) (minO RR OO)) := hv3
  obtain ⟨a3, c3, a4, c4, rfl⟩ := HV3.out.form
  clear hv3 b3 HB4 HZ4 HL4
  have z0 := HZ5.out.c0
  have z1 := HZ5.out.c1
  have z2 := HZ5.out.c2
  have z3 := HZ5.out.f
  go_wp2
  have hZ3 := (((HZ5.out.set0 (.int .i64 B)).set1 (.slice a3 (minR RR OO).length c3)).set2 (.slice a4 (minO RR OO).length c4))
  have n0 := hZ3.c0
  have n1 := hZ3.c1
  have n2 := hZ3.c2
  refine bodyPost_ret (v := .tuple #[.agg #[.int .i64 B, .slice a3 (minR RR OO).length c3, .slice a4 (minO RR OO).length c4], .bool true]) (by simp [results, Try.results39, go_sem, n0, n1, n2]) rfl ⟨_, rfl, ?_, ?_⟩
  · have T0 : Plain.Touch w.heap.size (w.heap.size + 2) W3 (((W3.setCell ⟨w.heap.size + 1, 0, none⟩ (.int .i64 B)).setCell ⟨w.heap.size + 1, 1, none⟩ (.slice a3 (minR RR OO).length c3)).setCell ⟨w.heap.size + 1, 2, none⟩ (.slice a4 (minO RR OO).length c4)) :=
      ((Plain.Touch.of_set _ (by show _ ≤ _ + 1; omega) (by show _ + 1 < _; omega)).trans (Plain.Touch.of_set _ (by show _ ≤ _ + 1; omega) (by show _ + 1 < _; omega))).trans (Plain.Touch.of_set _ (by show _ ≤ _ + 1; omega) (by show _ + 1 < _; omega))
    have := (HV3.out.touch T0 (.inr HW2.out)).lower (show w.heap.size ≤ W2.heap.size by have := HW2.out; omega)
    simpa only [size_setCell'] using this
  · exact ((HB5.out.setCell (by show _ ≤ _ + 1; omega) _).setCell (by show _ ≤ _ + 1; omega) _).setCell (by show _ ≤ _ + 1; omega) _
theorem impl_min (v : Value) (b : Int) (rows : List (List Int)) (out : List Int) (w : World) (h : LiesS w v b rows out) (hs : rows.length + tot rows + out.length ≤ 1048576) :
    Calls Try.prog 39 #[v] w (GivesK (formB b rows out) (minRV b rows out) (minOV b rows out) (formK b rows out) w) := by
  cases hk : formK b rows out with
  | false =>
    have hk' : ¬ formK b rows out = true := by rw [hk]; simp
    rw [minRV, if_neg hk', minOV, if_neg hk', formB, if_neg hk']
    exact impl_min_no v b rows out w h hs hk
  | true =>
    rw [minRV, if_pos hk, minOV, if_pos hk]
    exact impl_min_yes v b rows out w h hs hk
end Mins
end Go.Proofs.Ytdgfecjakmdheaa
/- Contract of the model's MinimalForm. No conditions beyond those that each states. -/
namespace Go.Proofs.Ytdgfecjakmdheaa
open Go.ChangeShapes Go.WideShapes Go.ChangeAt Go.RowKit
open Go.PlainAid Plain
set_option linter.unusedVariables false
namespace Mins
open Seqs
set_option maxHeartbeats 1000000 in
theorem spec_min_no (v : Value) (b : Int) (rows : List (List Int)) (out : List Int) (w : World) (h : LiesS w v b rows out) (hs : rows.length + tot rows + out.length ≤ 1048576) (hk : formK b rows out = false) :
    Calls Try.prog 26 #[v] w (GivesK 0 [] [] false w) := by
  have HS := Lib.hid h
  obtain ⟨an, cn, ao, co, rfl⟩ := h.form
  clear h
  have HB : Hid (Below w.heap.size w (w.alloc (Obj.cells #[Value.int .i64 b, Value.slice an rows.length cn, Value.slice ao out.length co] 27))) := (Below.refl _ _).alloc (Nat.le_refl _) _
  have HC := Lib.hid (Cells3.new w 27 (.int .i64 b) (.slice an rows.length cn) (.slice ao out.length co))
  have HK := Lib.hid hk
  have HFP : Hid (formB b rows out = 0 ∧ formR b rows out = [] ∧ formO b rows out = []) := by
    rcases form_parts b rows out with ⟨_, h1, _⟩ | ⟨_, h1, h2, h3⟩ | ⟨_, _, _, h1, _⟩
    · rw [hk] at h1; cases h1
    · exact ⟨h1, h2, h3⟩
    · rw [hk] at h1; cases h1
  have HSZ := Lib.hid hs
  have HB1 := Lib.hid (HB.out.alloc (by simp) (Obj.cells #[Value.int .i64 0, Value.slice none 0 0, Value.slice none 0 0] 27))
  have HC1 := Lib.hid (HC.out.alloc (Obj.cells #[Value.int .i64 0, Value.slice none 0 0, Value.slice none 0 0] 27))
  have hZ := Cells3.new (w.alloc (Obj.cells #[Value.int .i64 b, Value.slice an rows.length cn, Value.slice ao out.length co] 27)) 27 (.int .i64 0) (.slice none 0 0) (.slice none 0 0)
  rw [size_alloc'] at hZ
  have HZ1 := Lib.hid hZ
  have k0 := HC1.out.c0
  have k1 := HC1.out.c1
  have k2 := HC1.out.c2
  clear hZ HB HC hk hs
  go_enter Try.func26, Try.ntmps26
  go_wp2_with fail
  refine (spec_form _ b rows out _ (HS.out.below HB1.out) HSZ.out).mono ?_
  rintro e W1 ⟨v1, rfl, hv1, b1⟩
  rw [HFP.out.1, HFP.out.2.1, HFP.out.2.2] at hv1
  obtain ⟨a1, c1, a2, c2, rfl⟩ := hv1.form
  rw [HK.out]
  have HB2 := Lib.hid (HB1.out.trans (b1.mono HB1.out.size))
  have hZ2 := HZ1.out.below b1
  have HZ2 := Lib.hid (hZ2.alloc (Obj.cells #[Value.int .i64 0, Value.slice a1 ([] : List (List Int)).length c1, Value.slice a2 ([] : List Int).length c2] 27))
  have HB3 := Lib.hid (HB2.out.alloc HB2.out.size (Obj.cells #[Value.int .i64 0, Value.slice a1 ([] : List (List Int)).length c1, Value.slice a2 ([] : List Int).length c2] 27))
  simp only [List.length_nil] at HZ2 HB3
  have z0 := HZ2.out.c0
  have z1 := HZ2.out.c1
  have z2 := HZ2.out.c2
  have z3 := HZ2.out.f
  clear hv1 b1 hZ2 k0 k1 k2 HB1 HC1 HZ1
  go_wp2
  have hZ3 := (((HZ2.out.set0 (.int .i64 0)).set1 (.slice none 0 0)).set2 (.slice none 0 0))
  have n0 := hZ3.c0
  have n1 := hZ3.c1
  have n2 := hZ3.c2
  refine bodyPost_ret (v := .tuple #[.agg #[.int .i64 0, .slice none 0 0, .slice none 0 0], .bool false]) (by simp [results, Try.results26, go_sem, n0, n1, n2]) rfl ⟨_, rfl, OwnS.zero _, ?_⟩
  exact ((HB3.out.setCell (by show _ ≤ _ + 1; omega) _).setCell (by show _ ≤ _ + 1; omega) _).setCell (by show _ ≤ _ + 1; omega) _
set_option maxRecDepth 100000 in
set_option maxHeartbeats 4000000 in
theorem spec_min_yes (v : Value) (b : Int) (rows : List (List Int)) (out : List Int) (w : World) (h : LiesS w v b rows out) (hs : rows.length + tot rows + out.length ≤ 1048576) (hk : formK b rows out = true) :
    Calls Try.prog 26 #[v] w (GivesK (formB b rows out) (minR (formR b rows out) (formO b rows out)) (minO (formR b rows out) (formO b rows out)) true w) := by
  obtain ⟨i0, hi0, hz0, hz1, hz2⟩ := info_parts Ints.infoI
  obtain ⟨i2, hi2, hz20, hz21, hz22⟩ := info_parts infoR
  have HS := Lib.hid h
  obtain ⟨an, cn, ao, co, rfl⟩ := h.form
  clear h
  have HB : Hid (Below w.heap.size w (w.alloc (Obj.cells #[Value.int .i64 b, Value.slice an rows.length cn, Value.slice ao out.length co] 27))) := (Below.refl _ _).alloc (Nat.le_refl _) _
  have HC := Lib.hid (Cells3.new w 27 (.int .i64 b) (.slice an rows.length cn) (.slice ao out.length co))
  have HK := Lib.hid hk
  have HCF := Lib.hid (fun (W : World) (hW : Below w.heap.size w W) => spec_form _ b rows out W (HS.out.below hW) hs)
  have hval := form_valid hk
  obtain ⟨B, hBB⟩ : ∃ B, B = formB b rows out := ⟨_, rfl⟩
  obtain ⟨RR, hRR⟩ : ∃ R, R = formR b rows out := ⟨_, rfl⟩
  obtain ⟨OO, hOO⟩ : ∃ O, O = formO b rows out := ⟨_, rfl⟩
  rw [← hBB, ← hRR, ← hOO, hk] at HCF
  rw [← hBB, ← hRR, ← hOO] at hval ⊢
  clear hBB hRR hOO hk hs
  obtain ⟨bn, rfl⟩ : ∃ bn : Nat, B = (bn : Int) := ⟨B.toNat, by have := hval.1; omega⟩
  have HVAL := Lib.hid hval
  have HA := Lib.hid (show Auto RR OO bn from by have := hval.auto; rw [Int.toNat_natCast] at this; exact this)
  have hb2 : 2 ≤ bn := by have := hval.1; omega
  have hb4 : bn ≤ 4 := by have := hval.2.1; omega
  have hn16 : RR.length ≤ 16 := hval.2.2.2.1
  have hn1 : 1 ≤ RR.length := hval.2.2.1
  have HOL := Lib.hid hval.2.2.2.2.1
  clear hval
  have HB1 := Lib.hid (HB.out.alloc (by simp) (Obj.cells #[Value.int .i64 0, Value.slice none 0 0, Value.slice none 0 0] 27))
  have HC1 := Lib.hid (HC.out.alloc (Obj.cells #[Value.int .i64 0, Value.slice none 0 0, Value.slice none 0 0] 27))
  have hZ := Cells3.new (w.alloc (Obj.cells #[Value.int .i64 b, Value.slice an rows.length cn, Value.slice ao out.length co] 27)) 27 (.int .i64 0) (.slice none 0 0) (.slice none 0 0)
  rw [size_alloc'] at hZ
  have HZ1 := Lib.hid hZ
  have k0 := HC1.out.c0
  have k1 := HC1.out.c1
  have k2 := HC1.out.c2
  clear hZ HB HC
  go_enter Try.func26, Try.ntmps26
  go_wp2_with fail
  refine (HCF.out _ HB1.out).mono ?_
  rintro e W1 ⟨v1, rfl, hv1, b1⟩
  obtain ⟨a1, c1, a2, c2, rfl⟩ := hv1.form
  have HB2 := Lib.hid (HB1.out.trans (b1.mono HB1.out.size))
  have HZ2 := Lib.hid (HZ1.out.below b1)
  have HW1 : Hid (w.heap.size + 2 ≤ W1.heap.size) := by have := HZ2.out.lt; show _ ≤ _; omega
  have HX := Lib.hid hv1.lies
  have hbx : Below W1.heap.size W1 (W1.alloc (Obj.cells #[Value.int .i64 (bn : Int), Value.slice a1 RR.length c1, Value.slice a2 OO.length c2] 27)) := (Below.refl _ _).alloc (Nat.le_refl _) _
  have HXC := Lib.hid (Cells3.new W1 27 (.int .i64 (bn : Int)) (.slice a1 RR.length c1) (.slice a2 OO.length c2))
  obtain ⟨W2, hW2⟩ : ∃ W, W = W1.alloc (Obj.cells #[Value.int .i64 (bn : Int), Value.slice a1 RR.length c1, Value.slice a2 OO.length c2] 27) := ⟨_, rfl⟩
  have HBX := Lib.hid hbx
  have j0 := HXC.out.c0
  have j1 := HXC.out.c1
  have j2 := HXC.out.c2
  clear hv1 b1 hbx k0 k1 k2 HB1 HC1 HZ1
  go_wp2_with fail
  rw [← hW2] at HXC HBX j0 j1 j2 ⊢
  clear hW2
  refine (spec_class_yes _ (bn : Int) RR OO _ (HX.out.below HBX.out) (seqB_yes HVAL.out)).mono ?_
  rintro e W3 ⟨cv, rfl, hcv, b3⟩
  obtain ⟨cls, hcls⟩ : ∃ c, c = classes RR OO := ⟨_, rfl⟩
  have HCE := Lib.hid hcls
  have HCL : Hid (cls.length = RR.length) := by show _ = _; rw [hcls, classes_len]
  rw [← hcls] at hcv
  obtain ⟨ca, cc, rfl, _⟩ := hcv.form
  have HXC3 := Lib.hid (HXC.out.below b3)
  have HBX3 := Lib.hid (HBX.out.trans (b3.mono HBX.out.size))
  have HCV := Lib.hid (hcv.mono (show w.heap.size ≤ W2.heap.size from Nat.le_trans HB2.out.size HBX.out.size))
  have HWX : Hid (W1.heap.size < W3.heap.size) := HXC3.out.lt
  have j0 := HXC3.out.c0
  have j1 := HXC3.out.c1
  have j2 := HXC3.out.c2
  clear hcv b3 hcls HXC HBX
  go_wp2_with fail
  -- the sequence in the making, the order
  have hbp : Below W3.heap.size W3 (W3.alloc (Obj.cells #[Value.int .i64 (bn : Int), Value.slice none 0 0, Value.slice none 0 0] 27)) := (Below.refl _ _).alloc (Nat.le_refl _) _
  have hP := Cells3.new W3 27 (.int .i64 (bn : Int)) (.slice none 0 0) (.slice none 0 0)
  have hO : Has (Value.int .i64) 3 ((W3.alloc (Obj.cells #[Value.int .i64 (bn : Int), Value.slice none 0 0, Value.slice none 0 0] 27)).alloc (.cells #[.int .i64 0] 3)) (W3.alloc (Obj.cells #[Value.int .i64 (bn : Int), Value.slice none 0 0, Value.slice none 0 0] 27)).heap.size (.slice (some ⟨(W3.alloc (Obj.cells #[Value.int .i64 (bn : Int), Value.slice none 0 0, Value.slice none 0 0] 27)).heap.size, 0, none⟩) 1 1) [0] := has_lit1 (enc := Value.int .i64) 0 rfl (Nat.le_refl _)
  have hbo : Below (W3.alloc (Obj.cells #[Value.int .i64 (bn : Int), Value.slice none 0 0, Value.slice none 0 0] 27)).heap.size (W3.alloc (Obj.cells #[Value.int .i64 (bn : Int), Value.slice none 0 0, Value.slice none 0 0] 27)) ((W3.alloc (Obj.cells #[Value.int .i64 (bn : Int), Value.slice none 0 0, Value.slice none 0 0] 27)).alloc (.cells #[.int .i64 0] 3)) := (Below.refl _ _).alloc (Nat.le_refl _) _
  obtain ⟨W4, hW4⟩ : ∃ W, W = W3.alloc (Obj.cells #[Value.int .i64 (bn : Int), Value.slice none 0 0, Value.slice none 0 0] 27) := ⟨_, rfl⟩
  have hsz4 : W4.heap.size = W3.heap.size + 1 := by rw [hW4, size_alloc']
  rw [← hW4] at hbp hP hO hbo
  rw [show (W3.alloc (Obj.cells #[Value.int .i64 (bn : Int), Value.slice none 0 0, Value.slice none 0 0] 27)).alloc (.cells #[.int .i64 0] 3) = W4.alloc (.cells #[.int .i64 0] 3) by rw [hW4]]
  obtain ⟨W5, hW5⟩ : ∃ W, W = W4.alloc (.cells #[.int .i64 0] 3) := ⟨_, rfl⟩
  rw [← hW5] at hO hbo ⊢
  have hb35 : Below W3.heap.size W3 W5 := hbp.trans (hbo.mono hbp.size)
  obtain ⟨xb, hxb⟩ : ∃ x, x = W1.heap.size := ⟨_, rfl⟩
  obtain ⟨p, hp⟩ : ∃ x, x = W3.heap.size := ⟨_, rfl⟩
  obtain ⟨BB, hBB⟩ : ∃ x, x = W3.heap.size + 1 := ⟨_, rfl⟩
  obtain ⟨Q, hQ⟩ : ∃ Q, Q = rowsQ RR OO := ⟨_, rfl⟩
  obtain ⟨R, hR⟩ : ∃ R, R = reached Q := ⟨_, rfl⟩
  have HQ := Lib.hid hQ
  have HRE := Lib.hid hR
  have HNUM := Lib.hid (show w.heap.size + 2 ≤ xb ∧ xb < p ∧ p < BB from by have := HW1.out; have := HWX.out; omega)
  have hR16 : R.length ≤ 16 := by
    rw [hR, hQ]
    have h1 := reached_len (rowsQ_auto HA.out).closed
    have h2 := rowsQ_len RR OO
    omega
  have hM5 : Hid (Making W5 BB W5.heap.size p (bn : Int) (.slice none 0 0) (.slice none 0 0) (.slice (some ⟨BB, 0, none⟩) 1 1) [] ((R.take 0).map (minRow Q R)) ((R.take 0).map fun s => (outQ RR OO).getD s.toNat 0) [0]) := by
    rw [hsz4, ← hBB] at hO
    rw [hp]
    exact Making.start (hP.below hbo) hO (by have := hbo.size; omega)
  have hOR : Hid (Order RR OO [0] (reachI Q 0)) := by rw [hQ]; exact order_start HA.out
  have hCV5 : Hid (OwnI W5 w.heap.size BB (.slice ca cls.length cc) cls) := ⟨HCV.out.below hb35, fun k hk => by have := (HCV.out.lt k hk).2; omega, by have := hbo.size; omega⟩
  have hXC5 : Hid (Cells3 W5 xb 27 (.int .i64 (bn : Int)) (.slice a1 RR.length c1) (.slice a2 OO.length c2)) := by rw [hxb]; exact HXC3.out.below hb35
  have hB5 : Hid (Below xb W1 W5) := by rw [hxb]; exact HBX3.out.trans (hb35.mono HBX3.out.size)
  rw [← hBB, ← hxb, ← hp]
  rw [← hxb] at HW1
  have HB2' : Hid (Below w.heap.size w W1) := HB2
  clear hW4 hsz4 hW5 hbp hP hO hbo hb35 hp hBB hQ hR HCV HXC3 HBX3 HWX j0 j1 j2 HB2
  have HZX : Hid (xb = W1.heap.size) := hxb
  clear hxb
  go_loopw [8, 9] (fun o' i' wr => ∃ (i : Nat) (od : List Int) (vn vo : Value) (us : List Value) (hi : Nat), i ≤ od.length ∧ od.length ≤ 16 ∧ i' = .int .i64 i ∧ Hid (Order RR OO od (reachI Q i)) ∧ Hid (Making wr BB hi p (bn : Int) vn vo o' us ((R.take i).map (minRow Q R)) ((R.take i).map fun s => (outQ RR OO).getD s.toNat 0) od) ∧ Hid (OwnI wr w.heap.size BB (.slice ca cls.length cc) cls) ∧ Hid (Cells3 wr xb 27 (.int .i64 (bn : Int)) (.slice a1 RR.length c1) (.slice a2 OO.length c2)) ∧ Hid (Below xb W1 wr)) (fun _ i' _ => 17 - (intOf i').toNat)
  case atStart => exact ⟨0, [0], _, _, [], W5.heap.size, by simp, by simp, rfl, hOR, hM5, hCV5, hXC5, hB5⟩
  case round =>
    clear hOR hM5 hCV5 hXC5 hB5
    obtain ⟨i, od, vn, vo, us, hi, hil, hod16, rfl, hOR, hM, hCV, hXC, hB⟩ := hrel
    obtain ⟨W6, rfl⟩ : ∃ W : World, W = wr := ⟨_, rfl⟩
    obtain ⟨na, nc, oa, oc, hvn, hvo⟩ := hM.out.form
    obtain ⟨ea, ec, he8, _⟩ := hM.out.extra.has.form
    subst he8
    obtain ⟨l1, hl1⟩ : ∃ l, l = (((R.take i).map (minRow Q R))).length := ⟨_, rfl⟩
    obtain ⟨l2, hl2⟩ : ∃ l, l = (((R.take i).map fun s => (outQ RR OO).getD s.toNat 0)).length := ⟨_, rfl⟩
    have HUSL : Hid (us.length = l1) := by show _ = _; rw [hl1]; exact hM.out.len
    have hl1' : l1 ≤ 16 := by rw [hl1]; simp; omega
    have hl2' : l2 ≤ 16 := by rw [hl2]; simp; omega
    have HL1 := Lib.hid hl1
    have HL2 := Lib.hid hl2
    rw [← hl1] at hvn
    rw [← hl2] at hvo
    subst hvn; subst hvo
    clear hl1 hl2
    have x0 := hXC.out.c0
    have x1 := hXC.out.c1
    have x2 := hXC.out.c2
    by_cases hlt : i < od.length
    case neg =>
      have hoe := order_end HA.out (by rw [← HQ.out]; exact hOR.out) hlt hil
      rw [← HQ.out, ← HRE.out] at hoe
      have HE : Hid (((R.take i).map (minRow Q R)) = minR RR OO ∧ ((R.take i).map fun s => (outQ RR OO).getD s.toNat 0) = minO RR OO) := by
        show _ ∧ _
        rw [hoe.1, List.take_length, HRE.out, HQ.out]
        exact ⟨rfl, rfl⟩
      have HW : Hid (OwnS W6 BB W6.heap.size (.agg #[.int .i64 (bn : Int), .slice na l1 nc, .slice oa l2 oc]) (bn : Int) (minR RR OO) (minO RR OO)) := by
        have h1 := hM.out.building.seq
        rw [HE.out.1, HE.out.2] at h1
        exact h1
      have hP := hM.out.cells
      have m0 := hP.c0
      have m1 := hP.c1
      have m2 := hP.c2
      have hZ6 := c3_of_below hB.out HZ2.out (by have := HNUM.out; omega)
      have HZ6 := Lib.hid hZ6
      have z0 := hZ6.c0
      have z1 := hZ6.c1
      have z2 := hZ6.c2
      have z3 := hZ6.f
      have HB6 : Hid (Below w.heap.size w W6) := HB2'.out.trans (hB.out.mono (by have := HNUM.out; omega))
      clear hP hoe hZ6 x0 x1 x2
      go_wp2
      have hZ3 := (((HZ6.out.set0 (.int .i64 (bn : Int))).set1 (.slice na l1 nc)).set2 (.slice oa l2 oc))
      have n0 := hZ3.c0
      have n1 := hZ3.c1
      have n2 := hZ3.c2
      refine bodyPost_ret (v := .tuple #[.agg #[.int .i64 (bn : Int), .slice na l1 nc, .slice oa l2 oc], .bool true]) (by simp [results, Try.results26, go_sem, n0, n1, n2]) rfl ⟨_, rfl, ?_, ?_⟩
      · have T0 : Plain.Touch w.heap.size (w.heap.size + 2) W6 (((W6.setCell ⟨w.heap.size + 1, 0, none⟩ (.int .i64 (bn : Int))).setCell ⟨w.heap.size + 1, 1, none⟩ (.slice na l1 nc)).setCell ⟨w.heap.size + 1, 2, none⟩ (.slice oa l2 oc)) :=
          ((Plain.Touch.of_set _ (by show _ ≤ _ + 1; omega) (by show _ + 1 < _; omega)).trans (Plain.Touch.of_set _ (by show _ ≤ _ + 1; omega) (by show _ + 1 < _; omega))).trans (Plain.Touch.of_set _ (by show _ ≤ _ + 1; omega) (by show _ + 1 < _; omega))
        have := (HW.out.touch T0 (.inr (by have := HNUM.out; omega))).lower (show w.heap.size ≤ BB by have := HNUM.out; omega)
        simpa only [size_setCell'] using this
      · exact ((HB6.out.setCell (by show _ ≤ _ + 1; omega) _).setCell (by show _ ≤ _ + 1; omega) _).setCell (by show _ ≤ _ + 1; omega) _
    case pos =>
      have hor := order_round HA.out (show Order RR OO od (reachI (rowsQ RR OO) i) by rw [← HQ.out]; exact hOR.out) hlt
      rw [← HQ.out, ← HRE.out] at hor
      obtain ⟨tn, r, o, hto, htn, hr, ho, hrl, hrB, hRi, hrow, hoq, hst⟩ := hor
      have HTO := Lib.hid hto
      have HRR := Lib.hid hr
      have HOO := Lib.hid ho
      have HRL := Lib.hid hrl
      have HRB := Lib.hid hrB
      have HRI := Lib.hid hRi
      have HROW := Lib.hid hrow
      have HOQ := Lib.hid hoq
      have HST := Lib.hid (show reachI (rowsQ RR OO) (i + 1) = addAll (reachI (rowsQ RR OO) i) (r.map (clsF RR OO)) by rw [← HQ.out]; exact hst)
      have hr4 : r.length ≤ 4 := by omega
      have hr0 : 0 < r.length := by omega
      have hOR0 : Hid (Order RR OO od (midL RR OO i r 0)) := by rw [midL_zero, ← HQ.out]; exact hOR.out
      have hb7 : Below W6.heap.size W6 (W6.alloc (.cells #[] 3)) := (Below.refl _ _).alloc (Nat.le_refl _) _
      have hRG : Hid (Rowing (W6.alloc (.cells #[] 3)) BB (W6.alloc (.cells #[] 3)).heap.size p (bn : Int) (.slice na l1 nc) (.slice oa l2 oc) (.slice ea od.length ec) (.slice (some ⟨W6.heap.size, 0, none⟩) 0 0) us ((R.take i).map (minRow Q R)) ((R.take i).map fun s => (outQ RR OO).getD s.toNat 0) od (partR RR OO r 0)) :=
        hM.out.begin hb7 (has_lit0 (enc := Value.int .i64) rfl (Nat.le_refl _))
      have hCV7 := Lib.hid (hCV.out.below hb7)
      have hXC7 := Lib.hid (hXC.out.below hb7)
      have hB7 : Hid (Below xb W1 (W6.alloc (.cells #[] 3))) := hB.out.alloc (by have := hXC.out.lt; omega) _
      obtain ⟨zr, hzr⟩ : ∃ z, z = W6.heap.size := ⟨_, rfl⟩
      rw [← hzr] at hRG
      clear hto hr ho hrl hrB hRi hrow hoq hst hOR hM hCV hXC hB hb7 x0 x1 x2
      go_wp2_with fail
      rw [← hzr]
      clear hzr
      go_loopw [8, 10, 11] (fun o' r' k' wr => ∃ (k : Nat) (od' : List Int) (hi' : Nat), k ≤ r.length ∧ od'.length ≤ 16 ∧ k' = .int .i64 k ∧ Hid (Order RR OO od' (midL RR OO i r k)) ∧ Hid (od'[i]? = some (tn : Int)) ∧ Hid (Rowing wr BB hi' p (bn : Int) (.slice na l1 nc) (.slice oa l2 oc) o' r' us ((R.take i).map (minRow Q R)) ((R.take i).map fun s => (outQ RR OO).getD s.toNat 0) od' (partR RR OO r k)) ∧ Hid (OwnI wr w.heap.size BB (.slice ca cls.length cc) cls) ∧ Hid (Cells3 wr xb 27 (.int .i64 (bn : Int)) (.slice a1 RR.length c1) (.slice a2 OO.length c2)) ∧ Hid (Below xb W1 wr)) (fun _ _ k' _ => r.length - (intOf k').toNat)
      case atStart => exact ⟨0, od, _, Nat.zero_le _, hod16, rfl, hOR0, HTO, hRG, hCV7, hXC7, hB7⟩
      case round =>
        clear hOR0 hRG hCV7 hXC7 hB7
        obtain ⟨k, od', hi', hkl, hod, rfl, hOR, hTN, hRG, hCV, hXC, hB⟩ := hrel
        obtain ⟨W8, rfl⟩ : ∃ W : World, W = wr := ⟨_, rfl⟩
        have hil' : i < od'.length := (List.getElem?_eq_some_iff.1 hTN.out).1
        obtain ⟨eq, es, ec', he8, hel⟩ := ints_at hRG.out.extra.has.lies (by omega)
        obtain ⟨ra, rc, hr10, _⟩ := hRG.out.row_.has.form
        rw [partR_len hkl] at hr10
        subst he8; subst hr10
        have HEL := Lib.hid hel
        have hBw : Below W1.heap.size W1 W8 := by rw [← HZX.out]; exact hB.out
        have HBW := Lib.hid hBw
        have x0 := hXC.out.c0
        have x1 := hXC.out.c1
        have x2 := hXC.out.c2
        clear hel hBw
        by_cases hlk : k < r.length
        case pos =>
          obtain ⟨y, hy⟩ : ∃ x, r[k]? = some x := ⟨_, List.getElem?_eq_getElem hlk⟩
          have hyb := HRB.out y (List.mem_of_getElem? hy)
          obtain ⟨yn, rfl⟩ : ∃ yn : Nat, y = (yn : Int) := ⟨y.toNat, by omega⟩
          have HY := Lib.hid hy
          have HYB := Lib.hid hyb
          obtain ⟨pa, off, hpa, q, t, c, o2', hcl⟩ := seq_row HX.out HRR.out hr0
          have o2 := old_cell HBW.out o2'
          have o3 := old_cell HBW.out (hcl k _ hy)
          have o1 := HEL.out i _ hTN.out
          rw [hpa] at x1
          have hkb : decide (k < bn) = true := decide_eq_true (by have := HRL.out; omega)
          have hkb2 : k < bn := by have := HRL.out; omega
          have hk0 : (0 : Int) ≤ (k : Int) := Int.natCast_nonneg _
          have hi00 : (0 : Int) ≤ (i : Int) := Int.natCast_nonneg _
          have ht0 : (0 : Int) ≤ (tn : Int) := Int.natCast_nonneg _
          have hkr : (k : Int) < (r.length : Int) := by omega
          have hio : (i : Int) < (od'.length : Int) := by omega
          have htR : (tn : Int) < (RR.length : Int) := by omega
          obtain ⟨cq, cs, cc', hcv, hcc⟩ := ints_at hCV.out.has.lies (by have := HCL.out; omega)
          injection hcv with f1 f2 f3
          subst f1
          have hyc : yn < cls.length := by have := HCL.out; omega
          obtain ⟨cy, hcy⟩ : ∃ z, cls[yn]? = some z := ⟨_, List.getElem?_eq_getElem hyc⟩
          have HCY : Hid (clsF RR OO (yn : Int) = cy) := by show _ = _; rw [clsF, Int.toNat_natCast, ← HCE.out, List.getD_eq_getElem?_getD, hcy]; rfl
          have HCYL := Lib.hid hcy
          have HCC := Lib.hid hcc
          clear hy hyb hpa hcl o2' hcc f2 f3 hcy
          go_wp2
          go_quiet (fail)
          have HD8 := Lib.hid (below_drewN (Below.refl W8.heap.size W8) nq)
          go_wp2_with fail
          obtain ⟨W9, hW9⟩ : ∃ W, W = W8.drewN nq := ⟨_, rfl⟩
          rw [← hW9] at HD8 ⊢
          clear hW9 o1 o2 o3 x0 x1 x2
          go_loopw [13, 14] (fun f' n' wr => ∃ (n : Nat) (f : Int), n ≤ od'.length ∧ n' = .int .i64 n ∧ f' = .int .i64 f ∧ Hid (FoundC (midL RR OO i r k) cy n f) ∧ Hid (Below W8.heap.size W8 wr)) (fun _ n' _ => od'.length - (intOf n').toNat)
          case atStart => exact ⟨0, -1, Nat.zero_le _, rfl, rfl, .inl ⟨rfl, fun j hj => by omega⟩, HD8⟩
          case round =>
            clear HD8
            obtain ⟨n, f, hnl, rfl, rfl, hF, hBx⟩ := hrel
            have hml : (midL RR OO i r k).length = od'.length := by rw [← hOR.out.1, List.length_map]
            have HML := Lib.hid hml
            clear hml
            by_cases hgo : n < od'.length ∧ f < 0
            case pos =>
              obtain ⟨hn2, hf⟩ := hgo
              have hdf := decide_eq_true hf
              obtain ⟨x, hx⟩ : ∃ x, od'[n]? = some x := ⟨_, List.getElem?_eq_getElem hn2⟩
              have hxb := hOR.out.2 x (List.mem_of_getElem? hx)
              obtain ⟨xn, rfl⟩ : ∃ xn : Nat, x = (xn : Int) := ⟨x.toNat, by omega⟩
              have hxc : xn < cls.length := by have := HCL.out; omega
              obtain ⟨cx, hcx⟩ : ∃ z, cls[xn]? = some z := ⟨_, List.getElem?_eq_getElem hxc⟩
              have HLN : Hid ((midL RR OO i r k)[n]? = some cx) := by
                show _ = _
                rw [← hOR.out.1, List.getElem?_map, hx, Option.map_some, clsF, Int.toNat_natCast, ← HCE.out, List.getD_eq_getElem?_getD, hcx]
                rfl
              have q1 := old_cell hBx.out (HEL.out n _ hx)
              have q2 := old_cell hBx.out (HCC.out xn _ hcx)
              have q3 := old_cell hBx.out (HCC.out yn _ HCYL.out)
              have hn0 : (0 : Int) ≤ (n : Int) := Int.natCast_nonneg _
              have hx0 : (0 : Int) ≤ (xn : Int) := Int.natCast_nonneg _
              have hy0 : (0 : Int) ≤ (yn : Int) := Int.natCast_nonneg _
              have hnd : (n : Int) < (od'.length : Int) := by omega
              have hxcl : (xn : Int) < (cls.length : Int) := by omega
              have hycl : (yn : Int) < (cls.length : Int) := by omega
              have HB4 := Lib.hid (fun m => below_drewN hBx.out m)
              have HFN := Lib.hid hf
              clear hx hxb hcx hf
              by_cases he : cx = cy
              · have hdx : (cx == cy) = true := by simpa using he
                have HFY : Hid (FoundC (midL RR OO i r k) cy (n + 1) (n : Int)) := foundC_yes (midL_nodup HA.out) (by rw [← he]; exact HLN.out)
                clear he
                go_wp2
                go_quiet (fail)
                go_wp2
                go_roundw
                case rel => exact ⟨n + 1, (n : Int), by omega, by go_num, rfl, HFY, HB4.out _⟩
                case measure => simp [intOf]; omega
              · have hdx : (cx == cy) = false := by simpa using he
                have HFY : Hid (FoundC (midL RR OO i r k) cy (n + 1) f) := foundC_no hF.out HFN.out HLN.out he
                clear he
                go_wp2
                go_quiet (fail)
                go_wp2
                go_roundw
                case rel => exact ⟨n + 1, f, by omega, by go_num, rfl, HFY, HB4.out _⟩
                case measure => simp [intOf]; omega
            case neg =>
              obtain ⟨W10, rfl⟩ : ∃ W : World, W = wr := ⟨_, rfl⟩
              have hfe := foundC_end hF.out (by have := HML.out; omega) (by have := HML.out; omega)
              have HRG10 := Lib.hid (hRG.out.below hBx.out)
              have HCV10 := Lib.hid (hCV.out.below hBx.out)
              have HXC10 := Lib.hid (hXC.out.below hBx.out)
              have HB10 : Hid (Below xb W1 W10) := hB.out.trans (hBx.out.mono (by have := hXC.out.lt; omega))
              have HPS := Lib.hid (partR_succ (rows := RR) (out := OO) HY.out)
              have HPL := Lib.hid (partR_len (rows := RR) (out := OO) hkl)
              have HLE := Lib.hid (show BB ≤ W10.heap.size from Nat.le_trans HRG10.out.lo HRG10.out.le)
              have HXB := Lib.hid (show xb ≤ BB by have := HNUM.out; omega)
              rcases hfe with ⟨hf1, hno⟩ | ⟨hf1, hyes, hfx⟩
              · have hnl2 : ¬ n < od'.length := fun h => hgo ⟨h, by omega⟩
                have hdf : decide (f < 0) = true := decide_eq_true (by omega)
                have hmn := mid_new HA.out HST.out HY.out (by rw [HCY.out]; exact hno) hOR.out HYB.out
                rw [HCY.out, ← HQ.out, ← HRE.out, HML.out] at hmn
                have HON := Lib.hid hmn.1
                have HPN : Hid (partR RR OO r (k + 1) = partR RR OO r k ++ [(od'.length : Int)]) := by
                  show _ = _
                  rw [HPS.out, HCY.out, ← HQ.out, ← HRE.out, hmn.2]
                have hod3 : od'.length + 1 ≤ 16 := by
                  have h1 := hmn.1.1
                  have h2 := congrArg List.length h1
                  rw [List.length_map, List.length_append] at h2
                  have h3 := midL_len (k := k + 1) HA.out HST.out
                  simp at h2
                  omega
                have HTN2 : Hid ((od' ++ [(yn : Int)])[i]? = some (tn : Int)) := by show _ = _; rw [List.getElem?_append_left hil']; exact hTN.out
                clear hgo hno hmn hf1
                go_wp2_with (first
                  | (at_builtin; refine wpList_append_list (enc := Value.int .i64) (e := 3) rfl (.tmp 80) (.tmp 82) 25 rfl BB i0 (.int .i64 0) 8 Try.underlying25 hi0 hz0 hz1 hz2 rfl (.slice (some ⟨eq, es, none⟩) od'.length ec') od' rfl (has_alloc HRG10.out.extra.has _) (.slice (some ⟨W10.heap.size, 0, none⟩) 1 1) [(yn : Int)] rfl (lies_lit1 (enc := Value.int .i64) _ rfl) (fun _ _ => rfl) (by simp only [List.length_cons, List.length_nil]; omega) (by simp only [List.length_cons, List.length_nil]; omega) (by have := HLE.out; simp; omega) ?_; intro v8 w8 hv8 hg8 hb8; obtain ⟨a8, c8, hvf, _⟩ := hv8.form; rw [show (od' ++ [(yn : Int)]).length = od'.length + 1 from by simp] at hvf; subst hvf; have hg8' := grown_alloc hg8; have HRG8 := Lib.hid (HRG10.out.more hv8 hg8' (fun k hk => (hb8 k hk).imp id (fun h => by simp at h; omega))); have HLE8 := Lib.hid (Nat.le_trans HLE.out hg8'.size))
                  | (at_builtin; refine wpList_append_list (enc := Value.int .i64) (e := 3) rfl (.tmp 84) (.tmp 86) 25 rfl BB i0 (.int .i64 0) 8 Try.underlying25 hi0 hz0 hz1 hz2 rfl (.slice ra k rc) (partR RR OO r k) rfl (has_alloc HRG8.out.row_.has _) (.slice (some ⟨w8.heap.size, 0, none⟩) 1 1) [(od'.length : Int)] rfl (lies_lit1 (enc := Value.int .i64) _ rfl) (fun _ _ => rfl) (by rw [HPL.out]; simp only [List.length_cons, List.length_nil]; omega) (by rw [HPL.out]; simp only [List.length_cons, List.length_nil]; omega) (by have := HLE8.out; simp; omega) ?_; intro v9 w9 hv9 hg9 hb9; have hg9' := grown_alloc hg9))
                have HRG9 := HRG8.out.grow hv9 hg9' (fun k hk => (hb9 k hk).imp id (fun h => by simp at h; omega))
                rw [← HPN.out] at HRG9
                have HR9 := Lib.hid HRG9
                have hp1 : ∀ k, (Value.slice (some ⟨eq, es, none⟩) od'.length ec').ownBlock = some k → k < w.heap.size ∨ BB ≤ k := fun k hk => .inr (HRG10.out.extra.has.lt k hk).1
                have hp2 : ∀ k, (Value.slice ra k rc).ownBlock = some k → True := fun _ _ => trivial
                have HCV9 := Lib.hid ((HCV10.out.grown hg8' hp1).grown hg9' (fun k hk => .inr (HRG8.out.row_.has.lt k hk).1))
                have HXC9 := Lib.hid ((HXC10.out.grown hg8' (has_ne_c3 HRG10.out.extra.has HXC10.out (by decide))).grown hg9' (has_ne_c3 HRG8.out.row_.has (HXC10.out.grown hg8' (has_ne_c3 HRG10.out.extra.has HXC10.out (by decide))) (by decide)))
                have HB9 : Hid (Below xb W1 w9) := (HB10.out.grown hg8' (Nat.le_trans HXB.out HLE.out) (fun k hk => Nat.le_trans HXB.out (HRG10.out.extra.has.lt k hk).1)).grown hg9' (Nat.le_trans HXB.out HLE8.out) (fun k hk => Nat.le_trans HXB.out (HRG8.out.row_.has.lt k hk).1)
                clear hv8 hg8 hb8 hg8' hv9 hg9 hb9 hg9' HRG9 HRG8 HRG10 HCV10 HXC10 HB10 hp1 hp2
                go_wp2
                go_roundw
                case rel => exact ⟨k + 1, od' ++ [(yn : Int)], w9.heap.size, by omega, by simp; omega, by go_num, HON, HTN2, HR9, HCV9, HXC9, HB9⟩
                case measure => simp [intOf]; omega
              · have hdf : decide (f < 0) = false := decide_eq_false (by omega)
                have hmo := mid_old HA.out HST.out HY.out (by rw [HCY.out]; exact hyes)
                rw [HCY.out, ← HQ.out, ← HRE.out] at hmo
                have HON : Hid (Order RR OO od' (midL RR OO i r (k + 1))) := by rw [hmo.1]; exact hOR.out
                have HPN : Hid (partR RR OO r (k + 1) = partR RR OO r k ++ [f]) := by
                  show _ = _
                  rw [HPS.out, HCY.out, ← HQ.out, ← HRE.out, hmo.2, hfx]
                clear hgo hyes hfx hmo hf1
                by_cases hnl2 : n < od'.length
                all_goals
                  go_wp2_with (at_builtin; refine wpList_append_list (enc := Value.int .i64) (e := 3) rfl (.tmp 84) (.tmp 86) 25 rfl BB i0 (.int .i64 0) 8 Try.underlying25 hi0 hz0 hz1 hz2 rfl (.slice ra k rc) (partR RR OO r k) rfl (has_alloc HRG10.out.row_.has _) (.slice (some ⟨W10.heap.size, 0, none⟩) 1 1) [f] rfl (lies_lit1 (enc := Value.int .i64) _ rfl) (fun _ _ => rfl) (by rw [HPL.out]; simp only [List.length_cons, List.length_nil]; omega) (by rw [HPL.out]; simp only [List.length_cons, List.length_nil]; omega) (by have := HLE.out; simp; omega) ?_; intro v9 w9 hv9 hg9 hb9; have hg9' := grown_alloc hg9)
                  have HRG9 := HRG10.out.grow hv9 hg9' (fun k hk => (hb9 k hk).imp id (fun h => by simp at h; omega))
                  rw [← HPN.out] at HRG9
                  have HR9 := Lib.hid HRG9
                  have HCV9 := Lib.hid (HCV10.out.grown hg9' (fun k hk => .inr (HRG10.out.row_.has.lt k hk).1))
                  have HXC9 := Lib.hid (HXC10.out.grown hg9' (has_ne_c3 HRG10.out.row_.has HXC10.out (by decide)))
                  have HB9 : Hid (Below xb W1 w9) := HB10.out.grown hg9' (Nat.le_trans HXB.out HLE.out) (fun k hk => Nat.le_trans HXB.out (HRG10.out.row_.has.lt k hk).1)
                  clear hv9 hg9 hb9 hg9' HRG9 HRG10 HCV10 HXC10 HB10
                  go_wp2
                  go_roundw
                  case rel => exact ⟨k + 1, od', w9.heap.size, by omega, hod, by go_num, HON, hTN, HR9, HCV9, HXC9, HB9⟩
                  case measure => simp [intOf]; omega
        case neg =>
          obtain rfl : k = r.length := by omega
          have hkd : decide (r.length < bn) = false := decide_eq_false (by have := HRL.out; omega)
          have HON : Hid (Order RR OO od' (reachI Q (i + 1))) := by
            have h1 := hOR.out
            rw [midL_end HST.out, ← HQ.out] at h1
            exact h1
          have HPE : Hid (partR RR OO r r.length = minRow Q R (clsF RR OO tn)) := by
            show _ = _
            rw [HQ.out, HRE.out, HQ.out]
            exact partR_end (by rw [← HQ.out]; exact HROW.out)
          have HLT := Lib.hid (take_map_snoc (minRow Q R) HRI.out)
          have HLO := Lib.hid (take_map_snoc (fun s : Int => (outQ RR OO).getD s.toNat 0) HRI.out)
          have hRG8 := hRG.out
          rw [HPE.out] at hRG8
          have HRG8 := Lib.hid hRG8
          have d1 := HRG8.out.cells.c1
          have d2 := (HRG8.out.cells.alloc (.cells #[Value.slice ra r.length rc] 25)).c1
          have hpl := HRG8.out.cells.lt
          have HNP := Lib.hid (has_ne_c3 HRG8.out.top HRG8.out.cells (by decide))
          have HNC := Lib.hid (has_ne_c3 HRG8.out.top hXC.out (by decide))
          have HLO8 := Lib.hid (show BB ≤ W8.heap.size from Nat.le_trans HRG8.out.lo HRG8.out.le)
          clear hRG hRG8 hOR hlk hkl x1 x2
          go_wp2_with (at_builtin; refine wpList_append_list (enc := id) (e := 25) rfl (.tmp 89) (.tmp 91) 24 rfl BB i2 (.slice none 0 0) 24 Try.underlying24 hi2 hz20 hz21 hz22 rfl (.slice na l1 nc) us rfl (has_alloc HRG8.out.top _) (.slice (some ⟨W8.heap.size, 0, none⟩) 1 1) [.slice ra r.length rc] rfl (lies_lit1v _ rfl) (fun y hy => by simp at hy; subst hy; rfl) (by rw [HUSL.out]; simp; omega) (by rw [HUSL.out]; simp; omega) (by have := HLO8.out; simp; omega) ?_; intro v' w2 hv' hg2 _; obtain ⟨a3, c3, hvf, _⟩ := hv'.form; rw [show (us ++ [Value.slice ra r.length rc]).length = l1 + 1 from by rw [List.length_append, HUSL.out]; rfl] at hvf; subst hvf; have hg3 := grown_alloc hg2; have hc2 := HRG8.out.cells.grown hg3 HNP.out; have d3 := hc2.c1; have df := hc2.f)
          obtain ⟨l3, hl3⟩ : ∃ l, l = l1 + 1 := ⟨_, rfl⟩
          rw [← hl3] at hv' ⊢
          have HM5 := Lib.hid (HRG8.out.done hv' hg3)
          have HG5 : Hid (BB ≤ w2.heap.size) := Nat.le_trans HLO8.out hg3.size
          have hne1 : (p : Nat) ≠ xb := by have := HNUM.out; omega
          have hne2 : xb ≤ p := by have := HNUM.out; omega
          have hne3 : xb ≤ BB := by have := HNUM.out; omega
          have HC5 := Lib.hid ((hXC.out.grown hg3 HNC.out).other (a := ⟨p, 1, none⟩) hne1 (.slice a3 l3 c3))
          have HB5 : Hid (Below xb W1 (w2.setCell ⟨p, 1, none⟩ (.slice a3 l3 c3))) := (hB.out.grown hg3 (Nat.le_trans hne3 HLO8.out) (fun k hk => Nat.le_trans hne3 (HRG8.out.top.lt k hk).1)).setCell hne2 _
          have hcv5 := hCV.out.grown hg3 (fun k hk => .inr (HRG8.out.top.lt k hk).1)
          have HCV5 : Hid (OwnI (w2.setCell ⟨p, 1, none⟩ (.slice a3 l3 c3)) w.heap.size BB (.slice ca cls.length cc) cls) :=
            hcv5.set (a := ⟨p, 1, none⟩) (has_ne_c3 hcv5.has hc2 (by decide)) _
          have HG6 : Hid (BB ≤ (w2.setCell ⟨p, 1, none⟩ (.slice a3 l3 c3)).heap.size) := by show _ ≤ _; rw [size_setCell']; exact HG5.out
          obtain ⟨W5, hW5⟩ : ∃ W, W = w2.setCell ⟨p, 1, none⟩ (.slice a3 l3 c3) := ⟨_, rfl⟩
          rw [← hW5] at HM5 HC5 HB5 HCV5 HG6 ⊢
          have HW5 := Lib.hid (show w2.heap.size = W5.heap.size by rw [hW5, size_setCell'])
          rw [HW5.out] at HM5
          clear hcv5 hv' hg2 hg3 hc2 d1 d2 d3 df hpl HRG8 hXC hB hCV hW5 hl3 HNP HNC HLO8 HG5 x0 HEL HBW
          have HVO := Lib.hid HM5.out.terms
          have HOLN : Hid ((((R.take i).map fun s => (outQ RR OO).getD s.toNat 0)).length = l2) := HL2.out.symm
          obtain ⟨eq2, es2, ec2, he2, hel2⟩ := ints_at HM5.out.extra.has.lies (by omega)
          obtain ⟨rfl, rfl, rfl⟩ : eq = eq2 ∧ es = es2 ∧ ec' = ec2 := by
            injection he2 with h1 h2 h3
            injection h1 with h1
            injection h1 with h1 h2
            exact ⟨h1, h2, h3⟩
          have o1 := hel2 i _ hTN.out
          obtain ⟨po, oo, hpo, ho1⟩ : ∃ po oo, a2 = some ⟨po, oo, none⟩ ∧ W1.cell? ⟨po, oo + tn, none⟩ = some (.int .i64 o) := by
            obtain ⟨q', s', h1, h2⟩ := HX.out.cells.2 tn o HOO.out
            exact ⟨q', s', h1, h2⟩
          have HBW5 : Hid (Below W1.heap.size W1 W5) := by show Below _ _ _; rw [← HZX.out]; exact HB5.out
          have x2 := HC5.out.c2
          rw [hpo] at x2
          have o2 := old_cell HBW5.out ho1
          have c4 := HM5.out.cells.c2
          have c5 := (HM5.out.cells.alloc (.cells #[Value.int .i64 o] 3)).c2
          have hpl := HM5.out.cells.lt
          have hi00 : (0 : Int) ≤ (i : Int) := Int.natCast_nonneg _
          have ht0 : (0 : Int) ≤ (tn : Int) := Int.natCast_nonneg _
          have hio : (i : Int) < (od'.length : Int) := by omega
          have htO : (tn : Int) < (OO.length : Int) := by have := HOL.out; omega
          have HNO := Lib.hid (has_ne_c3 HVO.out.has HM5.out.cells (by decide))
          have HNC := Lib.hid (has_ne_c3 HVO.out.has HC5.out (by decide))
          clear hel2 he2 hpo ho1
          go_region_law ((refine step_append_at_list (enc := Value.int .i64) (e := 3) rfl (.tmp 95) (.tmp 104) 25 rfl BB i0 (.int .i64 0) 8 Try.underlying25 hi0 hz0 hz1 hz2 rfl (.slice oa l2 oc) ((R.take i).map fun s => (outQ RR OO).getD s.toNat 0) rfl (by repeat (first | with_reducible exact HVO.out.has | with_reducible apply has_drew | with_reducible apply has_alloc)) (Value.slice (some ⟨_, 0, none⟩) 1 1) [o] rfl (by repeat (first | with_reducible apply lies_drew | (with_reducible refine lies_lit1 (enc := Value.int .i64) _ rfl) | with_reducible apply lies_alloc)) (fun _ _ => rfl) (by rw [HOLN.out]; simp; omega) (by rw [HOLN.out]; simp; omega) (by have := HG6.out; simp; omega) ?_; intro vt w6 ho6 hg6 hb6; obtain ⟨a6, c6, hvf, _⟩ := ho6.form; rw [show (((R.take i).map fun s => (outQ RR OO).getD s.toNat 0) ++ [o]).length = l2 + 1 from by rw [List.length_append, HOLN.out]; rfl] at hvf; subst hvf; refine with_fact (T := W5.grownBy w6 (Value.slice oa l2 oc).ownBlock) ?_ ?_; (focus (exact grown_alloc (grown_drew hg6))); intro hg7; have hc7 := HM5.out.cells.grown hg7 HNO.out; have r1 := hc7.c2; have r3 := hc7.f))
          all_goals
            have hm7 := HM5.out.term ho6 hg7 (fun k hk => (hb6 k hk).imp id (fun h => by simp at h; omega))
            rw [← HLT.out] at hm7
            have HM8 : Hid (Making (w6.setCell ⟨p, 2, none⟩ (.slice a6 (l2 + 1) c6)) BB w6.heap.size p (bn : Int) (.slice a3 l3 c3) (.slice a6 (l2 + 1) c6) (.slice (some ⟨eq, es, none⟩) od'.length ec') (us ++ [.slice ra r.length rc]) ((R.take (i + 1)).map (minRow Q R)) ((R.take (i + 1)).map fun s => (outQ RR OO).getD s.toNat 0) od') := by
              have h1 := hm7
              rw [← HOQ.out, ← HLO.out] at h1
              exact h1
            have HC7 := Lib.hid ((HC5.out.grown hg7 HNC.out).other (a := ⟨p, 2, none⟩) hne1 (.slice a6 (l2 + 1) c6))
            have HB7 : Hid (Below xb W1 (w6.setCell ⟨p, 2, none⟩ (.slice a6 (l2 + 1) c6))) := (HB5.out.grown hg7 (Nat.le_trans hne3 HG6.out) (fun k hk => Nat.le_trans hne3 (HVO.out.has.lt k hk).1)).setCell hne2 _
            have hcv7 := HCV5.out.grown hg7 (fun k hk => .inr (HVO.out.has.lt k hk).1)
            have HCV7 : Hid (OwnI (w6.setCell ⟨p, 2, none⟩ (.slice a6 (l2 + 1) c6)) w.heap.size BB (.slice ca cls.length cc) cls) :=
              hcv7.set (a := ⟨p, 2, none⟩) (has_ne_c3 hcv7.has hc7 (by decide)) _
            clear ho6 hb6 hg6 hg7 hc7 r1 r3 c4 c5 o1 o2 x2 hpl HM5 HVO HNO HNC hm7 hcv7
            go_wp2
            go_roundw
            case rel => exact ⟨i + 1, od', _, _, _, w6.heap.size, by omega, hod, by go_num, HON, HM8, HCV7, HC7, HB7⟩
            case measure => simp [intOf]; omega
set_option maxHeartbeats 1000000 in
theorem spec_min (v : Value) (b : Int) (rows : List (List Int)) (out : List Int) (w : World) (h : LiesS w v b rows out) (hs : rows.length + tot rows + out.length ≤ 1048576) :
    Calls Try.prog 26 #[v] w (GivesK (formB b rows out) (minRV b rows out) (minOV b rows out) (formK b rows out) w) := by
  cases hk : formK b rows out with
  | false =>
    have hk' : ¬ formK b rows out = true := by rw [hk]; simp
    rw [minRV, if_neg hk', minOV, if_neg hk', formB, if_neg hk']
    exact spec_min_no v b rows out w h hs hk
  | true =>
    rw [minRV, if_pos hk, minOV, if_pos hk]
    exact spec_min_yes v b rows out w h hs hk
end Mins
end Go.Proofs.Ytdgfecjakmdheaa
/- Contracts of IsMinimal and AreSameTerms, program and model: by the minimal forms. Conditions: the arguments' sizes, as each states. -/
namespace Go.Proofs.Ytdgfecjakmdheaa
open Go.ChangeShapes Go.WideShapes Go.ChangeAt Go.RowKit
open Go.PlainAid Plain
set_option linter.unusedVariables false
namespace Mins
open Seqs
def isMinB (b : Int) (rows : List (List Int)) (out : List Int) : Bool := formK b rows out && ((minRV b rows out).length : Int) == (rows.length : Int)
def sameT (b b' : Int) (rows rows' : List (List Int)) (out out' : List Int) : Bool :=
  (formK b rows out && formK b' rows' out') && sameB (formB b rows out) (formB b' rows' out') (minRV b rows out) (minRV b' rows' out') (minOV b rows out) (minOV b' rows' out')
end Mins
end Go.Proofs.Ytdgfecjakmdheaa
