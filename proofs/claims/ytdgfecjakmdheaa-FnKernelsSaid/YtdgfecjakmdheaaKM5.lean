/- Several texts of this proof, one behind the other: each says ahead of it what it shows and under which conditions. -/
import Derived.Test.YtdgfecjakmdheaaKM2
import Derived.Test.YtdgfecjakmdheaaKM4
import Derived.Test.YtdgfecjakmdheaaKM3
import Derived.Test.YtdgfecjakmdheaaKM1
import Derived.Deep.RegionHeld3
import Derived.Deep.DeepCutAuto
/- Writes into slices that are the call's own. No conditions beyond those that each fact states. -/
namespace Go.Proofs.Ytdgfecjakmdheaa.Plain
open Go.RowKit
set_option linter.unusedVariables false
/-- A term is written into an own slice. -/
theorem OwnI.write {w : World} {lo hi g n cap : Nat} {xs : List Int} (h : OwnI w lo hi (.slice (some ⟨g, 0, none⟩) n cap) xs) (j : Nat) (x : Int) : OwnI (w.setCell ⟨g, j, none⟩ (.int .i64 x)) lo hi (.slice (some ⟨g, 0, none⟩) n cap) (xs.set j x) := by
  have h0 : w.ownsRow lo 3 1 (.slice (some ⟨g, 0, none⟩) n cap) xs.length (xs.map (Value.int .i64)) := h.has
  obtain ⟨a, c, hf, _⟩ := h.has.form
  injection hf with _ h2 _
  subst h2
  have h1 := (h0.stored j (.int .i64 x)).1
  refine ⟨?_, h.lt, by rw [size_setCell']; exact h.le⟩
  show World.ownsRow _ _ _ _ _ _ _
  rw [List.length_set, List.map_set]
  exact h1
theorem OwnRows.write {w : World} {lo hi i g n cap : Nat} {us : List Value} {rows : List (List Int)} {r : List Int} (h : OwnRows w lo hi us rows) (hu : us[i]? = some (.slice (some ⟨g, 0, none⟩) n cap)) (hr : rows[i]? = some r) (j : Nat) (x : Int) :
    OwnRows (w.setCell ⟨g, j, none⟩ (.int .i64 x)) lo hi us (rows.set i (r.set j x)) := by
  refine ⟨by rw [List.length_set]; exact h.len, fun k u r' a b => ?_, h.apart⟩
  by_cases hk : i = k
  · subst hk
    rw [hu] at a
    injection a with a
    subst a
    rw [List.getElem?_set_self (List.getElem?_eq_some_iff.1 hr).1] at b
    injection b with b
    subst b
    exact (h.row i _ r hu hr).write j x
  · rw [List.getElem?_set_ne hk] at b
    refine (h.row k u r' a b).set (a := ⟨g, j, none⟩) ?_ _
    intro e
    rcases h.apart i k _ u hu a hk with h1 | h1
    · cases h1
    · exact h1 e.symm
theorem Building.write {w : World} {base hi p i g n cap : Nat} {b : Int} {vn vo : Value} {us : List Value} {rows : List (List Int)} {out r : List Int} (h : Building w base hi p b vn vo us rows out) (hu : us[i]? = some (.slice (some ⟨g, 0, none⟩) n cap)) (hr : rows[i]? = some r) (j : Nat) (x : Int) :
    Building (w.setCell ⟨g, j, none⟩ (.int .i64 x)) base hi p b vn vo us (rows.set i (r.set j x)) out := by
  have hI : OwnI w base hi (.slice (some ⟨g, 0, none⟩) n cap) r := h.rows.row (i + 1) _ r hu hr
  have h1 := h.rows.write (i := i + 1) hu hr j x
  have h2 : vn.ownBlock ≠ some g := by
    rcases h.top.ne_top hI.has with e | e
    · rw [e]; simp
    · exact e
  have h3 : g ≠ p := fun e => has_ne_c3 hI.has h.cells (by decide) (by rw [← e]; rfl)
  exact ⟨h.top.set (a := ⟨g, j, none⟩) h2 _, h1, h.cells.other (a := ⟨g, j, none⟩) h3 _, h.lo, by rw [size_setCell']; exact h.le⟩
/-- The sequence whose first row's or slice of terms' cell j is written. -/
theorem OwnS.parts_own {w : World} {lo hi : Nat} {v : Value} {b : Int} {rows : List (List Int)} {out : List Int} (h : OwnS w lo hi v b rows out) :
    ∃ an cn ao co us, v = .agg #[.int .i64 b, .slice an rows.length cn, .slice ao out.length co] ∧ OwnR w lo hi (.slice an rows.length cn) us rows ∧ OwnRows w lo hi (us ++ [.slice ao out.length co]) (rows ++ [out]) := by
  obtain ⟨vn, vo, us, rfl, h1, h2⟩ := h
  obtain ⟨an, cn, hn, _⟩ := h1.top.form
  obtain ⟨ao, co, ho⟩ := h2.last.form
  rw [h1.rows.len] at hn
  subst hn; subst ho
  exact ⟨an, cn, ao, co, us, rfl, h1, h2⟩
theorem own_at {w : World} {base : Nat} {v : Value} {xs : List Int} (h : Has (Value.int .i64) 3 w base v xs) (hp : 0 < xs.length) : ∃ g c, v = .slice (some ⟨g, 0, none⟩) xs.length c ∧ base ≤ g ∧ g < w.heap.size := by
  obtain ⟨a, c, rfl, hg⟩ := h.form
  obtain ⟨g, rfl⟩ := hg hp
  exact ⟨g, c, rfl, (h.lt g rfl).1, (h.lt g rfl).2⟩
theorem own_outj {w : World} {lo hi : Nat} {vn : Value} {ao : Option Addr} {co : Nat} {b : Int} {rows : List (List Int)} {out : List Int} (h : OwnS w lo hi (.agg #[.int .i64 b, vn, .slice ao out.length co]) b rows out) (j : Nat) (h0 : j < out.length) :
    ∃ g, ao = some ⟨g, 0, none⟩ ∧ lo ≤ g ∧ g < hi ∧ w.frozen? ⟨g, j, none⟩ = false ∧ (∃ y, w.cell? ⟨g, j, none⟩ = some y) ∧ ∀ x : Int, OwnS (w.setCell ⟨g, j, none⟩ (.int .i64 x)) lo hi (.agg #[.int .i64 b, vn, .slice ao out.length co]) b rows (out.set j x) := by
  obtain ⟨vn', vo', us, hv, hr, ho⟩ := h
  simp at hv
  obtain ⟨rfl, rfl⟩ := hv
  have hI := ho.last
  obtain ⟨g, c, hg, hl, _⟩ := own_at hI.has (show 0 < out.length by omega)
  injection hg with h1 _ h3
  subst h1; subst h3
  have hO : w.ownsRow lo 3 1 (.slice (some ⟨g, 0, none⟩) out.length co) out.length (out.map (Value.int .i64)) := hI.has
  refine ⟨g, rfl, hl, hI.lt g rfl, hO.frozenAt j, ?_, fun x => ?_⟩
  · have y3 := hO.cellAt j (by omega)
    rw [List.getElem?_map, List.getElem?_eq_getElem h0, Option.map_some] at y3
    exact ⟨_, y3⟩
  · have hu : (us ++ [Value.slice (some ⟨g, 0, none⟩) out.length co])[us.length]? = some (.slice (some ⟨g, 0, none⟩) out.length co) := by simp
    have hq : (rows ++ [out])[us.length]? = some out := by rw [hr.rows.len]; simp
    have h2 := ho.write hu hq j x
    rw [hr.rows.len, List.set_append_right _ _ (Nat.le_refl _), Nat.sub_self, List.set_cons_zero] at h2
    have ht : vn.ownBlock ≠ some g := by
      rcases hr.top.ne_top hI.has with e | e
      · rw [e]; simp
      · exact e
    have hne : ∀ u ∈ us, u.ownBlock ≠ some g := fun u hu e => by
      obtain ⟨i, hi'⟩ := List.getElem?_of_mem hu
      have hlt := (List.getElem?_eq_some_iff.1 hi').1
      rcases ho.apart i us.length u (.slice (some ⟨g, 0, none⟩) out.length co) (by rw [List.getElem?_append_left hlt]; exact hi') (by simp) (by omega) with e' | e'
      · rw [e] at e'; cases e'
      · exact e' e
    exact ⟨vn, _, us, rfl, ⟨hr.top.set (a := ⟨g, j, none⟩) ht _, hr.lt, by rw [size_setCell']; exact hr.le, hr.rows.set (a := ⟨g, j, none⟩) hne _⟩, h2⟩
theorem own_wide {w : World} {lo hi hi' : Nat} {v : Value} {b : Int} {rows : List (List Int)} {out : List Int} (h : OwnS w lo hi v b rows out) (h1 : hi ≤ hi') (h2 : hi' ≤ w.heap.size) : OwnS w lo hi' v b rows out := by
  obtain ⟨vn, vo, us, rfl, hr, ho⟩ := h
  exact ⟨vn, vo, us, rfl, ⟨hr.top, fun k hk => Nat.lt_of_lt_of_le (hr.lt k hk) h1, h2, hr.rows.mono h1 h2⟩, ho.mono h1 h2⟩
end Go.Proofs.Ytdgfecjakmdheaa.Plain
/- Contracts of SubTerms, of the program and of the model. No conditions beyond those that each states. -/
namespace Go.Proofs.Ytdgfecjakmdheaa
open Go.ChangeShapes Go.WideShapes Go.ChangeAt Go.RowKit
open Go.PlainAid Plain
set_option linter.unusedVariables false
namespace Kern
open Seqs Mins
theorem old_cellC {w w' : World} {p o : Nat} {u : Value} (hb : Below w.heap.size w w') (h : w.cell? ⟨p, o, none⟩ = some u) : w'.cell? ⟨p, o, none⟩ = some u := (hb.cell (p := ⟨p, o, none⟩) (World.block_lt_of_cell? w _ h)).trans h
/-- What the cells of a sequence that lies say of one step. -/
theorem step_cells {w : World} {b : Int} {rows : List (List Int)} {out : List Int} {an ao : Option Addr} {cn co : Nat} (h : LiesS w (.agg #[.int .i64 b, .slice an rows.length cn, .slice ao out.length co]) b rows out) (hv : IsSeq b rows out) {x : Nat} (hx : x < rows.length) {d : Nat} (hd : (d : Int) < b) :
    ∃ p o q t c n, an = some ⟨p, o, none⟩ ∧ w.cell? ⟨p, o + x, none⟩ = some (.slice (some ⟨q, t, none⟩) n c) ∧ d < n ∧ w.cell? ⟨q, t + d, none⟩ = some (.int .i64 (nextS rows x d)) := by
  obtain ⟨r, hr⟩ : ∃ r, rows[x]? = some r := ⟨_, List.getElem?_eq_getElem hx⟩
  have hl := (hv.2.2.2.2.2.1 r (List.mem_of_getElem? hr)).1
  obtain ⟨p, o, a', ca', rfl, hu, hc⟩ := h.cells.1 x r hr
  obtain ⟨y, hy⟩ : ∃ y, r[d]? = some y := ⟨_, List.getElem?_eq_getElem (by omega)⟩
  obtain ⟨q, t, rfl, hcy⟩ := hc d y hy
  refine ⟨p, o, q, t, ca', r.length, rfl, hu, by omega, ?_⟩
  rw [hcy]
  have e : nextS rows (x : Int) (d : Int) = y := by
    unfold nextS
    rw [Int.toNat_natCast, Int.toNat_natCast, List.getD_eq_getElem?_getD (l := rows), hr, Option.getD_some, List.getD_eq_getElem?_getD, hy]
    rfl
  rw [e]
def subX (R : List (List Int)) (O : List Int) (r : Int) (i : Nat) : Int := O.getD (nextS R i r).toNat 0
def subP (R : List (List Int)) (O : List Int) (r : Int) (i : Nat) : List Int := (List.range i).map (subX R O r)
def subT (R : List (List Int)) (O : List Int) (r : Int) : List Int := subP R O r R.length
def subOK (b : Int) (rows : List (List Int)) (out : List Int) (r : Int) : Bool := formK b rows out && decide (0 ≤ r ∧ r < b)
def subE (b : Int) (rows : List (List Int)) (out : List Int) (r : Int) : List Int := subT (formR b rows out) (formO b rows out) r
def subK (b : Int) (rows : List (List Int)) (out : List Int) (r : Int) : Bool := subOK b rows out r && formK (formB b rows out) (formR b rows out) (subE b rows out r)
def subB (b : Int) (rows : List (List Int)) (out : List Int) (r : Int) : Int := if subOK b rows out r = true then formB (formB b rows out) (formR b rows out) (subE b rows out r) else 0
def subR (b : Int) (rows : List (List Int)) (out : List Int) (r : Int) : List (List Int) := if subOK b rows out r = true then minRV (formB b rows out) (formR b rows out) (subE b rows out r) else []
def subO (b : Int) (rows : List (List Int)) (out : List Int) (r : Int) : List Int := if subOK b rows out r = true then minOV (formB b rows out) (formR b rows out) (subE b rows out r) else []
theorem sub_no {b : Int} {rows : List (List Int)} {out : List Int} {r : Int} (h : subOK b rows out r = false) : subB b rows out r = 0 ∧ subR b rows out r = [] ∧ subO b rows out r = [] ∧ subK b rows out r = false := by
  unfold subB subR subO subK
  rw [h]
  simp
theorem sub_yes {b : Int} {rows : List (List Int)} {out : List Int} {r : Int} (h : subOK b rows out r = true) : subB b rows out r = formB (formB b rows out) (formR b rows out) (subE b rows out r) ∧ subR b rows out r = minRV (formB b rows out) (formR b rows out) (subE b rows out r) ∧ subO b rows out r = minOV (formB b rows out) (formR b rows out) (subE b rows out r) ∧ subK b rows out r = formK (formB b rows out) (formR b rows out) (subE b rows out r) := by
  unfold subB subR subO subK
  rw [h]
  simp
theorem sub_parts {b : Int} {rows : List (List Int)} {out : List Int} {r : Int} (h : subOK b rows out r = true) : formK b rows out = true ∧ 0 ≤ r ∧ r < b := by
  rw [subOK, Bool.and_eq_true, decide_eq_true_eq] at h
  exact h
theorem sub_out {b : Int} {rows : List (List Int)} {out : List Int} {r : Int} (h : subOK b rows out r = false) : formK b rows out = false ∨ (formK b rows out = true ∧ r < 0) ∨ (formK b rows out = true ∧ ¬ r < 0 ∧ b ≤ r) := by
  cases hk : formK b rows out with
  | false => exact .inl rfl
  | true =>
    rw [subOK, hk, Bool.true_and, decide_eq_false_iff_not] at h
    by_cases h0 : r < 0
    · exact .inr (.inl ⟨rfl, h0⟩)
    · exact .inr (.inr ⟨rfl, h0, by omega⟩)
theorem subP_len (R : List (List Int)) (O : List Int) (r : Int) (i : Nat) : (subP R O r i).length = i := by simp [subP]
theorem subP_succ (R : List (List Int)) (O : List Int) (r : Int) (i : Nat) : subP R O r (i + 1) = subP R O r i ++ [subX R O r i] := by simp [subP, List.range_succ]
theorem sub_size (b : Int) (rows : List (List Int)) (out : List Int) (r : Int) : tot (subR b rows out r) + (subO b rows out r).length ≤ 1000 := by
  unfold subR subO
  split
  · exact min_size
  · simp [tot]
theorem subP_set (R : List (List Int)) (O : List Int) (r : Int) (i n : Nat) (L : List Int) (hL : L.length = n) (h : i < n) : ((subP R O r i ++ L.drop i).map (Value.int .i64)).set i (.int .i64 (subX R O r i)) = (subP R O r (i + 1) ++ L.drop (i + 1)).map (Value.int .i64) := by
  rw [← List.map_set, List.set_append_right _ _ (by rw [subP_len]; omega), subP_len, Nat.sub_self, List.drop_eq_getElem_cons (by omega), List.set_cons_zero, subP_succ, List.append_assoc]
  rfl
theorem lies_of_parts {w : World} {b : Int} {rows : List (List Int)} {out ts : List Int} {vn vo vt : Value} (h : LiesS w (.agg #[.int .i64 b, vn, vo]) b rows out) (ht : Lies (Value.int .i64) w vt ts) : LiesS w (.agg #[.int .i64 b, vn, vt]) b rows ts := by
  obtain ⟨vn', vo', hv, h1, h2⟩ := h
  simp at hv
  obtain ⟨rfl, rfl⟩ := hv
  exact ⟨_, _, rfl, h1, ht⟩
set_option maxRecDepth 100000 in
set_option maxHeartbeats 2000000 in
theorem impl_sub_no (v : Value) (b : Int) (rows : List (List Int)) (out : List Int) (w : World) (h : LiesS w v b rows out) (r : Int) (hs : rows.length + tot rows + out.length ≤ 1048576) (hno : subOK b rows out r = false) :
    Calls Try.prog 18 #[v, .int .i64 r] w (GivesK 0 [] [] false w) := by
  have HS := Lib.hid h
  obtain ⟨an, cn, ao, co, rfl⟩ := h.form
  clear h
  have HB : Hid (Below w.heap.size w (w.alloc (Obj.cells #[Value.int .i64 b, Value.slice an rows.length cn, Value.slice ao out.length co] 27))) := (Below.refl _ _).alloc (Nat.le_refl _) _
  have HC := Lib.hid (Cells3.new w 27 (.int .i64 b) (.slice an rows.length cn) (.slice ao out.length co))
  have HB1 := Lib.hid (HB.out.alloc (by simp only [size_alloc'] <;> omega) (Obj.cells #[Value.int .i64 0, Value.slice none 0 0, Value.slice none 0 0] 27))
  have HC1 := Lib.hid (HC.out.alloc (Obj.cells #[Value.int .i64 0, Value.slice none 0 0, Value.slice none 0 0] 27))
  have hZ := Cells3.new (w.alloc (Obj.cells #[Value.int .i64 b, Value.slice an rows.length cn, Value.slice ao out.length co] 27)) 27 (.int .i64 0) (.slice none 0 0) (.slice none 0 0)
  rw [size_alloc'] at hZ
  have HZ1 := Lib.hid hZ
  have HSZ := Lib.hid hs
  clear hZ HB HC hs
  have k0 := HC1.out.c0
  have k1 := HC1.out.c1
  have k2 := HC1.out.c2
  have HCF := Lib.hid (fun (W : World) (hW : Below w.heap.size w W) => impl_form _ b rows out W (HS.out.below hW) HSZ.out)
  obtain ⟨B, hBB⟩ : ∃ B, B = formB b rows out := ⟨_, rfl⟩
  obtain ⟨RR, hRR⟩ : ∃ R, R = formR b rows out := ⟨_, rfl⟩
  obtain ⟨OO, hOO⟩ : ∃ O, O = formO b rows out := ⟨_, rfl⟩
  rw [← hBB, ← hRR, ← hOO] at HCF
  clear hBB hRR hOO
  rcases sub_out hno with hk | ⟨hk, h0⟩ | ⟨hk, h0, h1⟩
  · rw [hk] at HCF
    clear hno hk
    go_enter Try.func18, Try.ntmps18
    go_wp2_with fail
    refine (HCF.out _ HB1.out).mono ?_
    rintro e W1 ⟨v1, rfl, hv1, b1⟩
    obtain ⟨a1, c1, a2, c2, rfl⟩ := hv1.form
    have hbx : Below W1.heap.size W1 (W1.alloc (.cells #[.int .i64 B, .slice a1 RR.length c1, .slice a2 OO.length c2] 27)) := (Below.refl _ _).alloc (Nat.le_refl _) _
    have HB2 := Lib.hid (HB1.out.trans (b1.mono HB1.out.size))
    have HB3 := Lib.hid (HB2.out.trans (hbx.mono HB2.out.size))
    have HC3 := Lib.hid ((HC1.out.below b1).below hbx)
    have HZ3 := Lib.hid ((HZ1.out.below b1).below hbx)
    have HX3 := Lib.hid (Cells3.new W1 27 (.int .i64 B) (.slice a1 RR.length c1) (.slice a2 OO.length c2))
    have HL3 := Lib.hid (hv1.lies.below hbx)
    have HN3 := Lib.hid (show w.heap.size + 1 < W1.heap.size from (HZ1.out.below b1).lt)
    clear hv1 b1 k0 k1 k2 HB1 HC1 HZ1 HB2 hbx
    have HZR := HZ3
    have HBR := HB3
    have k0 := HC3.out.c0
    obtain ⟨z0, z1, z2⟩ := (⟨HZR.out.c0, HZR.out.c1, HZR.out.c2⟩ : _ ∧ _ ∧ _)
    have z3 := HZR.out.f
    go_wp2
    have hZ3 := (((HZR.out.set0 (.int .i64 0)).set1 (.slice none 0 0)).set2 (.slice none 0 0))
    have n0 := hZ3.c0
    have n1 := hZ3.c1
    have n2 := hZ3.c2
    refine bodyPost_ret (v := .tuple #[.agg #[.int .i64 0, .slice none 0 0, .slice none 0 0], .bool false]) (by simp [results, Try.results18, go_sem, n0, n1, n2]) rfl ⟨_, rfl, OwnS.zero _, ?_⟩
    exact ((HBR.out.setCell (Nat.le_succ _) _).setCell (Nat.le_succ _) _).setCell (Nat.le_succ _) _
  · rw [hk] at HCF
    have hd0 := decide_eq_true h0
    clear hno hk h0
    go_enter Try.func18, Try.ntmps18
    go_wp2_with fail
    refine (HCF.out _ HB1.out).mono ?_
    rintro e W1 ⟨v1, rfl, hv1, b1⟩
    obtain ⟨a1, c1, a2, c2, rfl⟩ := hv1.form
    have hbx : Below W1.heap.size W1 (W1.alloc (.cells #[.int .i64 B, .slice a1 RR.length c1, .slice a2 OO.length c2] 27)) := (Below.refl _ _).alloc (Nat.le_refl _) _
    have HB2 := Lib.hid (HB1.out.trans (b1.mono HB1.out.size))
    have HB3 := Lib.hid (HB2.out.trans (hbx.mono HB2.out.size))
    have HC3 := Lib.hid ((HC1.out.below b1).below hbx)
    have HZ3 := Lib.hid ((HZ1.out.below b1).below hbx)
    have HX3 := Lib.hid (Cells3.new W1 27 (.int .i64 B) (.slice a1 RR.length c1) (.slice a2 OO.length c2))
    have HL3 := Lib.hid (hv1.lies.below hbx)
    have HN3 := Lib.hid (show w.heap.size + 1 < W1.heap.size from (HZ1.out.below b1).lt)
    clear hv1 b1 k0 k1 k2 HB1 HC1 HZ1 HB2 hbx
    have HZR := HZ3
    have HBR := HB3
    have k0 := HC3.out.c0
    obtain ⟨z0, z1, z2⟩ := (⟨HZR.out.c0, HZR.out.c1, HZR.out.c2⟩ : _ ∧ _ ∧ _)
    have z3 := HZR.out.f
    go_wp2
    have hZ3 := (((HZR.out.set0 (.int .i64 0)).set1 (.slice none 0 0)).set2 (.slice none 0 0))
    have n0 := hZ3.c0
    have n1 := hZ3.c1
    have n2 := hZ3.c2
    refine bodyPost_ret (v := .tuple #[.agg #[.int .i64 0, .slice none 0 0, .slice none 0 0], .bool false]) (by simp [results, Try.results18, go_sem, n0, n1, n2]) rfl ⟨_, rfl, OwnS.zero _, ?_⟩
    exact ((HBR.out.setCell (Nat.le_succ _) _).setCell (Nat.le_succ _) _).setCell (Nat.le_succ _) _
  · rw [hk] at HCF
    have hd0 := decide_eq_false h0
    have hd1 := decide_eq_true h1
    clear hno hk h0 h1
    go_enter Try.func18, Try.ntmps18
    go_wp2_with fail
    refine (HCF.out _ HB1.out).mono ?_
    rintro e W1 ⟨v1, rfl, hv1, b1⟩
    obtain ⟨a1, c1, a2, c2, rfl⟩ := hv1.form
    have hbx : Below W1.heap.size W1 (W1.alloc (.cells #[.int .i64 B, .slice a1 RR.length c1, .slice a2 OO.length c2] 27)) := (Below.refl _ _).alloc (Nat.le_refl _) _
    have HB2 := Lib.hid (HB1.out.trans (b1.mono HB1.out.size))
    have HB3 := Lib.hid (HB2.out.trans (hbx.mono HB2.out.size))
    have HC3 := Lib.hid ((HC1.out.below b1).below hbx)
    have HZ3 := Lib.hid ((HZ1.out.below b1).below hbx)
    have HX3 := Lib.hid (Cells3.new W1 27 (.int .i64 B) (.slice a1 RR.length c1) (.slice a2 OO.length c2))
    have HL3 := Lib.hid (hv1.lies.below hbx)
    have HN3 := Lib.hid (show w.heap.size + 1 < W1.heap.size from (HZ1.out.below b1).lt)
    clear hv1 b1 k0 k1 k2 HB1 HC1 HZ1 HB2 hbx
    have HZR := HZ3
    have HBR := HB3
    have k0 := HC3.out.c0
    obtain ⟨z0, z1, z2⟩ := (⟨HZR.out.c0, HZR.out.c1, HZR.out.c2⟩ : _ ∧ _ ∧ _)
    have z3 := HZR.out.f
    go_wp2
    have hZ3 := (((HZR.out.set0 (.int .i64 0)).set1 (.slice none 0 0)).set2 (.slice none 0 0))
    have n0 := hZ3.c0
    have n1 := hZ3.c1
    have n2 := hZ3.c2
    refine bodyPost_ret (v := .tuple #[.agg #[.int .i64 0, .slice none 0 0, .slice none 0 0], .bool false]) (by simp [results, Try.results18, go_sem, n0, n1, n2]) rfl ⟨_, rfl, OwnS.zero _, ?_⟩
    exact ((HBR.out.setCell (Nat.le_succ _) _).setCell (Nat.le_succ _) _).setCell (Nat.le_succ _) _
set_option maxRecDepth 100000 in
set_option maxHeartbeats 4000000 in
theorem impl_sub_yes (v : Value) (b : Int) (rows : List (List Int)) (out : List Int) (w : World) (h : LiesS w v b rows out) (r : Int) (hs : rows.length + tot rows + out.length ≤ 1048576) (hok : subOK b rows out r = true) :
    Calls Try.prog 18 #[v, .int .i64 r] w (GivesK (formB (formB b rows out) (formR b rows out) (subE b rows out r)) (minRV (formB b rows out) (formR b rows out) (subE b rows out r)) (minOV (formB b rows out) (formR b rows out) (subE b rows out r)) (formK (formB b rows out) (formR b rows out) (subE b rows out r)) w) := by
  obtain ⟨i0, hi, hz0, hz1, hz2⟩ := info_parts Ints.infoI
  have HS := Lib.hid h
  obtain ⟨an, cn, ao, co, rfl⟩ := h.form
  clear h
  have HB : Hid (Below w.heap.size w (w.alloc (Obj.cells #[Value.int .i64 b, Value.slice an rows.length cn, Value.slice ao out.length co] 27))) := (Below.refl _ _).alloc (Nat.le_refl _) _
  have HC := Lib.hid (Cells3.new w 27 (.int .i64 b) (.slice an rows.length cn) (.slice ao out.length co))
  have HB1 := Lib.hid (HB.out.alloc (by simp only [size_alloc'] <;> omega) (Obj.cells #[Value.int .i64 0, Value.slice none 0 0, Value.slice none 0 0] 27))
  have HC1 := Lib.hid (HC.out.alloc (Obj.cells #[Value.int .i64 0, Value.slice none 0 0, Value.slice none 0 0] 27))
  have hZ := Cells3.new (w.alloc (Obj.cells #[Value.int .i64 b, Value.slice an rows.length cn, Value.slice ao out.length co] 27)) 27 (.int .i64 0) (.slice none 0 0) (.slice none 0 0)
  rw [size_alloc'] at hZ
  have HZ1 := Lib.hid hZ
  have HSZ := Lib.hid hs
  clear hZ HB HC hs
  have k0 := HC1.out.c0
  have k1 := HC1.out.c1
  have k2 := HC1.out.c2
  have HCF := Lib.hid (fun (W : World) (hW : Below w.heap.size w W) => impl_form _ b rows out W (HS.out.below hW) HSZ.out)
  obtain ⟨hk, h0, h1⟩ := sub_parts hok
  have hval := form_valid hk
  rw [hk] at HCF
  have hbb : formB b rows out = b := by rw [formB, if_pos hk]
  unfold subE
  rw [hbb] at HCF hval ⊢
  obtain ⟨RR, hRR⟩ : ∃ R, R = formR b rows out := ⟨_, rfl⟩
  obtain ⟨OO, hOO⟩ : ∃ O, O = formO b rows out := ⟨_, rfl⟩
  rw [← hRR, ← hOO] at HCF hval ⊢
  clear hRR hOO hbb hk hok
  obtain ⟨B, hBB⟩ : ∃ B, B = b := ⟨_, rfl⟩
  subst hBB
  have hval' := hval
  have HVAL := Lib.hid hval'
  have hd0 := decide_eq_false (show ¬ r < 0 by omega)
  have hd1 := decide_eq_false (show ¬ B ≤ r by omega)
  have hr1 : r < B := h1
  obtain ⟨rn, rfl⟩ : ∃ rn : Nat, r = (rn : Int) := ⟨r.toNat, by omega⟩
  have hol1 : RR.length ≤ OO.length := by have := hval'.2.2.2.2.1; omega
  have hol2 : OO.length ≤ RR.length := by have := hval'.2.2.2.2.1; omega
  have HOL := Lib.hid (show OO.length = RR.length by omega)
  have hn16 : RR.length ≤ 16 := hval'.2.2.2.1
  have HTT := Lib.hid (show tot RR ≤ 64 by have := tot_le4 RR (fun q hq => by have := (hval'.2.2.2.2.2.1 q hq).1; have := hval'.2.1; omega); omega)
  clear hval hval' h0 h1
  have hrn0 : (0 : Int) ≤ (rn : Int) := Int.natCast_nonneg _
  have HCM0 := Lib.hid (fun (W : World) (u : Value) (l : LiesS W u B RR (subT RR OO rn)) (q : RR.length + tot RR + (subT RR OO rn).length ≤ 1048576) => impl_min u B RR (subT RR OO rn) W l q)
  obtain ⟨R2, hR2⟩ : ∃ R, R = minRV B RR (subT RR OO rn) := ⟨_, rfl⟩
  obtain ⟨O2, hO2⟩ : ∃ R, R = minOV B RR (subT RR OO rn) := ⟨_, rfl⟩
  obtain ⟨B2, hB2⟩ : ∃ R, R = formB B RR (subT RR OO rn) := ⟨_, rfl⟩
  obtain ⟨K2, hK2⟩ : ∃ R, R = formK B RR (subT RR OO rn) := ⟨_, rfl⟩
  rw [← hR2, ← hO2, ← hB2, ← hK2] at HCM0 ⊢
  clear hR2 hO2 hB2 hK2
  go_enter Try.func18, Try.ntmps18
  go_wp2_with fail
  refine (HCF.out _ HB1.out).mono ?_
  rintro e W1 ⟨v1, rfl, hv1, b1⟩
  obtain ⟨a1, c1, a2, c2, rfl⟩ := hv1.form
  have hbx : Below W1.heap.size W1 (W1.alloc (.cells #[.int .i64 B, .slice a1 RR.length c1, .slice a2 OO.length c2] 27)) := (Below.refl _ _).alloc (Nat.le_refl _) _
  have HB2 := Lib.hid (HB1.out.trans (b1.mono HB1.out.size))
  have HB3 := Lib.hid (HB2.out.trans (hbx.mono HB2.out.size))
  have HC3 := Lib.hid ((HC1.out.below b1).below hbx)
  have HZ3 := Lib.hid ((HZ1.out.below b1).below hbx)
  have HX3 := Lib.hid (Cells3.new W1 27 (.int .i64 B) (.slice a1 RR.length c1) (.slice a2 OO.length c2))
  have HL3 := Lib.hid (hv1.lies.below hbx)
  have HN3 := Lib.hid (show w.heap.size + 1 < W1.heap.size from (HZ1.out.below b1).lt)
  clear hv1 b1 k0 k1 k2 HB1 HC1 HZ1 HB2 hbx
  have k0 := HC3.out.c0
  have j0 := HX3.out.c0
  have j1 := HX3.out.c1
  have j2 := HX3.out.c2
  go_wp2_with (at_make; refine wpList_make_full (W1.alloc (.cells #[.int .i64 B, .slice a1 RR.length c1, .slice a2 OO.length c2] 27)) rfl _ _ 25 rfl (W1.alloc (.cells #[.int .i64 B, .slice a1 RR.length c1, .slice a2 OO.length c2] 27)).heap.size 3 i0 (.int .i64 0) 1 Try.underlying25 hi hz0 hz1 .i64 .i64 _ _ OO.length rfl rfl rfl rfl (by rw [hz2]; omega) (by unfold maxLen; omega) (Nat.le_refl _) ?_; intro W3 hown hgrow; have q1 := (HX3.out.below (below_of_grown hgrow)).c1; have q2 := (HX3.out.below (below_of_grown hgrow)).c2)
  obtain ⟨xb, hxb⟩ : ∃ x, x = W1.heap.size := ⟨_, rfl⟩
  obtain ⟨z, hz⟩ : ∃ z, z = W1.heap.size + 1 := ⟨_, rfl⟩
  have hza : (W1.alloc (.cells #[.int .i64 B, .slice a1 RR.length c1, .slice a2 OO.length c2] 27)).heap.size = z := by rw [hz, size_alloc']
  have hzx : xb < z := by rw [hz, hxb]; exact Nat.lt_succ_self _
  have hO : Hid (W3.ownsRow z 3 1 (.slice (some ⟨z, 0, none⟩) OO.length OO.length) OO.length ((subP RR OO rn 0 ++ (List.replicate OO.length (0 : Int)).drop 0).map (Value.int .i64))) := by
    show W3.ownsRow _ _ _ _ _ _
    rw [Ints.zero_made, hza] at hown
    simpa [subP] using hown
  have hb := below_of_grown hgrow
  have hB := Lib.hid (HB3.out.trans (hb.mono HB3.out.size))
  have hZ := Lib.hid (HZ3.out.below hb)
  have hX := Lib.hid (HX3.out.below hb)
  have hL := Lib.hid (HL3.out.below hb)
  rw [← hxb] at hX HN3
  rw [← hz, ← hxb]
  have HNZ := HN3
  have hBX : Hid (Below z W3 W3) := Below.refl _ _
  have hzs : Hid (z ≤ W3.heap.size) := by rw [← hza]; exact hb.size
  have hWX : Hid (∃ W0 : World, W0.heap.size = z ∧ Below z W0 W3 ∧ LiesS W0 (.agg #[.int .i64 B, .slice a1 RR.length c1, .slice a2 OO.length c2]) B RR OO) := ⟨_, hza, by rw [← hza]; exact hb, HL3.out⟩
  clear hown hgrow hb hxb hz hza HB3 HC3 HZ3 HX3 HL3 HN3 k0 hBX hL
  have m1 := hX.out.c1
  have m2 := hX.out.c2
  clear j0 j1 j2 q1 q2
  go_loopw [36] (fun i' wr => ∃ i : Nat, i ≤ RR.length ∧ i' = .int .i64 i ∧ Hid (wr.ownsRow z 3 1 (.slice (some ⟨z, 0, none⟩) OO.length OO.length) OO.length ((subP RR OO rn i ++ (List.replicate OO.length (0 : Int)).drop i).map (Value.int .i64))) ∧ Hid (Cells3 wr xb 27 (.int .i64 B) (.slice a1 RR.length c1) (.slice a2 OO.length c2)) ∧ Hid (Cells3 wr (w.heap.size + 1) 27 (.int .i64 0) (.slice none 0 0) (.slice none 0 0)) ∧ Hid (Below w.heap.size w wr) ∧ Hid (z ≤ wr.heap.size) ∧ Hid (∃ W0 : World, W0.heap.size = z ∧ Below z W0 wr ∧ LiesS W0 (.agg #[.int .i64 B, .slice a1 RR.length c1, .slice a2 OO.length c2]) B RR OO)) (fun i' _ => RR.length - (intOf i').toNat)
  case atStart => exact ⟨0, Nat.zero_le _, rfl, hO, hX, hZ, hB, hzs, hWX⟩
  case round =>
    clear hO hX hZ hB hzs hWX m1 m2
    obtain ⟨i, hil, rfl, hO, hX, hZ, hB, hzs, hWX⟩ := hrel
    obtain ⟨W4, rfl⟩ : ∃ W : World, W = wr := ⟨_, rfl⟩
    obtain ⟨W0, hw0, hb0, hl0⟩ := hWX.out
    have j0 := hX.out.c0
    have j1 := hX.out.c1
    have j2 := hX.out.c2
    by_cases hlt : i < RR.length
    case pos =>
      obtain ⟨pq, po, q, t, c, n, he1, hc1, hdn, hc2⟩ := step_cells hl0 HVAL.out hlt hr1
      obtain ⟨hx0, hx1⟩ := HVAL.out.next (s := (i : Int)) (d := (rn : Int)) (Int.natCast_nonneg _) (by omega) hrn0 hr1 |>.elim fun _ h => h.2.2
      obtain ⟨y, hy⟩ : ∃ y : Nat, nextS RR i rn = (y : Int) := ⟨(nextS RR i rn).toNat, by omega⟩
      have hyl : y < OO.length := by omega
      obtain ⟨x, hxv⟩ : ∃ x, OO[y]? = some x := ⟨_, List.getElem?_eq_getElem hyl⟩
      have HXV : Hid (subX RR OO rn i = x) := by show _ = _; rw [subX, hy, Int.toNat_natCast, List.getD_eq_getElem?_getD, hxv]; rfl
      obtain ⟨oq, os, he2, hc3⟩ := hl0.cells.2 y x hxv
      subst he1; subst he2
      have hc1' : W4.cell? ⟨pq, po + i, none⟩ = some (.slice (some ⟨q, t, none⟩) n c) := by rw [← hw0] at hb0; exact old_cellC hb0 hc1
      have hc2' : W4.cell? ⟨q, t + rn, none⟩ = some (.int .i64 (y : Int)) := by rw [← hw0] at hb0; rw [← hy]; exact old_cellC hb0 hc2
      have hc3' : W4.cell? ⟨oq, os + y, none⟩ = some (.int .i64 x) := by rw [← hw0] at hb0; exact old_cellC hb0 hc3
      have hi0 : (0 : Int) ≤ (i : Int) := Int.natCast_nonneg _
      have hiL : (i : Int) < (RR.length : Int) := by omega
      have hiO : (i : Int) < (OO.length : Int) := by omega
      have hy0 : (0 : Int) ≤ (y : Int) := Int.natCast_nonneg _
      have hyO : (y : Int) < (OO.length : Int) := by omega
      have hrnn : (rn : Int) < (n : Int) := by omega
      have hzc : ∃ u, W4.cell? ⟨z, i, none⟩ = some u := by
        have h1 := hO.out.cellAt i (by omega)
        have hlen : i < ((subP RR OO rn i ++ (List.replicate OO.length (0 : Int)).drop i).map (Value.int .i64)).length := by
          rw [List.length_map, List.length_append, subP_len, List.length_drop, List.length_replicate]; omega
        rw [List.getElem?_eq_getElem hlen] at h1
        exact ⟨_, h1⟩
      obtain ⟨zu, hzu⟩ := hzc
      have hzf := hO.out.frozenAt i
      have hst := hO.out.stored i (.int .i64 x)
      have hse : ((subP RR OO rn i ++ (List.replicate OO.length (0 : Int)).drop i).map (Value.int .i64)).set i (.int .i64 x) = (subP RR OO rn (i + 1) ++ (List.replicate OO.length (0 : Int)).drop (i + 1)).map (Value.int .i64) := by
        rw [← HXV.out]
        exact subP_set RR OO rn i OO.length _ (List.length_replicate) (by omega)
      rw [hse] at hst
      have HST := Lib.hid hst
      have hzx1 : z ≠ xb := by omega
      have hzw : z ≠ w.heap.size + 1 := by have := HNZ.out; omega
      have hzw2 : w.heap.size ≤ z := by have := HNZ.out; omega
      have HX5 := Lib.hid (hX.out.other (a := ⟨z, i, none⟩) hzx1 (.int .i64 x))
      have HZ5 := Lib.hid (hZ.out.other (a := ⟨z, i, none⟩) hzw (.int .i64 x))
      have HB5 : Hid (Below w.heap.size w (W4.setCell ⟨z, i, none⟩ (.int .i64 x))) := hB.out.setCell hzw2 _
      have HS5 : Hid (z ≤ (W4.setCell ⟨z, i, none⟩ (.int .i64 x)).heap.size) := by show _ ≤ _; rw [size_setCell']; exact hzs.out
      have HW5 : Hid (∃ W0 : World, W0.heap.size = z ∧ Below z W0 (W4.setCell ⟨z, i, none⟩ (.int .i64 x)) ∧ LiesS W0 (.agg #[.int .i64 B, .slice (some ⟨pq, po, none⟩) RR.length c1, .slice (some ⟨oq, os, none⟩) OO.length c2]) B RR OO) := ⟨W0, hw0, hb0.setCell (Nat.le_refl _) _, hl0⟩
      clear hst hse hxv hc1 hc2 hc3 hw0 hb0 hl0 hO hX hZ hB hzs hWX hx0 hx1 hy hdn hyl
      go_wp2_with fail
      go_region_law (fail)
      all_goals
        go_wp2
        go_roundw
        case rel => exact ⟨i + 1, by omega, by go_num, HST.out.1.kept (grown_of_below (below_drew' _)) (.inr (by simp [Value.ownBlock])), HX5.out.below (below_drew' _), HZ5.out.below (below_drew' _), HB5.out.trans ((below_drew' _).mono HB5.out.size), Nat.le_trans HS5.out (below_drew' _).size, (HW5.out.elim fun W0 h => ⟨W0, h.1, h.2.1.trans ((below_drew' _).mono HS5.out), h.2.2⟩)⟩
        case measure => simp [intOf]; omega
    case neg =>
      obtain rfl : i = RR.length := by omega
      have HT : Hid (Lies (Value.int .i64) W4 (.slice (some ⟨z, 0, none⟩) OO.length OO.length) (subT RR OO rn)) := by
        have h1 := hO.out
        rw [List.drop_eq_nil_of_le (by rw [List.length_replicate]; omega), List.append_nil] at h1
        have h2 : Has (Value.int .i64) 3 W4 z (.slice (some ⟨z, 0, none⟩) OO.length OO.length) (subP RR OO rn RR.length) := by
          have e : (subP RR OO rn RR.length).length = OO.length := by rw [subP_len]; omega
          show W4.ownsRow _ _ _ _ _ _
          rw [e]
          exact h1
        exact h2.lies
      have HLS : Hid (LiesS W4 (.agg #[.int .i64 B, .slice a1 RR.length c1, .slice (some ⟨z, 0, none⟩) OO.length OO.length]) B RR (subT RR OO rn)) := lies_of_parts (hl0.below (by rw [hw0]; exact hb0)) HT.out
      have HSL : Hid (RR.length + tot RR + (subT RR OO rn).length ≤ 1048576) := by
        have h1 := HTT.out
        show _ ≤ _
        rw [subT, subP_len]
        omega
      have HCM := Lib.hid (HCM0.out W4 _ HLS.out HSL.out)
      clear hO hw0 hb0 hl0 hWX HLS HT
      go_wp2_with fail
      refine HCM.out.mono ?_
      rintro e W5 ⟨v2, rfl, hv2, b2⟩
      obtain ⟨a3, c3, a4, c4, rfl⟩ := hv2.form
      have HZR := Lib.hid (hZ.out.below b2)
      have HBR := Lib.hid (hB.out.trans (b2.mono hB.out.size))
      have HV := Lib.hid hv2
      have HLO : Hid (w.heap.size + 2 ≤ W4.heap.size) := by have := HNZ.out; have := hzs.out; show _ ≤ _; omega
      clear hv2 b2 j0 j1 j2 hX hZ hB
      obtain ⟨z0, z1, z2⟩ := (⟨HZR.out.c0, HZR.out.c1, HZR.out.c2⟩ : _ ∧ _ ∧ _)
      have z3 := HZR.out.f
      go_wp2
      have hZ3 := (((HZR.out.set0 (.int .i64 B2)).set1 (.slice a3 R2.length c3)).set2 (.slice a4 O2.length c4))
      have n0 := hZ3.c0
      have n1 := hZ3.c1
      have n2 := hZ3.c2
      refine bodyPost_ret (v := .tuple #[.agg #[.int .i64 B2, .slice a3 R2.length c3, .slice a4 O2.length c4], .bool K2]) (by simp [results, Try.results18, go_sem, n0, n1, n2]) rfl ⟨_, rfl, ?_, ?_⟩
      · have hT : ∀ (i : Nat) (u : Value) (W : World), Plain.Touch (w.heap.size + 1) (w.heap.size + 2) W (W.setCell ⟨w.heap.size + 1, i, none⟩ u) := fun i u W => Plain.Touch.of_set (a := ⟨w.heap.size + 1, i, none⟩) u (Nat.le_refl _) (Nat.lt_succ_self _)
        have T0 : Plain.Touch (w.heap.size + 1) (w.heap.size + 2) W5 (((W5.setCell ⟨w.heap.size + 1, 0, none⟩ (.int .i64 B2)).setCell ⟨w.heap.size + 1, 1, none⟩ (.slice a3 R2.length c3)).setCell ⟨w.heap.size + 1, 2, none⟩ (.slice a4 O2.length c4)) := ((hT 0 _ _).trans (hT 1 _ _)).trans (hT 2 _ _)
        have h1 := (HV.out.touch T0 (.inr HLO.out)).lower (show w.heap.size ≤ W4.heap.size by have := HLO.out; omega)
        simpa only [size_setCell'] using h1
      · exact ((HBR.out.setCell (Nat.le_succ _) _).setCell (Nat.le_succ _) _).setCell (Nat.le_succ _) _
theorem impl_sub (v : Value) (b : Int) (rows : List (List Int)) (out : List Int) (w : World) (h : LiesS w v b rows out) (r : Int) (hs : rows.length + tot rows + out.length ≤ 1048576) :
    Calls Try.prog 18 #[v, .int .i64 r] w (GivesK (subB b rows out r) (subR b rows out r) (subO b rows out r) (subK b rows out r) w) := by
  cases hk : subOK b rows out r with
  | false =>
    obtain ⟨h1, h2, h3, h4⟩ := sub_no hk
    rw [h1, h2, h3, h4]
    exact impl_sub_no v b rows out w h r hs hk
  | true =>
    obtain ⟨h1, h2, h3, h4⟩ := sub_yes hk
    rw [h1, h2, h3, h4]
    exact impl_sub_yes v b rows out w h r hs hk
set_option maxRecDepth 100000 in
set_option maxHeartbeats 2000000 in
theorem spec_sub_no (v : Value) (b : Int) (rows : List (List Int)) (out : List Int) (w : World) (h : LiesS w v b rows out) (r : Int) (hs : rows.length + tot rows + out.length ≤ 1048576) (hno : subOK b rows out r = false) :
    Calls Try.prog 19 #[v, .int .i64 r] w (GivesK 0 [] [] false w) := by
  have HS := Lib.hid h
  obtain ⟨an, cn, ao, co, rfl⟩ := h.form
  clear h
  have HB : Hid (Below w.heap.size w (w.alloc (Obj.cells #[Value.int .i64 b, Value.slice an rows.length cn, Value.slice ao out.length co] 27))) := (Below.refl _ _).alloc (Nat.le_refl _) _
  have HC := Lib.hid (Cells3.new w 27 (.int .i64 b) (.slice an rows.length cn) (.slice ao out.length co))
  have HB1 := Lib.hid (HB.out.alloc (by simp only [size_alloc'] <;> omega) (Obj.cells #[Value.int .i64 0, Value.slice none 0 0, Value.slice none 0 0] 27))
  have HC1 := Lib.hid (HC.out.alloc (Obj.cells #[Value.int .i64 0, Value.slice none 0 0, Value.slice none 0 0] 27))
  have hZ := Cells3.new (w.alloc (Obj.cells #[Value.int .i64 b, Value.slice an rows.length cn, Value.slice ao out.length co] 27)) 27 (.int .i64 0) (.slice none 0 0) (.slice none 0 0)
  rw [size_alloc'] at hZ
  have HZ1 := Lib.hid hZ
  have HSZ := Lib.hid hs
  clear hZ HB HC hs
  have k0 := HC1.out.c0
  have k1 := HC1.out.c1
  have k2 := HC1.out.c2
  have HCF := Lib.hid (fun (W : World) (hW : Below w.heap.size w W) => spec_form _ b rows out W (HS.out.below hW) HSZ.out)
  obtain ⟨B, hBB⟩ : ∃ B, B = formB b rows out := ⟨_, rfl⟩
  obtain ⟨RR, hRR⟩ : ∃ R, R = formR b rows out := ⟨_, rfl⟩
  obtain ⟨OO, hOO⟩ : ∃ O, O = formO b rows out := ⟨_, rfl⟩
  rw [← hBB, ← hRR, ← hOO] at HCF
  clear hBB hRR hOO
  rcases sub_out hno with hk | ⟨hk, h0⟩ | ⟨hk, h0, h1⟩
  · rw [hk] at HCF
    clear hno hk
    go_enter Try.func19, Try.ntmps19
    go_wp2_with fail
    refine (HCF.out _ HB1.out).mono ?_
    rintro e W1 ⟨v1, rfl, hv1, b1⟩
    obtain ⟨a1, c1, a2, c2, rfl⟩ := hv1.form
    have hbx : Below W1.heap.size W1 (W1.alloc (.cells #[.int .i64 B, .slice a1 RR.length c1, .slice a2 OO.length c2] 27)) := (Below.refl _ _).alloc (Nat.le_refl _) _
    have HB2 := Lib.hid (HB1.out.trans (b1.mono HB1.out.size))
    have HB3 := Lib.hid (HB2.out.trans (hbx.mono HB2.out.size))
    have HC3 := Lib.hid ((HC1.out.below b1).below hbx)
    have HZ3 := Lib.hid ((HZ1.out.below b1).below hbx)
    have HX3 := Lib.hid (Cells3.new W1 27 (.int .i64 B) (.slice a1 RR.length c1) (.slice a2 OO.length c2))
    have HL3 := Lib.hid (hv1.lies.below hbx)
    have HN3 := Lib.hid (show w.heap.size + 1 < W1.heap.size from (HZ1.out.below b1).lt)
    clear hv1 b1 k0 k1 k2 HB1 HC1 HZ1 HB2 hbx
    have HZR := HZ3
    have HBR := HB3
    have k0 := HC3.out.c0
    obtain ⟨z0, z1, z2⟩ := (⟨HZR.out.c0, HZR.out.c1, HZR.out.c2⟩ : _ ∧ _ ∧ _)
    have z3 := HZR.out.f
    go_wp2
    have hZ3 := (((HZR.out.set0 (.int .i64 0)).set1 (.slice none 0 0)).set2 (.slice none 0 0))
    have n0 := hZ3.c0
    have n1 := hZ3.c1
    have n2 := hZ3.c2
    refine bodyPost_ret (v := .tuple #[.agg #[.int .i64 0, .slice none 0 0, .slice none 0 0], .bool false]) (by simp [results, Try.results19, go_sem, n0, n1, n2]) rfl ⟨_, rfl, OwnS.zero _, ?_⟩
    exact ((HBR.out.setCell (Nat.le_succ _) _).setCell (Nat.le_succ _) _).setCell (Nat.le_succ _) _
  · rw [hk] at HCF
    have hd0 := decide_eq_true h0
    clear hno hk h0
    go_enter Try.func19, Try.ntmps19
    go_wp2_with fail
    refine (HCF.out _ HB1.out).mono ?_
    rintro e W1 ⟨v1, rfl, hv1, b1⟩
    obtain ⟨a1, c1, a2, c2, rfl⟩ := hv1.form
    have hbx : Below W1.heap.size W1 (W1.alloc (.cells #[.int .i64 B, .slice a1 RR.length c1, .slice a2 OO.length c2] 27)) := (Below.refl _ _).alloc (Nat.le_refl _) _
    have HB2 := Lib.hid (HB1.out.trans (b1.mono HB1.out.size))
    have HB3 := Lib.hid (HB2.out.trans (hbx.mono HB2.out.size))
    have HC3 := Lib.hid ((HC1.out.below b1).below hbx)
    have HZ3 := Lib.hid ((HZ1.out.below b1).below hbx)
    have HX3 := Lib.hid (Cells3.new W1 27 (.int .i64 B) (.slice a1 RR.length c1) (.slice a2 OO.length c2))
    have HL3 := Lib.hid (hv1.lies.below hbx)
    have HN3 := Lib.hid (show w.heap.size + 1 < W1.heap.size from (HZ1.out.below b1).lt)
    clear hv1 b1 k0 k1 k2 HB1 HC1 HZ1 HB2 hbx
    have HZR := HZ3
    have HBR := HB3
    have k0 := HC3.out.c0
    obtain ⟨z0, z1, z2⟩ := (⟨HZR.out.c0, HZR.out.c1, HZR.out.c2⟩ : _ ∧ _ ∧ _)
    have z3 := HZR.out.f
    go_wp2
    have hZ3 := (((HZR.out.set0 (.int .i64 0)).set1 (.slice none 0 0)).set2 (.slice none 0 0))
    have n0 := hZ3.c0
    have n1 := hZ3.c1
    have n2 := hZ3.c2
    refine bodyPost_ret (v := .tuple #[.agg #[.int .i64 0, .slice none 0 0, .slice none 0 0], .bool false]) (by simp [results, Try.results19, go_sem, n0, n1, n2]) rfl ⟨_, rfl, OwnS.zero _, ?_⟩
    exact ((HBR.out.setCell (Nat.le_succ _) _).setCell (Nat.le_succ _) _).setCell (Nat.le_succ _) _
  · rw [hk] at HCF
    have hd0 := decide_eq_false h0
    have hd1 := decide_eq_true h1
    clear hno hk h0 h1
    go_enter Try.func19, Try.ntmps19
    go_wp2_with fail
    refine (HCF.out _ HB1.out).mono ?_
    rintro e W1 ⟨v1, rfl, hv1, b1⟩
    obtain ⟨a1, c1, a2, c2, rfl⟩ := hv1.form
    have hbx : Below W1.heap.size W1 (W1.alloc (.cells #[.int .i64 B, .slice a1 RR.length c1, .slice a2 OO.length c2] 27)) := (Below.refl _ _).alloc (Nat.le_refl _) _
    have HB2 := Lib.hid (HB1.out.trans (b1.mono HB1.out.size))
    have HB3 := Lib.hid (HB2.out.trans (hbx.mono HB2.out.size))
    have HC3 := Lib.hid ((HC1.out.below b1).below hbx)
    have HZ3 := Lib.hid ((HZ1.out.below b1).below hbx)
    have HX3 := Lib.hid (Cells3.new W1 27 (.int .i64 B) (.slice a1 RR.length c1) (.slice a2 OO.length c2))
    have HL3 := Lib.hid (hv1.lies.below hbx)
    have HN3 := Lib.hid (show w.heap.size + 1 < W1.heap.size from (HZ1.out.below b1).lt)
    clear hv1 b1 k0 k1 k2 HB1 HC1 HZ1 HB2 hbx
    have HZR := HZ3
    have HBR := HB3
    have k0 := HC3.out.c0
    obtain ⟨z0, z1, z2⟩ := (⟨HZR.out.c0, HZR.out.c1, HZR.out.c2⟩ : _ ∧ _ ∧ _)
    have z3 := HZR.out.f
    go_wp2
    have hZ3 := (((HZR.out.set0 (.int .i64 0)).set1 (.slice none 0 0)).set2 (.slice none 0 0))
    have n0 := hZ3.c0
    have n1 := hZ3.c1
    have n2 := hZ3.c2
    refine bodyPost_ret (v := .tuple #[.agg #[.int .i64 0, .slice none 0 0, .slice none 0 0], .bool false]) (by simp [results, Try.results19, go_sem, n0, n1, n2]) rfl ⟨_, rfl, OwnS.zero _, ?_⟩
    exact ((HBR.out.setCell (Nat.le_succ _) _).setCell (Nat.le_succ _) _).setCell (Nat.le_succ _) _
theorem subP_over (R : List (List Int)) (O : List Int) (r : Int) (i : Nat) (h : i < O.length) : (subP R O r i ++ O.drop i).set i (subX R O r i) = subP R O r (i + 1) ++ O.drop (i + 1) := by
  rw [List.set_append_right _ _ (by rw [subP_len]; omega), subP_len, Nat.sub_self, List.drop_eq_getElem_cons h, List.set_cons_zero, subP_succ, List.append_assoc]
  rfl
set_option maxRecDepth 100000 in
set_option maxHeartbeats 4000000 in
theorem spec_sub_yes (v : Value) (b : Int) (rows : List (List Int)) (out : List Int) (w : World) (h : LiesS w v b rows out) (r : Int) (hs : rows.length + tot rows + out.length ≤ 1048576) (hok : subOK b rows out r = true) :
    Calls Try.prog 19 #[v, .int .i64 r] w (GivesK (formB (formB b rows out) (formR b rows out) (subE b rows out r)) (minRV (formB b rows out) (formR b rows out) (subE b rows out r)) (minOV (formB b rows out) (formR b rows out) (subE b rows out r)) (formK (formB b rows out) (formR b rows out) (subE b rows out r)) w) := by
  have HS := Lib.hid h
  obtain ⟨an, cn, ao, co, rfl⟩ := h.form
  clear h
  have HB : Hid (Below w.heap.size w (w.alloc (Obj.cells #[Value.int .i64 b, Value.slice an rows.length cn, Value.slice ao out.length co] 27))) := (Below.refl _ _).alloc (Nat.le_refl _) _
  have HC := Lib.hid (Cells3.new w 27 (.int .i64 b) (.slice an rows.length cn) (.slice ao out.length co))
  have HB1 := Lib.hid (HB.out.alloc (by simp only [size_alloc'] <;> omega) (Obj.cells #[Value.int .i64 0, Value.slice none 0 0, Value.slice none 0 0] 27))
  have HC1 := Lib.hid (HC.out.alloc (Obj.cells #[Value.int .i64 0, Value.slice none 0 0, Value.slice none 0 0] 27))
  have hZ := Cells3.new (w.alloc (Obj.cells #[Value.int .i64 b, Value.slice an rows.length cn, Value.slice ao out.length co] 27)) 27 (.int .i64 0) (.slice none 0 0) (.slice none 0 0)
  rw [size_alloc'] at hZ
  have HZ1 := Lib.hid hZ
  have HSZ := Lib.hid hs
  clear hZ HB HC hs
  have k0 := HC1.out.c0
  have k1 := HC1.out.c1
  have k2 := HC1.out.c2
  have HCF := Lib.hid (fun (W : World) (hW : Below w.heap.size w W) => spec_form _ b rows out W (HS.out.below hW) HSZ.out)
  obtain ⟨hk, h0, h1⟩ := sub_parts hok
  have hval := form_valid hk
  rw [hk] at HCF
  have hbb : formB b rows out = b := by rw [formB, if_pos hk]
  unfold subE
  rw [hbb] at HCF hval ⊢
  obtain ⟨RR, hRR⟩ : ∃ R, R = formR b rows out := ⟨_, rfl⟩
  obtain ⟨OO, hOO⟩ : ∃ O, O = formO b rows out := ⟨_, rfl⟩
  rw [← hRR, ← hOO] at HCF hval ⊢
  clear hRR hOO hbb hk hok
  obtain ⟨B, hBB⟩ : ∃ B, B = b := ⟨_, rfl⟩
  subst hBB
  have hval' := hval
  have HVAL := Lib.hid hval'
  have hd0 := decide_eq_false (show ¬ r < 0 by omega)
  have hd1 := decide_eq_false (show ¬ B ≤ r by omega)
  have hr1 : r < B := h1
  obtain ⟨rn, rfl⟩ : ∃ rn : Nat, r = (rn : Int) := ⟨r.toNat, by omega⟩
  have hol1 : RR.length ≤ OO.length := by have := hval'.2.2.2.2.1; omega
  have hol2 : OO.length ≤ RR.length := by have := hval'.2.2.2.2.1; omega
  have HOL := Lib.hid (show OO.length = RR.length by omega)
  have hn16 : RR.length ≤ 16 := hval'.2.2.2.1
  have HTT := Lib.hid (show tot RR ≤ 64 by have := tot_le4 RR (fun q hq => by have := (hval'.2.2.2.2.2.1 q hq).1; have := hval'.2.1; omega); omega)
  have HSF := Lib.hid (show RR.length + tot RR + OO.length ≤ 1048576 by have := HTT.out; omega)
  clear hval hval' h0 h1
  have hrn0 : (0 : Int) ≤ (rn : Int) := Int.natCast_nonneg _
  have HCM0 := Lib.hid (fun (W : World) (u : Value) (l : LiesS W u B RR (subT RR OO rn)) (q : RR.length + tot RR + (subT RR OO rn).length ≤ 1048576) => spec_min u B RR (subT RR OO rn) W l q)
  obtain ⟨R2, hR2⟩ : ∃ R, R = minRV B RR (subT RR OO rn) := ⟨_, rfl⟩
  obtain ⟨O2, hO2⟩ : ∃ R, R = minOV B RR (subT RR OO rn) := ⟨_, rfl⟩
  obtain ⟨B2, hB2⟩ : ∃ R, R = formB B RR (subT RR OO rn) := ⟨_, rfl⟩
  obtain ⟨K2, hK2⟩ : ∃ R, R = formK B RR (subT RR OO rn) := ⟨_, rfl⟩
  rw [← hR2, ← hO2, ← hB2, ← hK2] at HCM0 ⊢
  clear hR2 hO2 hB2 hK2
  go_enter Try.func19, Try.ntmps19
  go_wp2_with fail
  refine (HCF.out _ HB1.out).mono ?_
  rintro e W1 ⟨v1, rfl, hv1, b1⟩
  obtain ⟨a1, c1, a2, c2, rfl⟩ := hv1.form
  have hbx : Below W1.heap.size W1 (W1.alloc (.cells #[.int .i64 B, .slice a1 RR.length c1, .slice a2 OO.length c2] 27)) := (Below.refl _ _).alloc (Nat.le_refl _) _
  have HB2 := Lib.hid (HB1.out.trans (b1.mono HB1.out.size))
  have HB3 := Lib.hid (HB2.out.trans (hbx.mono HB2.out.size))
  have HC3 := Lib.hid ((HC1.out.below b1).below hbx)
  have HZ3 := Lib.hid ((HZ1.out.below b1).below hbx)
  have HX3 := Lib.hid (Cells3.new W1 27 (.int .i64 B) (.slice a1 RR.length c1) (.slice a2 OO.length c2))
  have HL3 := Lib.hid (hv1.lies.below hbx)
  have HN3 := Lib.hid (show w.heap.size + 1 < W1.heap.size from (HZ1.out.below b1).lt)
  clear hv1 b1 k0 k1 k2 HB1 HC1 HZ1 HB2 hbx
  have k0 := HC3.out.c0
  have j0 := HX3.out.c0
  have j1 := HX3.out.c1
  have j2 := HX3.out.c2
  obtain ⟨W2, hW2⟩ : ∃ W, W = W1.alloc (.cells #[.int .i64 B, .slice a1 RR.length c1, .slice a2 OO.length c2] 27) := ⟨_, rfl⟩
  go_wp2_with fail
  rw [← hW2] at HB3 HC3 HZ3 HX3 HL3 k0 j0 j1 j2 ⊢
  have hws : W2.heap.size = W1.heap.size + 1 := by rw [hW2, size_alloc']
  clear hW2
  obtain ⟨xb, hxb⟩ : ∃ x, x = W1.heap.size := ⟨_, rfl⟩
  rw [← hxb] at HX3 HN3 j0 j1 j2 hws ⊢
  clear hxb
  refine (spec_copied _ B RR OO _ HL3.out HSF.out).mono ?_
  rintro e W3 ⟨vm, rfl, hm, b3⟩
  obtain ⟨ma, mc, oa, oc, rfl⟩ := hm.form
  obtain ⟨X3, hX3⟩ : ∃ X, X = (Obj.cells #[.int .i64 B, .slice ma RR.length mc, .slice oa OO.length oc] 27) := ⟨_, rfl⟩
  have hbx : Below W3.heap.size W3 (W3.alloc X3) := (Below.refl _ _).alloc (Nat.le_refl _) _
  have HM := Lib.hid (hm.below hbx)
  have HP := Lib.hid (Cells3.new W3 27 (.int .i64 B) (.slice ma RR.length mc) (.slice oa OO.length oc))
  rw [← hX3] at HP
  have HB4 := Lib.hid ((HB3.out.trans (b3.mono HB3.out.size)).trans (hbx.mono (HB3.out.trans (b3.mono HB3.out.size)).size))
  have HZ4 := Lib.hid ((HZ3.out.below b3).below hbx)
  have HX4 := Lib.hid ((HX3.out.below b3).below hbx)
  have HW4 : Hid (∃ W0 : World, W0.heap.size = W2.heap.size ∧ Below W2.heap.size W0 (W3.alloc X3) ∧ LiesS W0 (.agg #[.int .i64 B, .slice a1 RR.length c1, .slice a2 OO.length c2]) B RR OO) := ⟨W2, rfl, b3.trans (hbx.mono b3.size), HL3.out⟩
  have HLO3 := Lib.hid (show W2.heap.size ≤ W3.heap.size from b3.size)
  clear hm b3 k0 j0 j1 j2 HB3 HC3 HZ3 HX3 HL3
  go_wp2
  rw [← hX3]
  obtain ⟨W4, hW4⟩ : ∃ W, W = W3.alloc X3 := ⟨_, rfl⟩
  rw [← hW4] at HM HP HB4 HZ4 HX4 HW4 ⊢
  obtain ⟨p, hp⟩ : ∃ p, p = W3.heap.size := ⟨_, rfl⟩
  obtain ⟨lo, hlo⟩ : ∃ lo, lo = W2.heap.size := ⟨_, rfl⟩
  rw [← hp, ← hlo] at HLO3
  rw [← hp] at HP HM ⊢
  rw [← hlo] at HM HW4 hws
  have hM : Hid (OwnS W4 lo p (.agg #[.int .i64 B, .slice ma RR.length mc, .slice oa OO.length oc]) B RR (subP RR OO rn 0 ++ OO.drop 0)) := HM.out
  have hP := HP
  have hZ := HZ4
  have hX := HX4
  have hB := HB4
  have hWX := HW4
  clear hX3 hbx hW4 hp hlo HM HP HB4 HZ4 HX4 HW4
  go_loopw [9] (fun i' wr => ∃ i : Nat, i ≤ RR.length ∧ i' = .int .i64 i ∧ Hid (OwnS wr lo p (.agg #[.int .i64 B, .slice ma RR.length mc, .slice oa OO.length oc]) B RR (subP RR OO rn i ++ OO.drop i)) ∧ Hid (Cells3 wr p 27 (.int .i64 B) (.slice ma RR.length mc) (.slice oa OO.length oc)) ∧ Hid (Cells3 wr xb 27 (.int .i64 B) (.slice a1 RR.length c1) (.slice a2 OO.length c2)) ∧ Hid (Cells3 wr (w.heap.size + 1) 27 (.int .i64 0) (.slice none 0 0) (.slice none 0 0)) ∧ Hid (Below w.heap.size w wr) ∧ Hid (∃ W0 : World, W0.heap.size = lo ∧ Below lo W0 wr ∧ LiesS W0 (.agg #[.int .i64 B, .slice a1 RR.length c1, .slice a2 OO.length c2]) B RR OO)) (fun i' _ => RR.length - (intOf i').toNat)
  case atStart => exact ⟨0, Nat.zero_le _, rfl, hM, hP, hX, hZ, hB, hWX⟩
  case round =>
    clear hM hP hX hZ hB hWX
    obtain ⟨i, hil, rfl, hM, hP, hX, hZ, hB, hWX⟩ := hrel
    obtain ⟨W4, rfl⟩ : ∃ W : World, W = wr := ⟨_, rfl⟩
    obtain ⟨W0, hw0, hb0, hl0⟩ := hWX.out
    have j0 := hX.out.c0
    have j1 := hX.out.c1
    have j2 := hX.out.c2
    have m0 := hP.out.c0
    have m1 := hP.out.c1
    have m2 := hP.out.c2
    by_cases hlt : i < RR.length
    case pos =>
      obtain ⟨pq, po, q, t, c, n, he1, hc1, hdn, hc2⟩ := step_cells hl0 HVAL.out hlt hr1
      obtain ⟨hx0, hx1⟩ := HVAL.out.next (s := (i : Int)) (d := (rn : Int)) (Int.natCast_nonneg _) (by omega) hrn0 hr1 |>.elim fun _ h => h.2.2
      obtain ⟨y, hy⟩ : ∃ y : Nat, nextS RR i rn = (y : Int) := ⟨(nextS RR i rn).toNat, by omega⟩
      have hyl : y < OO.length := by omega
      obtain ⟨x, hxv⟩ : ∃ x, OO[y]? = some x := ⟨_, List.getElem?_eq_getElem hyl⟩
      have HXV : Hid (subX RR OO rn i = x) := by show _ = _; rw [subX, hy, Int.toNat_natCast, List.getD_eq_getElem?_getD, hxv]; rfl
      obtain ⟨oq, os, he2, hc3⟩ := hl0.cells.2 y x hxv
      subst he1; subst he2
      have hc1' : W4.cell? ⟨pq, po + i, none⟩ = some (.slice (some ⟨q, t, none⟩) n c) := by rw [← hw0] at hb0; exact old_cellC hb0 hc1
      have hc2' : W4.cell? ⟨q, t + rn, none⟩ = some (.int .i64 (y : Int)) := by rw [← hw0] at hb0; rw [← hy]; exact old_cellC hb0 hc2
      have hc3' : W4.cell? ⟨oq, os + y, none⟩ = some (.int .i64 x) := by rw [← hw0] at hb0; exact old_cellC hb0 hc3
      have hi0 : (0 : Int) ≤ (i : Int) := Int.natCast_nonneg _
      have hiL : (i : Int) < (RR.length : Int) := by omega
      have hiO : (i : Int) < (OO.length : Int) := by omega
      have hy0 : (0 : Int) ≤ (y : Int) := Int.natCast_nonneg _
      have hyO : (y : Int) < (OO.length : Int) := by omega
      have hrnn : (rn : Int) < (n : Int) := by omega
      have hML := hM.out
      obtain ⟨dl, hdl⟩ : ∃ dl, dl = subP RR OO rn i ++ OO.drop i := ⟨_, rfl⟩
      rw [← hdl] at hML
      have hdn2 : dl.length = OO.length := by rw [hdl, List.length_append, subP_len, List.length_drop]; omega
      rw [← hdn2] at hML
      obtain ⟨g, hge, hgl, hgh, gf, ⟨gy, gc⟩, hwr⟩ := own_outj hML i (by omega)
      subst hge
      have hST := hwr x
      have HST : Hid (OwnS (W4.setCell ⟨g, i, none⟩ (.int .i64 x)) lo p (.agg #[.int .i64 B, .slice ma RR.length mc, .slice (some ⟨g, 0, none⟩) OO.length oc]) B RR (subP RR OO rn (i + 1) ++ OO.drop (i + 1))) := by
        rw [hdn2, hdl, ← HXV.out, subP_over RR OO rn i (by omega)] at hST
        exact HXV.out ▸ hST
      have hgp : g ≠ p := by omega
      have hgx : g ≠ xb := by omega
      have hgz : g ≠ w.heap.size + 1 := by have := HN3.out; omega
      have hgw : w.heap.size ≤ g := by have := HN3.out; omega
      have HP5 := Lib.hid (hP.out.other (a := ⟨g, i, none⟩) hgp (.int .i64 x))
      have HX5 := Lib.hid (hX.out.other (a := ⟨g, i, none⟩) hgx (.int .i64 x))
      have HZ5 := Lib.hid (hZ.out.other (a := ⟨g, i, none⟩) hgz (.int .i64 x))
      have HB5 : Hid (Below w.heap.size w (W4.setCell ⟨g, i, none⟩ (.int .i64 x))) := hB.out.setCell hgw _
      have hlos : lo ≤ (W4.setCell ⟨g, i, none⟩ (.int .i64 x)).heap.size := by rw [size_setCell']; have := hP.out.lt; omega
      have HLS := Lib.hid hlos
      have HW5 : Hid (∃ W0 : World, W0.heap.size = lo ∧ Below lo W0 (W4.setCell ⟨g, i, none⟩ (.int .i64 x)) ∧ LiesS W0 (.agg #[.int .i64 B, .slice (some ⟨pq, po, none⟩) RR.length c1, .slice (some ⟨oq, os, none⟩) OO.length c2]) B RR OO) := ⟨W0, hw0, hb0.setCell hgl _, hl0⟩
      clear hST hML hdl hwr hdn2 hxv hc1 hc2 hc3 hw0 hb0 hl0 hM hP hX hZ hB hWX hx0 hx1 hy hdn hyl hlos
      go_wp2_with fail
      go_region_law (fail)
      all_goals
        go_wp2
        go_roundw
        case rel => exact ⟨i + 1, by omega, by go_num, HST.out.below (below_drew' _), HP5.out.below (below_drew' _), HX5.out.below (below_drew' _), HZ5.out.below (below_drew' _), HB5.out.trans ((below_drew' _).mono HB5.out.size), (HW5.out.elim fun W0 h => ⟨W0, h.1, h.2.1.trans ((below_drew' _).mono HLS.out), h.2.2⟩)⟩
        case measure => simp [intOf]; omega
    case neg =>
      obtain rfl : i = RR.length := by omega
      have HLS : Hid (LiesS W4 (.agg #[.int .i64 B, .slice ma RR.length mc, .slice oa OO.length oc]) B RR (subT RR OO rn)) := by
        have h1 := hM.out.lies
        rw [List.drop_eq_nil_of_le (by omega), List.append_nil] at h1
        exact h1
      have HSL : Hid (RR.length + tot RR + (subT RR OO rn).length ≤ 1048576) := by
        have h1 := HTT.out
        show _ ≤ _
        rw [subT, subP_len]
        omega
      have HCM := Lib.hid (HCM0.out W4 _ HLS.out HSL.out)
      clear hM hw0 hb0 hl0 hWX HLS
      go_wp2_with fail
      refine HCM.out.mono ?_
      rintro e W5 ⟨v2, rfl, hv2, b2⟩
      obtain ⟨a3, c3, a4, c4, rfl⟩ := hv2.form
      obtain ⟨X6, hX6⟩ : ∃ X, X = (Obj.cells #[.int .i64 B2, .slice a3 R2.length c3, .slice a4 O2.length c4] 27) := ⟨_, rfl⟩
      have hby : Below W5.heap.size W5 (W5.alloc X6) := (Below.refl _ _).alloc (Nat.le_refl _) _
      have hY := Cells3.new W5 27 (.int .i64 B2) (.slice a3 R2.length c3) (.slice a4 O2.length c4)
      rw [← hX6] at hY
      have HZR := Lib.hid ((hZ.out.below b2).below hby)
      have HBR := Lib.hid ((hB.out.trans (b2.mono hB.out.size)).trans (hby.mono (hB.out.trans (b2.mono hB.out.size)).size))
      have HV := Lib.hid (own_wide (hv2.below hby) hby.size (Nat.le_refl _))
      have HLO : Hid (w.heap.size + 2 ≤ W4.heap.size) := by have := hZ.out.lt; have := HN3.out; have := hX.out.lt; show _ ≤ _; omega
      have y0 := hY.c0
      have y1 := hY.c1
      have y2 := hY.c2
      clear hv2 b2 hby j0 j1 j2 m0 m1 m2 hX hZ hB hP
      obtain ⟨z0, z1, z2⟩ := (⟨HZR.out.c0, HZR.out.c1, HZR.out.c2⟩ : _ ∧ _ ∧ _)
      have z3 := HZR.out.f
      rw [hX6] at y0 y1 y2 z0 z1 z2 z3
      go_wp2
      rw [← hX6]
      have hZ3 := (((HZR.out.set0 (.int .i64 B2)).set1 (.slice a3 R2.length c3)).set2 (.slice a4 O2.length c4))
      have n0 := hZ3.c0
      have n1 := hZ3.c1
      have n2 := hZ3.c2
      obtain ⟨W6, hW6⟩ : ∃ W, W = W5.alloc X6 := ⟨_, rfl⟩
      rw [← hW6] at HZR HBR HV n0 n1 n2 ⊢
      clear hW6 y0 y1 y2 z0 z1 z2 z3 hZ3 hY
      refine bodyPost_ret (v := .tuple #[.agg #[.int .i64 B2, .slice a3 R2.length c3, .slice a4 O2.length c4], .bool K2]) (by simp [results, Try.results19, go_sem, n0, n1, n2]) rfl ⟨_, rfl, ?_, ?_⟩
      · have hT : ∀ (i : Nat) (u : Value) (W : World), Plain.Touch (w.heap.size + 1) (w.heap.size + 2) W (W.setCell ⟨w.heap.size + 1, i, none⟩ u) := fun i u W => Plain.Touch.of_set (a := ⟨w.heap.size + 1, i, none⟩) u (Nat.le_refl _) (Nat.lt_succ_self _)
        have T0 : Plain.Touch (w.heap.size + 1) (w.heap.size + 2) W6 (((W6.setCell ⟨w.heap.size + 1, 0, none⟩ (.int .i64 B2)).setCell ⟨w.heap.size + 1, 1, none⟩ (.slice a3 R2.length c3)).setCell ⟨w.heap.size + 1, 2, none⟩ (.slice a4 O2.length c4)) := ((hT 0 _ _).trans (hT 1 _ _)).trans (hT 2 _ _)
        have h1 := (HV.out.touch T0 (.inr HLO.out)).lower (show w.heap.size ≤ W4.heap.size by have := HLO.out; omega)
        simpa only [size_setCell'] using h1
      · exact ((HBR.out.setCell (Nat.le_succ _) _).setCell (Nat.le_succ _) _).setCell (Nat.le_succ _) _
theorem spec_sub (v : Value) (b : Int) (rows : List (List Int)) (out : List Int) (w : World) (h : LiesS w v b rows out) (r : Int) (hs : rows.length + tot rows + out.length ≤ 1048576) :
    Calls Try.prog 19 #[v, .int .i64 r] w (GivesK (subB b rows out r) (subR b rows out r) (subO b rows out r) (subK b rows out r) w) := by
  cases hk : subOK b rows out r with
  | false =>
    obtain ⟨h1, h2, h3, h4⟩ := sub_no hk
    rw [h1, h2, h3, h4]
    exact spec_sub_no v b rows out w h r hs hk
  | true =>
    obtain ⟨h1, h2, h3, h4⟩ := sub_yes hk
    rw [h1, h2, h3, h4]
    exact spec_sub_yes v b rows out w h r hs hk
end Kern
end Go.Proofs.Ytdgfecjakmdheaa
/- Contracts of StateAfter, of the program and of the model. No conditions beyond those that each states. -/
namespace Go.Proofs.Ytdgfecjakmdheaa
open Go.ChangeShapes Go.WideShapes Go.ChangeAt Go.RowKit
open Go.PlainAid Plain
set_option linter.unusedVariables false
namespace Seqs
theorem spec_after_no (v : Value) (b : Int) (rows : List (List Int)) (out : List Int) (w : World) (h : LiesS w v b rows out) (u : Value) (ds : List Int) (hu : Lies (Value.int .i64) w u ds) (hno : seqB b rows out = false ∨ areD b ds = false) :
    Calls Try.prog 35 #[v, u] w fun e w' => e = .returned (.int .i64 (-1)) ∧ Below w.heap.size w w' := by
  have HS := Lib.hid h
  obtain ⟨an, cn, ao, co, rfl⟩ := h.form
  clear h
  have hB : Below w.heap.size w (w.alloc (Obj.cells #[Value.int .i64 b, Value.slice an rows.length cn, Value.slice ao out.length co] 27)) := (Below.refl _ _).alloc (Nat.le_refl _) _
  have HC := Lib.hid (Cells3.new w 27 (.int .i64 b) (.slice an rows.length cn) (.slice ao out.length co))
  have HB := Lib.hid hB
  clear hB
  have HU := Lib.hid hu
  obtain ⟨_, au, cu, rfl, _, _⟩ := hu
  cases hs : seqB b rows out with
  | false =>
    have HQ := Lib.hid hs
    clear hs hno
    go_enter Try.func35, Try.ntmps35
    go_wp2_with fail
    refine (spec_is _ b rows out _ (HS.out.below HB.out)).mono ?_
    rintro e W1 ⟨rfl, b1⟩
    have HB1 := Lib.hid (HB.out.trans (b1.mono HB.out.size))
    rw [HQ.out]
    clear b1
    go_wp2
    go_ret
    exact ⟨rfl, HB1.out⟩
  | true =>
    have HQ := Lib.hid hs
    have HA : Hid (areD b ds = false) := by
      rcases hno with h1 | h1
      · rw [hs] at h1; cases h1
      · exact h1
    clear hs hno
    go_enter Try.func35, Try.ntmps35
    go_wp2_with fail
    refine (spec_is _ b rows out _ (HS.out.below HB.out)).mono ?_
    rintro e W1 ⟨rfl, b1⟩
    have HB1 := Lib.hid (HB.out.trans (b1.mono HB.out.size))
    have HC1 := Lib.hid (HC.out.below b1)
    rw [HQ.out]
    clear b1
    have k0 := HC1.out.c0
    have k1 := HC1.out.c1
    have k2 := HC1.out.c2
    go_wp2_with fail
    refine (Digits.spec_are _ ds b _ (HU.out.below HB1.out)).mono ?_
    rintro e w' ⟨rfl, rfl⟩
    rw [HA.out]
    go_wp2
    go_ret
    exact ⟨rfl, HB1.out⟩
theorem spec_after_yes (v : Value) (b : Int) (rows : List (List Int)) (out : List Int) (w : World) (h : LiesS w v b rows out) (u : Value) (ds : List Int) (hu : Lies (Value.int .i64) w u ds) (hs : seqB b rows out = true) (ha : areD b ds = true) :
    Calls Try.prog 35 #[v, u] w fun e w' => e = .returned (.int .i64 (afterS rows ds)) ∧ Below w.heap.size w w' := by
  have HS := Lib.hid h
  obtain ⟨an, cn, ao, co, rfl⟩ := h.form
  clear h
  have hB : Below w.heap.size w (w.alloc (Obj.cells #[Value.int .i64 b, Value.slice an rows.length cn, Value.slice ao out.length co] 27)) := (Below.refl _ _).alloc (Nat.le_refl _) _
  have HC := Lib.hid (Cells3.new w 27 (.int .i64 b) (.slice an rows.length cn) (.slice ao out.length co))
  have HB := Lib.hid hB
  clear hB
  have HU := Lib.hid hu
  obtain ⟨hul, au, cu, rfl, _, _⟩ := hu
  have HQ := Lib.hid hs
  have HA := Lib.hid ha
  have HV := Lib.hid (seqB_out hs)
  have HD := Lib.hid (areD_out ha).2.2.2
  have HN0 := Lib.hid (seqB_out hs).2.2.1
  clear hs ha
  go_enter Try.func35, Try.ntmps35
  go_wp2_with fail
  refine (spec_is _ b rows out _ (HS.out.below HB.out)).mono ?_
  rintro e W1 ⟨rfl, b1⟩
  have HB1 := Lib.hid (HB.out.trans (b1.mono HB.out.size))
  have HC1 := Lib.hid (HC.out.below b1)
  rw [HQ.out]
  clear b1
  have k0 := HC1.out.c0
  have k1 := HC1.out.c1
  have k2 := HC1.out.c2
  go_wp2_with fail
  refine (Digits.spec_are _ ds b _ (HU.out.below HB1.out)).mono ?_
  rintro e w' ⟨rfl, rfl⟩
  rw [HA.out]
  obtain ⟨hN, _⟩ := (HS.out.below HB1.out).cells
  obtain ⟨_, au', cu', hua, _, huc⟩ := HU.out.below HB1.out
  injection hua with hua1 _ _
  subst hua1
  have HN := Lib.hid hN
  have HUC := Lib.hid huc
  have HBn : Hid (∀ n, Below w.heap.size w (W1.drewN n)) := fun n => below_drewN HB1.out n
  clear hN huc
  go_wp2
  go_loopw [5, 6] (fun s' i' wr => ∃ i sn : Nat, i ≤ ds.length ∧ i' = .int .i64 i ∧ s' = .int .i64 sn ∧ Hid ((sn : Int) = afterS rows (ds.take i)) ∧ ∃ n, wr = W1.drewN n) (fun _ i' _ => ds.length - (intOf i').toNat)
  case atStart => exact ⟨0, 0, Nat.zero_le _, rfl, rfl, rfl, 0, rfl⟩
  case round =>
    obtain ⟨i, sn, hi, rfl, rfl, HI, n, rfl⟩ := hrel
    by_cases hlt : i < ds.length
    · obtain ⟨dn, yn, hd, hsn, hyn, hy, r, hr, hry⟩ := HV.out.after_step HD.out hlt HI.out
      obtain ⟨g, t, rfl, hcd⟩ := HUC.out i _ hd
      obtain ⟨p, o, a', c', rfl, hcell, hrow⟩ := HN.out sn r hr
      obtain ⟨q, s, rfl, hcy⟩ := hrow dn _ hry
      have hdn := (List.getElem?_eq_some_iff.1 hry).1
      have HY := Lib.hid hy
      clear hd hy hr hry hrow
      go_wp2
      go_quiet (fail)
      go_wp2
      go_roundw
      case rel => exact ⟨i + 1, yn, by omega, by go_num, rfl, HY.out, _, rfl⟩
      case measure => simp [intOf]; omega
    · have HE : Hid ((sn : Int) = afterS rows ds) := by
        have := HI.out
        rw [List.take_of_length_le (by omega)] at this
        exact this
      go_wp2
      go_ret
      exact ⟨ret_i HE.out, HBn.out _⟩
theorem impl_walk (v : Value) (b : Int) (rows : List (List Int)) (out : List Int) (w : World) (h : LiesS w v b rows out) (u : Value) (ds : List Int) (hu : Lies (Value.int .i64) w u ds) (hv : IsSeq b rows out) (hd : ∀ d ∈ ds, 0 ≤ d ∧ d < b) :
    Calls Try.prog 30 #[v, u] w fun e w' => e = .returned (.int .i64 (afterS rows ds)) ∧ Below w.heap.size w w' := by
  have HS := Lib.hid h
  obtain ⟨an, cn, ao, co, rfl⟩ := h.form
  clear h
  have hB : Below w.heap.size w (w.alloc (Obj.cells #[Value.int .i64 b, Value.slice an rows.length cn, Value.slice ao out.length co] 27)) := (Below.refl _ _).alloc (Nat.le_refl _) _
  have HC := Lib.hid (Cells3.new w 27 (.int .i64 b) (.slice an rows.length cn) (.slice ao out.length co))
  have HB := Lib.hid hB
  clear hB
  have HU := Lib.hid hu
  obtain ⟨hul, au, cu, rfl, _, _⟩ := hu
  have HV := Lib.hid hv
  have HD := Lib.hid hd
  clear hv hd
  obtain ⟨W, hW⟩ : ∃ W, W = w.alloc (Obj.cells #[Value.int .i64 b, Value.slice an rows.length cn, Value.slice ao out.length co] 27) := ⟨_, rfl⟩
  obtain ⟨z, hz⟩ : ∃ z, z = w.heap.size := ⟨_, rfl⟩
  go_enter Try.func30, Try.ntmps30
  go_wp2
  rw [← hW] at HC HB ⊢
  obtain ⟨hN, _⟩ := (HS.out.below HB.out).cells
  obtain ⟨_, au', cu', hua, _, huc⟩ := HU.out.below HB.out
  injection hua with hua1 _ _
  subst hua1
  have HN := Lib.hid hN
  have HUC := Lib.hid huc
  have k1 := HC.out.c1
  rw [← hz] at k1 ⊢
  clear hN huc hW hz
  go_loop [5, 10] (fun s' i' => ∃ i sn : Nat, i ≤ ds.length ∧ i' = .int .i64 i ∧ s' = .int .i64 sn ∧ Hid ((sn : Int) = afterS rows (ds.take i))) (fun _ i' => ds.length - (intOf i').toNat)
  case atStart => exact ⟨0, 0, Nat.zero_le _, rfl, rfl, rfl⟩
  case round =>
    obtain ⟨i, sn, hi, rfl, rfl, HI⟩ := hrel
    by_cases hlt : i < ds.length
    · obtain ⟨dn, yn, hd, hsn, hyn, hy, r, hr, hry⟩ := HV.out.after_step HD.out hlt HI.out
      obtain ⟨g, t, rfl, hcd⟩ := HUC.out i _ hd
      obtain ⟨p, o, a', c', rfl, hcell, hrow⟩ := HN.out sn r hr
      obtain ⟨q, s, rfl, hcy⟩ := hrow dn _ hry
      have hdn := (List.getElem?_eq_some_iff.1 hry).1
      have HY := Lib.hid hy
      clear hd hy hr hry hrow
      go_wp2
      go_round
      case rel => exact ⟨i + 1, yn, by omega, by go_num, rfl, HY.out⟩
      case measure => simp [intOf]; omega
    · have HE : Hid ((sn : Int) = afterS rows ds) := by
        have := HI.out
        rw [List.take_of_length_le (by omega)] at this
        exact this
      go_wp2
      go_ret
      exact ⟨ret_i HE.out, HB.out⟩
theorem spec_after (v : Value) (b : Int) (rows : List (List Int)) (out : List Int) (w : World) (h : LiesS w v b rows out) (u : Value) (ds : List Int) (hu : Lies (Value.int .i64) w u ds) :
    Calls Try.prog 35 #[v, u] w fun e w' => e = .returned (.int .i64 (afterV b rows out (areD b ds) ds)) ∧ Below w.heap.size w w' := by
  cases hs : seqB b rows out with
  | false => rw [afterV, if_neg (by simp [hs])]; exact spec_after_no v b rows out w h u ds hu (.inl hs)
  | true =>
    cases ha : areD b ds with
    | false => rw [afterV, if_neg (by simp)]; exact spec_after_no v b rows out w h u ds hu (.inr ha)
    | true => rw [afterV, if_pos ⟨hs, rfl⟩]; exact spec_after_yes v b rows out w h u ds hu hs ha
end Seqs
end Go.Proofs.Ytdgfecjakmdheaa
/- Contracts of TermAt, of the program and of the model. No conditions beyond those that each states. -/
namespace Go.Proofs.Ytdgfecjakmdheaa
open Go.ChangeShapes Go.WideShapes Go.ChangeAt Go.RowKit
open Go.PlainAid Plain
set_option linter.unusedVariables false
namespace Seqs
theorem cell_below {w w' : World} {p : Addr} {x : Value} (h : w.cell? p = some x) (hb : Below w.heap.size w w') : w'.cell? p = some x := (hb.cell (World.block_lt_of_cell? w p h)).trans h
open Digits
/-- May the term be asked for? -/
def askB (b : Int) (rows : List (List Int)) (out : List Int) (n : Int) : Bool := seqB b rows out && decide (0 ≤ n) && decide (n < powV b 16)
/-- The term n, -1 where it may not be asked for. -/
def termV (b : Int) (rows : List (List Int)) (out : List Int) (n : Int) : Int := if askB b rows out n = true then out.getD (afterS rows (digV n b)).toNat 0 else -1
theorem dig_ok {b : Int} {rows : List (List Int)} {out : List Int} (h : IsSeq b rows out) (n : Int) : (∀ d ∈ digV n b, 0 ≤ d ∧ d < b) ∧ areD b (digV n b) = true := by
  have hm : ∀ d ∈ digV n b, 0 ≤ d ∧ d < b := by
    intro d hd
    unfold digV at hd
    split at hd
    · have := digs_mem n.toNat b.toNat (by have := h.1; omega) d hd
      have := h.1
      omega
    · cases hd
  exact ⟨hm, areD_yes h.1 h.2.1 (digV_len n b) hm⟩
set_option maxHeartbeats 1000000 in
theorem impl_term (v : Value) (b : Int) (rows : List (List Int)) (out : List Int) (w : World) (h : LiesS w v b rows out) (n : Int) (hv : IsSeq b rows out) :
    Calls Try.prog 42 #[v, .int .i64 n] w fun e w' => e = .returned (.int .i64 (out.getD (afterS rows (digV n b)).toNat 0)) ∧ Below w.heap.size w w' := by
  have HS := Lib.hid h
  obtain ⟨an, cn, ao, co, rfl⟩ := h.form
  clear h
  have hB : Below w.heap.size w (w.alloc (Obj.cells #[Value.int .i64 b, Value.slice an rows.length cn, Value.slice ao out.length co] 27)) := (Below.refl _ _).alloc (Nat.le_refl _) _
  have HC := Lib.hid (Cells3.new w 27 (.int .i64 b) (.slice an rows.length cn) (.slice ao out.length co))
  have HB := Lib.hid hB
  clear hB
  obtain ⟨hdm, hda⟩ := dig_ok hv n
  obtain ⟨sn, hsn, hsl, hso⟩ := hv.term_at hdm
  obtain ⟨t, ht⟩ : ∃ t, t = out.getD (afterS rows (digV n b)).toNat 0 := ⟨_, rfl⟩
  rw [← ht] at hso ⊢
  have HSN := Lib.hid hsn
  have HV := Lib.hid hv
  have HDM := Lib.hid hdm
  clear hv hda hsn ht hdm
  go_enter Try.func42, Try.ntmps42
  go_wp2_with fail
  obtain ⟨W1, hW⟩ : ∃ W, W = w.alloc (Obj.cells #[Value.int .i64 b, Value.slice an rows.length cn, Value.slice ao out.length co] 27) := ⟨_, rfl⟩
  rw [← hW] at HC HB ⊢
  have HC1 := Lib.hid HC.out
  have HB1 := Lib.hid HB.out
  obtain ⟨_, hO⟩ := (HS.out.below HB1.out).cells
  obtain ⟨q, s, rfl, hct⟩ := hO sn t hso
  clear hO hW HC HB hso
  have hs0 : (0 : Int) ≤ (sn : Int) := Int.natCast_nonneg _
  have hs1 : (sn : Int) < (out.length : Int) := by omega
  have bd := below_drew' W1
  have HCd := Lib.hid (HC1.out.below bd)
  have HBd := Lib.hid (HB1.out.trans (bd.mono HB1.out.size))
  have hcd := Lib.hid (cell_below hct bd)
  obtain ⟨Wd, hWd⟩ : ∃ W, W = W1.drew := ⟨_, rfl⟩
  rw [← hWd] at HCd HBd hcd
  clear bd hct
  go_region_held3 (fun w' => w'.cell? ⟨w.heap.size, 0, none⟩ = some (.int .i64 b) ∧ w'.cell? ⟨w.heap.size, 1, none⟩ = some (.slice an rows.length cn) ∧ w'.cell? ⟨w.heap.size, 2, none⟩ = some (.slice (some ⟨q, s, none⟩) out.length co) ∧ w'.cell? ⟨q, s + sn, none⟩ = some (.int .i64 t))
    (first | (rw [← hWd]; exact ⟨HCd.out.c0, HCd.out.c1, HCd.out.c2, hcd.out⟩) | exact ⟨(HCd.out.below bt).c0, (HCd.out.below bt).c1, (HCd.out.below bt).c2, cell_below hcd.out bt⟩ | exact ⟨((HCd.out.below bt).below bu).c0, ((HCd.out.below bt).below bu).c1, ((HCd.out.below bt).below bu).c2, cell_below (cell_below hcd.out bt) bu⟩)
    (first | (go_at_call 32; rw [← hWd]; refine (impl_digits_any n b _).mono ?_; rintro e Wt ⟨vt, rfl, ht, bt⟩) | (go_at_call 30; refine (impl_walk _ b rows out _ (HS.out.below (HBd.out.trans (bt.mono HBd.out.size))) _ (digV n b) ht.lies HV.out HDM.out).mono ?_; rintro e Wu ⟨rfl, bu⟩; rw [← HSN.out]))
  have HBe := Lib.hid ((HBd.out.trans (bt.mono HBd.out.size)).trans (bu.mono (HBd.out.trans (bt.mono HBd.out.size)).size))
  clear bt bu ht hWd HBd HCd hcd
  go_wp2
  go_ret
  exact ⟨rfl, HBe.out⟩
set_option maxHeartbeats 1000000 in
theorem spec_term_yes (v : Value) (b : Int) (rows : List (List Int)) (out : List Int) (w : World) (h : LiesS w v b rows out) (n : Int) (hq : seqB b rows out = true) (h0 : 0 ≤ n) (h1 : n < powV b 16) :
    Calls Try.prog 16 #[v, .int .i64 n] w fun e w' => e = .returned (.int .i64 (out.getD (afterS rows (digV n b)).toNat 0)) ∧ Below w.heap.size w w' := by
  have HS := Lib.hid h
  obtain ⟨an, cn, ao, co, rfl⟩ := h.form
  clear h
  have hB : Below w.heap.size w (w.alloc (Obj.cells #[Value.int .i64 b, Value.slice an rows.length cn, Value.slice ao out.length co] 27)) := (Below.refl _ _).alloc (Nat.le_refl _) _
  have HC := Lib.hid (Cells3.new w 27 (.int .i64 b) (.slice an rows.length cn) (.slice ao out.length co))
  have HB := Lib.hid hB
  clear hB
  have hv := seqB_out hq
  obtain ⟨hdm, hda⟩ := dig_ok hv n
  obtain ⟨sn, hsn, hsl, hso⟩ := hv.term_at hdm
  obtain ⟨t, ht⟩ : ∃ t, t = out.getD (afterS rows (digV n b)).toNat 0 := ⟨_, rfl⟩
  rw [← ht] at hso ⊢
  have HSN := Lib.hid hsn
  have HQ := Lib.hid hq
  have HDA := Lib.hid hda
  have HSO := Lib.hid hso
  have HP := Lib.hid (fun w => spec_pow_any b 16 w)
  obtain ⟨p, hp⟩ : ∃ p, p = powV b 16 := ⟨_, rfl⟩
  rw [← hp] at HP h1
  clear hv hda hsn ht hdm hq hso hp
  have hd0 := decide_eq_false (show ¬ n < 0 by omega)
  have hd1 := decide_eq_false (show ¬ p ≤ n by omega)
  go_enter Try.func16, Try.ntmps16
  go_wp2_with fail
  refine (spec_is _ b rows out _ (HS.out.below HB.out)).mono ?_
  rintro e W1 ⟨rfl, b1⟩
  have HB1 := Lib.hid (HB.out.trans (b1.mono HB.out.size))
  have HC1 := Lib.hid (HC.out.below b1)
  rw [HQ.out]
  clear b1 HB HC
  have k0 := HC1.out.c0
  have k1 := HC1.out.c1
  have k2 := HC1.out.c2
  go_wp2_with fail
  refine (HP.out _).mono ?_
  rintro e w' ⟨rfl, rfl⟩
  go_wp2_with fail
  obtain ⟨_, hO⟩ := (HS.out.below HB1.out).cells
  obtain ⟨q, s, rfl, hct⟩ := hO sn t HSO.out
  clear hO k0 k1 k2
  have hs0 : (0 : Int) ≤ (sn : Int) := Int.natCast_nonneg _
  have hs1 : (sn : Int) < (out.length : Int) := by omega
  have bd := below_drew' W1
  have HCd := Lib.hid (HC1.out.below bd)
  have HBd := Lib.hid (HB1.out.trans (bd.mono HB1.out.size))
  have hcd := Lib.hid (cell_below hct bd)
  obtain ⟨Wd, hWd⟩ : ∃ W, W = W1.drew := ⟨_, rfl⟩
  rw [← hWd] at HCd HBd hcd
  clear bd hct
  go_region_held3 (fun w' => w'.cell? ⟨w.heap.size, 0, none⟩ = some (.int .i64 b) ∧ w'.cell? ⟨w.heap.size, 1, none⟩ = some (.slice an rows.length cn) ∧ w'.cell? ⟨w.heap.size, 2, none⟩ = some (.slice (some ⟨q, s, none⟩) out.length co) ∧ w'.cell? ⟨q, s + sn, none⟩ = some (.int .i64 t))
    (first | (rw [← hWd]; exact ⟨HCd.out.c0, HCd.out.c1, HCd.out.c2, hcd.out⟩) | exact ⟨(HCd.out.below bt).c0, (HCd.out.below bt).c1, (HCd.out.below bt).c2, cell_below hcd.out bt⟩ | exact ⟨((HCd.out.below bt).below bu).c0, ((HCd.out.below bt).below bu).c1, ((HCd.out.below bt).below bu).c2, cell_below (cell_below hcd.out bt) bu⟩)
    (first | (go_at_call 36; rw [← hWd]; refine (spec_digits_any n b _).mono ?_; rintro e Wt ⟨vt, rfl, ht, bt⟩) | (go_at_call 35; refine (spec_after_yes _ b rows out _ (HS.out.below (HBd.out.trans (bt.mono HBd.out.size))) _ (digV n b) ht.lies HQ.out HDA.out).mono ?_; rintro e Wu ⟨rfl, bu⟩; rw [← HSN.out]))
  have HBe := Lib.hid ((HBd.out.trans (bt.mono HBd.out.size)).trans (bu.mono (HBd.out.trans (bt.mono HBd.out.size)).size))
  clear bt bu ht hWd HBd HCd hcd
  go_wp2
  go_ret
  exact ⟨rfl, HBe.out⟩
theorem impl_term_yes (v : Value) (b : Int) (rows : List (List Int)) (out : List Int) (w : World) (h : LiesS w v b rows out) (n : Int) (hq : seqB b rows out = true) (h0 : 0 ≤ n) (h1 : n < powV b 16) :
    Calls Try.prog 20 #[v, .int .i64 n] w fun e w' => e = .returned (.int .i64 (out.getD (afterS rows (digV n b)).toNat 0)) ∧ Below w.heap.size w w' := by
  have HS := Lib.hid h
  obtain ⟨an, cn, ao, co, rfl⟩ := h.form
  clear h
  have hB : Below w.heap.size w (w.alloc (Obj.cells #[Value.int .i64 b, Value.slice an rows.length cn, Value.slice ao out.length co] 27)) := (Below.refl _ _).alloc (Nat.le_refl _) _
  have HC := Lib.hid (Cells3.new w 27 (.int .i64 b) (.slice an rows.length cn) (.slice ao out.length co))
  have HB := Lib.hid hB
  clear hB
  have HV := Lib.hid (seqB_out hq)
  have HQ := Lib.hid hq
  have HP := Lib.hid (fun w => impl_pow_any b 16 w)
  obtain ⟨p, hp⟩ : ∃ p, p = powV b 16 := ⟨_, rfl⟩
  rw [← hp] at HP h1
  obtain ⟨t, ht⟩ : ∃ t, t = out.getD (afterS rows (digV n b)).toNat 0 := ⟨_, rfl⟩
  have HT := Lib.hid ht
  rw [← ht]
  clear hq hp ht
  have hd0 := decide_eq_false (show ¬ n < 0 by omega)
  have hd1 := decide_eq_false (show ¬ p ≤ n by omega)
  go_enter Try.func20, Try.ntmps20
  go_wp2_with fail
  refine (impl_is _ b rows out _ (HS.out.below HB.out)).mono ?_
  rintro e W1 ⟨rfl, b1⟩
  have HB1 := Lib.hid (HB.out.trans (b1.mono HB.out.size))
  have HC1 := Lib.hid (HC.out.below b1)
  rw [HQ.out]
  clear b1 HB HC
  have k0 := HC1.out.c0
  have k1 := HC1.out.c1
  have k2 := HC1.out.c2
  go_wp2_with fail
  refine (HP.out _).mono ?_
  rintro e w' ⟨rfl, rfl⟩
  go_wp2_with fail
  refine (impl_term _ b rows out _ (HS.out.below HB1.out) n HV.out).mono ?_
  rintro e W2 ⟨rfl, b2⟩
  have HB2 := Lib.hid (HB1.out.trans (b2.mono HB1.out.size))
  rw [← HT.out]
  clear b2 k0 k1 k2
  go_wp2
  go_ret
  exact ⟨rfl, HB2.out⟩
theorem spec_term_no (v : Value) (b : Int) (rows : List (List Int)) (out : List Int) (w : World) (h : LiesS w v b rows out) (n : Int) (hno : askB b rows out n = false) :
    Calls Try.prog 16 #[v, .int .i64 n] w fun e w' => e = .returned (.int .i64 (-1)) ∧ Below w.heap.size w w' := by
  have HS := Lib.hid h
  obtain ⟨an, cn, ao, co, rfl⟩ := h.form
  clear h
  have hB : Below w.heap.size w (w.alloc (Obj.cells #[Value.int .i64 b, Value.slice an rows.length cn, Value.slice ao out.length co] 27)) := (Below.refl _ _).alloc (Nat.le_refl _) _
  have HC := Lib.hid (Cells3.new w 27 (.int .i64 b) (.slice an rows.length cn) (.slice ao out.length co))
  have HB := Lib.hid hB
  clear hB
  by_cases h0 : n < 0
  · have hd0 := decide_eq_true h0
    clear hno h0
    go_enter Try.func16, Try.ntmps16
    go_wp2
    go_ret
    exact ⟨rfl, HB.out⟩
  · have hd0 := decide_eq_false h0
    cases hq : seqB b rows out with
    | false =>
      have HQ := Lib.hid hq
      clear hq hno
      go_enter Try.func16, Try.ntmps16
      go_wp2_with fail
      refine (spec_is _ b rows out _ (HS.out.below HB.out)).mono ?_
      rintro e W1 ⟨rfl, b1⟩
      have HB1 := Lib.hid (HB.out.trans (b1.mono HB.out.size))
      have HC1 := Lib.hid (HC.out.below b1)
      rw [HQ.out]
      clear b1 HB HC
      go_wp2
      go_ret
      exact ⟨rfl, HB1.out⟩
    | true =>
      have HQ := Lib.hid hq
      have hp : powV b 16 ≤ n := by
        simp only [askB, hq, Bool.true_and, Bool.and_eq_false_iff, decide_eq_false_iff_not] at hno
        omega
      have HP := Lib.hid (fun w => spec_pow_any b 16 w)
      obtain ⟨p, hpp⟩ : ∃ p, p = powV b 16 := ⟨_, rfl⟩
      rw [← hpp] at HP hp
      have hd1 := decide_eq_true hp
      clear hq hno hpp
      go_enter Try.func16, Try.ntmps16
      go_wp2_with fail
      refine (spec_is _ b rows out _ (HS.out.below HB.out)).mono ?_
      rintro e W1 ⟨rfl, b1⟩
      have HB1 := Lib.hid (HB.out.trans (b1.mono HB.out.size))
      have HC1 := Lib.hid (HC.out.below b1)
      rw [HQ.out]
      clear b1 HB HC
      have k0 := HC1.out.c0
      have k1 := HC1.out.c1
      have k2 := HC1.out.c2
      go_wp2_with fail
      refine (HP.out _).mono ?_
      rintro e w' ⟨rfl, rfl⟩
      go_wp2
      go_ret
      exact ⟨rfl, HB1.out⟩
theorem impl_term_no (v : Value) (b : Int) (rows : List (List Int)) (out : List Int) (w : World) (h : LiesS w v b rows out) (n : Int) (hno : askB b rows out n = false) :
    Calls Try.prog 20 #[v, .int .i64 n] w fun e w' => e = .returned (.int .i64 (-1)) ∧ Below w.heap.size w w' := by
  have HS := Lib.hid h
  obtain ⟨an, cn, ao, co, rfl⟩ := h.form
  clear h
  have hB : Below w.heap.size w (w.alloc (Obj.cells #[Value.int .i64 b, Value.slice an rows.length cn, Value.slice ao out.length co] 27)) := (Below.refl _ _).alloc (Nat.le_refl _) _
  have HC := Lib.hid (Cells3.new w 27 (.int .i64 b) (.slice an rows.length cn) (.slice ao out.length co))
  have HB := Lib.hid hB
  clear hB
  by_cases h0 : n < 0
  · have hd0 := decide_eq_true h0
    clear hno h0
    cases hq : seqB b rows out with
    | false =>
      have HQ := Lib.hid hq
      clear hq
      go_enter Try.func20, Try.ntmps20
      go_wp2_with fail
      refine (impl_is _ b rows out _ (HS.out.below HB.out)).mono ?_
      rintro e W1 ⟨rfl, b1⟩
      have HB1 := Lib.hid (HB.out.trans (b1.mono HB.out.size))
      have HC1 := Lib.hid (HC.out.below b1)
      rw [HQ.out]
      clear b1 HB HC
      go_wp2
      go_ret
      exact ⟨rfl, HB1.out⟩
    | true =>
      have HQ := Lib.hid hq
      clear hq
      go_enter Try.func20, Try.ntmps20
      go_wp2_with fail
      refine (impl_is _ b rows out _ (HS.out.below HB.out)).mono ?_
      rintro e W1 ⟨rfl, b1⟩
      have HB1 := Lib.hid (HB.out.trans (b1.mono HB.out.size))
      have HC1 := Lib.hid (HC.out.below b1)
      rw [HQ.out]
      clear b1 HB HC
      have k0 := HC1.out.c0
      have k1 := HC1.out.c1
      have k2 := HC1.out.c2
      go_wp2
      go_ret
      exact ⟨rfl, HB1.out⟩
  · have hd0 := decide_eq_false h0
    cases hq : seqB b rows out with
    | false =>
      have HQ := Lib.hid hq
      clear hq hno
      go_enter Try.func20, Try.ntmps20
      go_wp2_with fail
      refine (impl_is _ b rows out _ (HS.out.below HB.out)).mono ?_
      rintro e W1 ⟨rfl, b1⟩
      have HB1 := Lib.hid (HB.out.trans (b1.mono HB.out.size))
      have HC1 := Lib.hid (HC.out.below b1)
      rw [HQ.out]
      clear b1 HB HC
      go_wp2
      go_ret
      exact ⟨rfl, HB1.out⟩
    | true =>
      have HQ := Lib.hid hq
      have hp : powV b 16 ≤ n := by
        simp only [askB, hq, Bool.true_and, Bool.and_eq_false_iff, decide_eq_false_iff_not] at hno
        omega
      have HP := Lib.hid (fun w => impl_pow_any b 16 w)
      obtain ⟨p, hpp⟩ : ∃ p, p = powV b 16 := ⟨_, rfl⟩
      rw [← hpp] at HP hp
      have hd1 := decide_eq_true hp
      clear hq hno hpp
      go_enter Try.func20, Try.ntmps20
      go_wp2_with fail
      refine (impl_is _ b rows out _ (HS.out.below HB.out)).mono ?_
      rintro e W1 ⟨rfl, b1⟩
      have HB1 := Lib.hid (HB.out.trans (b1.mono HB.out.size))
      have HC1 := Lib.hid (HC.out.below b1)
      rw [HQ.out]
      clear b1 HB HC
      have k0 := HC1.out.c0
      have k1 := HC1.out.c1
      have k2 := HC1.out.c2
      go_wp2_with fail
      refine (HP.out _).mono ?_
      rintro e w' ⟨rfl, rfl⟩
      go_wp2
      go_ret
      exact ⟨rfl, HB1.out⟩
theorem spec_termat (v : Value) (b : Int) (rows : List (List Int)) (out : List Int) (w : World) (h : LiesS w v b rows out) (n : Int) :
    Calls Try.prog 16 #[v, .int .i64 n] w fun e w' => e = .returned (.int .i64 (termV b rows out n)) ∧ Below w.heap.size w w' := by
  cases hs : askB b rows out n with
  | false => rw [termV, if_neg (by simp [hs])]; exact spec_term_no v b rows out w h n hs
  | true =>
    rw [termV, if_pos hs]
    simp only [askB, Bool.and_eq_true, decide_eq_true_eq] at hs
    exact spec_term_yes v b rows out w h n hs.1.1 hs.1.2 hs.2
theorem impl_termat (v : Value) (b : Int) (rows : List (List Int)) (out : List Int) (w : World) (h : LiesS w v b rows out) (n : Int) :
    Calls Try.prog 20 #[v, .int .i64 n] w fun e w' => e = .returned (.int .i64 (termV b rows out n)) ∧ Below w.heap.size w w' := by
  cases hs : askB b rows out n with
  | false => rw [termV, if_neg (by simp [hs])]; exact impl_term_no v b rows out w h n hs
  | true =>
    rw [termV, if_pos hs]
    simp only [askB, Bool.and_eq_true, decide_eq_true_eq] at hs
    exact impl_term_yes v b rows out w h n hs.1.1 hs.1.2 hs.2
end Seqs
end Go.Proofs.Ytdgfecjakmdheaa
/- Contracts of PrefixOf, of the program and of the model. No conditions beyond those that each states. -/
namespace Go.Proofs.Ytdgfecjakmdheaa
open Go.ChangeShapes Go.WideShapes Go.ChangeAt Go.RowKit
open Go.PlainAid Plain
set_option linter.unusedVariables false
namespace Seqs
open Digits
/-- The term n, told without a look whether it may be asked for. -/
def termG (b : Int) (rows : List (List Int)) (out : List Int) (i : Nat) : Int := out.getD (afterS rows (digV (i : Int) b)).toNat 0
def termsG (b : Int) (rows : List (List Int)) (out : List Int) (i : Nat) : List Int := (List.range i).map (termG b rows out)
theorem termsG_len (b : Int) (rows : List (List Int)) (out : List Int) (i : Nat) : (termsG b rows out i).length = i := by simp [termsG]
theorem termsG_succ (b : Int) (rows : List (List Int)) (out : List Int) (i : Nat) : termsG b rows out (i + 1) = termsG b rows out i ++ [termG b rows out i] := by simp [termsG, List.range_succ]
theorem termsG_set (b : Int) (rows : List (List Int)) (out : List Int) (i m : Nat) (h : i < m) : ((termsG b rows out i ++ List.replicate (m - i) 0).map (Value.int .i64)).set i (.int .i64 (termG b rows out i)) = (termsG b rows out (i + 1) ++ List.replicate (m - (i + 1)) 0).map (Value.int .i64) := by
  rw [show m - i = (m - (i + 1)) + 1 from by omega, List.replicate_succ, List.map_append, List.map_cons, set_mid _ _ _ _ i (by rw [List.length_map, termsG_len]), termsG_succ, List.append_assoc, List.map_append]
  rfl
/-- May the terms be asked for? -/
def prefB (b : Int) (rows : List (List Int)) (out : List Int) (n : Int) : Bool := seqB b rows out && decide (1 ≤ n) && decide (n ≤ 256)
/-- The terms before n, none where they may not be asked for. -/
def prefV (b : Int) (rows : List (List Int)) (out : List Int) (n : Int) : List Int := if prefB b rows out n = true then termsG b rows out n.toNat else []
theorem prefV_len (b : Int) (rows : List (List Int)) (out : List Int) (n : Int) : (prefV b rows out n).length ≤ 256 := by
  unfold prefV
  split
  · rename_i h
    simp only [prefB, Bool.and_eq_true, decide_eq_true_eq] at h
    rw [termsG_len]
    omega
  · simp
theorem ask_small {b : Int} {rows : List (List Int)} {out : List Int} (h : seqB b rows out = true) (i : Nat) (hi : i ≤ 256) : termV b rows out (i : Int) = termG b rows out i := by
  have hb := seqB_out h
  have h2 : (i : Int) < powV b 16 := by
    obtain ⟨n, rfl⟩ := Int.eq_ofNat_of_zero_le (show 0 ≤ b by have := hb.1; omega)
    have hn := hb.1
    rw [powV_in n (by omega) (by have := hb.2.1; omega)]
    have h3 : 2 ^ 16 ≤ n ^ 16 := Nat.pow_le_pow_left (by omega) 16
    have h4 : (2 : Nat) ^ 16 = 65536 := by decide
    omega
  rw [termV, if_pos (by simp [askB, h, h2])]
  rfl
end Seqs
end Go.Proofs.Ytdgfecjakmdheaa
/- Contracts of FirstDifference, of the program and of the model. No conditions beyond those that each states. -/
namespace Go.Proofs.Ytdgfecjakmdheaa
open Go.ChangeShapes Go.WideShapes Go.ChangeAt Go.RowKit
open Go.PlainAid Plain
set_option linter.unusedVariables false
namespace Mins
open Seqs Digits
/-- The first number before 2000 whose terms differ. -/
def diffAt (b : Int) (rows : List (List Int)) (out : List Int) (rows' : List (List Int)) (out' : List Int) : Option Nat := (List.range 2000).find? fun n => decide (¬ termG b rows out n = termG b rows' out' n)
def diffOK (b b' : Int) (rows rows' : List (List Int)) (out out' : List Int) : Bool := seqB b rows out && seqB b' rows' out' && decide (b = b')
def diffV (b b' : Int) (rows rows' : List (List Int)) (out out' : List Int) : Int := if diffOK b b' rows rows' out out' = true then ((diffAt b rows out rows' out').getD 0 : Nat) else 0
def diffK (b b' : Int) (rows rows' : List (List Int)) (out out' : List Int) : Bool := diffOK b b' rows rows' out out' && (diffAt b rows out rows' out').isSome
theorem range_find {p : Nat → Bool} {n m : Nat} (h : m < n) (hp : p m = true) (hn : ∀ j < m, p j = false) : (List.range n).find? p = some m := by
  rw [List.find?_range_eq_some]
  exact ⟨hp, List.mem_range.2 h, fun j hj => by simp [hn j hj]⟩
theorem diffAt_some {b : Int} {rows rows' : List (List Int)} {out out' : List Int} {m : Nat} (h : m < 2000) (hp : ¬ termG b rows out m = termG b rows' out' m) (hn : ∀ j < m, termG b rows out j = termG b rows' out' j) : diffAt b rows out rows' out' = some m :=
  range_find h (decide_eq_true hp) fun j hj => decide_eq_false fun h => h (hn j hj)
theorem diffAt_none {b : Int} {rows rows' : List (List Int)} {out out' : List Int} (hn : ∀ j < 2000, termG b rows out j = termG b rows' out' j) : diffAt b rows out rows' out' = none := by
  rw [diffAt, List.find?_eq_none]
  intro j hj
  simp [hn j (List.mem_range.1 hj)]
theorem ask_small' {b : Int} {rows : List (List Int)} {out : List Int} (h : seqB b rows out = true) (i : Nat) (hi : i ≤ 4000) : termV b rows out (i : Int) = termG b rows out i := by
  have hb := seqB_out h
  have h2 : (i : Int) < powV b 16 := by
    obtain ⟨n, rfl⟩ := Int.eq_ofNat_of_zero_le (show 0 ≤ b by have := hb.1; omega)
    have hn := hb.1
    rw [powV_in n (by omega) (by have := hb.2.1; omega)]
    have h3 : 2 ^ 16 ≤ n ^ 16 := Nat.pow_le_pow_left (by omega) 16
    have h4 : (2 : Nat) ^ 16 = 65536 := by decide
    omega
  rw [termV, if_pos (by simp [askB, h, h2])]
  rfl
theorem ret_nb {m m' : Int} {c c' : Bool} (h1 : m = m') (h2 : c = c') : Ending.returned (.tuple #[.int .i64 m, .bool c]) = .returned (.tuple #[.int .i64 m', .bool c']) := by rw [h1, h2]
theorem six {w1 : World} {b1 b2 : Nat} {t : TypeId} {x y z x' y' z' : Value} (h1 : Cells3 w1 b1 t x y z) (h2 : Cells3 w1 b2 t x' y' z') :
    w1.cell? ⟨b1, 0, none⟩ = some x ∧ w1.cell? ⟨b1, 1, none⟩ = some y ∧ w1.cell? ⟨b1, 2, none⟩ = some z ∧ w1.cell? ⟨b2, 0, none⟩ = some x' ∧ w1.cell? ⟨b2, 1, none⟩ = some y' ∧ w1.cell? ⟨b2, 2, none⟩ = some z' := ⟨h1.c0, h1.c1, h1.c2, h2.c0, h2.c1, h2.c2⟩
end Mins
end Go.Proofs.Ytdgfecjakmdheaa
/- What a first difference says of the terms. No conditions beyond those that each fact states. -/
namespace Go.Proofs.Ytdgfecjakmdheaa
open Go.ChangeShapes Go.WideShapes Go.ChangeAt Go.RowKit
open Go.PlainAid Plain
set_option linter.unusedVariables false
namespace Mins
open Seqs Digits
/-- Where a difference is found, the terms at it differ. -/
theorem diff_differs {b b' : Int} {rows rows' : List (List Int)} {out out' : List Int} (h : diffK b b' rows rows' out out' = true) :
    ∃ n : Nat, n < 2000 ∧ diffV b b' rows rows' out out' = (n : Int) ∧ termV b rows out (n : Int) ≠ termV b' rows' out' (n : Int) := by
  rw [diffK, Bool.and_eq_true] at h
  obtain ⟨hd, hs⟩ := h
  obtain ⟨n, hn⟩ := Option.isSome_iff_exists.1 hs
  have hd2 := hd
  simp only [diffOK, Bool.and_eq_true, decide_eq_true_eq] at hd2
  obtain ⟨⟨hq, hq'⟩, rfl⟩ := hd2
  have h1 := List.find?_some hn
  have h2 := List.mem_range.1 (List.mem_of_find?_eq_some hn)
  refine ⟨n, h2, by rw [diffV, if_pos hd, hn]; rfl, ?_⟩
  rw [ask_small' hq n (by omega), ask_small' hq' n (by omega)]
  exact of_decide_eq_true h1
/-- Sequences with the same terms have no difference. -/
theorem diff_same {b : Int} {rows rows' : List (List Int)} {out out' : List Int} (h : ∀ j < 2000, termG b rows out j = termG b rows' out' j) : diffK b b rows rows' out out' = false := by
  rw [diffK, diffAt_none h]
  simp
/-- A map of states that starts at 0 and goes along with every digit goes along with every list of digits. -/
theorem after_sim {rows rows' : List (List Int)} {b : Int} (φ : Int → Int) (P : Int → Prop) (h0 : P 0) (hφ : φ 0 = 0)
    (hs : ∀ s d, P s → 0 ≤ d → d < b → P (nextS rows s d) ∧ φ (nextS rows s d) = nextS rows' (φ s) d) :
    ∀ ds : List Int, (∀ d ∈ ds, 0 ≤ d ∧ d < b) → P (afterS rows ds) ∧ φ (afterS rows ds) = afterS rows' ds := by
  have key : ∀ (ds : List Int) (s : Int), P s → (∀ d ∈ ds, 0 ≤ d ∧ d < b) → P (ds.foldl (nextS rows) s) ∧ φ (ds.foldl (nextS rows) s) = ds.foldl (nextS rows') (φ s) := by
    intro ds
    induction ds with
    | nil => intro s hp _; exact ⟨hp, rfl⟩
    | cons d ds ih =>
      intro s hp hd
      have h1 := hd d List.mem_cons_self
      have h2 := hs s d hp h1.1 h1.2
      have h3 := ih (nextS rows s d) h2.1 (fun x hx => hd x (List.mem_cons_of_mem _ hx))
      rw [List.foldl_cons, List.foldl_cons, ← h2.2]
      exact h3
  intro ds hd
  have h := key ds 0 h0 hd
  rw [hφ] at h
  exact h
/-- The merged automaton has the terms of the automaton. -/
theorem quot_out {rows : List (List Int)} {out : List Int} {n : Nat} (A : Auto rows out n) (ds : List Int) (hd : ∀ d ∈ ds, 0 ≤ d ∧ d < (n : Int)) :
    (0 ≤ afterS rows ds ∧ afterS rows ds < (rows.length : Int)) ∧ (outQ rows out).getD (afterS (rowsQ rows out) ds).toNat 0 = out.getD (afterS rows ds).toNat 0 := by
  have h := after_sim (rows := rows) (rows' := rowsQ rows out) (b := n) (clsF rows out) (fun s => 0 ≤ s ∧ s < (rows.length : Int)) ⟨by omega, by have := A.closed.1; omega⟩ (by rw [clsF]; exact class_zero A) (by
    intro s d ⟨h0, h1⟩ hd0 hd1
    obtain ⟨k, rfl⟩ := Int.eq_ofNat_of_zero_le h0
    obtain ⟨e, rfl⟩ := Int.eq_ofNat_of_zero_le hd0
    have hk : k < rows.length := by omega
    have he : e < n := by omega
    have h2 := next_lt A hk he
    have h3 : nextS rows (k : Int) (e : Int) = (rows.getD k []).getD e 0 := rfl
    rw [h3]
    refine ⟨⟨h2.1, by omega⟩, ?_⟩
    have hq := (rowsQ_at A hk).1
    have h4 : nextS (rowsQ rows out) (clsF rows out (k : Int)) (e : Int) = (rowOf (rowsQ rows out) ((classes rows out).getD k 0)).getD e 0 := rfl
    rw [h4, hq]
    have hl : e < (rows.getD k []).length := by
      rw [A.width _ (by rw [List.getD_eq_getElem?_getD, List.getElem?_eq_getElem hk]; exact List.getElem_mem hk)]
      exact he
    rw [List.getD_eq_getElem?_getD (l := List.map _ _), List.getElem?_map, List.getD_eq_getElem?_getD (l := rows.getD k []), List.getElem?_eq_getElem hl]
    rfl) ds hd
  refine ⟨h.1, ?_⟩
  rw [← h.2]
  obtain ⟨k, hk⟩ := Int.eq_ofNat_of_zero_le h.1.1
  have hkl : k < rows.length := by have := h.1.2; omega
  rw [hk, clsF, Int.toNat_natCast]
  exact (rowsQ_at A hkl).2
/-- The automaton of the reached states in their order has the terms of the automaton. -/
theorem search_out {Q : List (List Int)} {o : List Int} {n : Nat} (A : Auto Q o n) (ds : List Int) (hd : ∀ d ∈ ds, 0 ≤ d ∧ d < (n : Int)) :
    (searchO Q o).getD (afterS (searchR Q) ds).toNat 0 = o.getD (afterS Q ds).toNat 0 := by
  have hz := reached_zero Q
  have hnd : (reached Q).Nodup := (reachI_ok A.closed _).1
  have hb : ∀ s ∈ reached Q, 0 ≤ s ∧ s < Q.length := (reachI_ok A.closed _).2
  have h := after_sim (rows := Q) (rows' := searchR Q) (b := n) (fun s => (ix (reached Q) s : Int)) (fun s => s ∈ reached Q) (List.mem_of_getElem? hz) (by rw [idxOf_get hnd hz]; rfl) (by
    intro s d hs hd0 hd1
    obtain ⟨k, rfl⟩ := Int.eq_ofNat_of_zero_le (hb s hs).1
    obtain ⟨e, rfl⟩ := Int.eq_ofNat_of_zero_le hd0
    have hk : k < Q.length := by have := (hb _ hs).2; omega
    have he : e < n := by omega
    have hr : rowOf Q (k : Int) = Q.getD k [] := rfl
    have hl : e < (rowOf Q (k : Int)).length := by
      rw [A.width _ (rowOf_mem (by omega) (by omega))]
      exact he
    have h3 : nextS Q (k : Int) (e : Int) = (rowOf Q (k : Int))[e] := by
      show (rowOf Q (k : Int)).getD e 0 = _
      rw [List.getD_eq_getElem?_getD, List.getElem?_eq_getElem hl]
      rfl
    rw [h3]
    refine ⟨reached_next A.closed hs (List.getElem_mem hl), ?_⟩
    have hg := get_idxOf hs
    have h4 : nextS (searchR Q) (ix (reached Q) (k : Int) : Int) (e : Int) = ((searchR Q).getD (ix (reached Q) (k : Int)) []).getD e 0 := rfl
    rw [h4, searchR, List.getD_eq_getElem?_getD (l := List.map _ _), List.getElem?_map, hg, Option.map_some, Option.getD_some, minRow, List.getD_eq_getElem?_getD, List.getElem?_map, List.getElem?_eq_getElem hl]
    rfl) ds hd
  rw [← h.2, searchO, Int.toNat_natCast, List.getD_eq_getElem?_getD, List.getElem?_map, get_idxOf h.1, Option.map_some, Option.getD_some]
/-- The minimal automaton has the terms of the automaton. -/
theorem min_out {rows : List (List Int)} {out : List Int} {n : Nat} (A : Auto rows out n) (ds : List Int) (hd : ∀ d ∈ ds, 0 ≤ d ∧ d < (n : Int)) :
    (minO rows out).getD (afterS (minR rows out) ds).toNat 0 = out.getD (afterS rows ds).toNat 0 := by
  rw [minO, minR, search_out (rowsQ_auto A) ds hd, (quot_out A ds hd).2]
end Mins
end Go.Proofs.Ytdgfecjakmdheaa
/- The steady form has the terms of the sequence, and so has the minimal form. No conditions beyond those that each fact states. -/
namespace Go.Proofs.Ytdgfecjakmdheaa
open Go.ChangeShapes Go.WideShapes Go.ChangeAt Go.RowKit
open Go.PlainAid Plain
set_option linter.unusedVariables false
namespace Mins
open Seqs Digits
theorem lows_last (b : Nat) (hb : 2 ≤ b) : ∀ (f n : Nat), 0 < n → n < b ^ f → ∃ (l : List Int) (d : Int), lows b f n = l ++ [d] ∧ d ≠ 0 := by
  intro f
  induction f with
  | zero => intro n h0 h1; simp at h1; omega
  | succ f ih =>
    intro n h0 h1
    rw [lows_succ b f n h0]
    by_cases hz : n / b = 0
    · rw [hz, lows_zero]
      have h2 : n < b := by
        rcases Nat.lt_or_ge n b with h | h
        · exact h
        · have := Nat.div_pos h (by omega); omega
      rw [Nat.mod_eq_of_lt h2]
      exact ⟨[], (n : Int), rfl, by omega⟩
    · obtain ⟨l, d, hl, hd⟩ := ih (n / b) (Nat.pos_of_ne_zero hz) (Nat.div_lt_of_lt_mul (by rw [Nat.pow_succ, Nat.mul_comm] at h1; exact h1))
      exact ⟨((n % b : Nat) : Int) :: l, d, by rw [hl]; rfl, hd⟩
theorem digs_head (n b : Nat) (hb : 2 ≤ b) (hn : n < b ^ 16) : digs n b = [] ∨ ∃ d l, digs n b = d :: l ∧ d ≠ 0 := by
  rcases Nat.eq_zero_or_pos n with rfl | h0
  · left
    rw [digs, lows_zero]
    rfl
  · right
    obtain ⟨l, d, hl, hd⟩ := lows_last b hb 16 n h0 hn
    exact ⟨d, l.reverse, by rw [digs, hl]; simp, hd⟩
theorem digV_head (n b : Int) : digV n b = [] ∨ ∃ d l, digV n b = d :: l ∧ d ≠ 0 := by
  unfold digV
  split
  · rename_i h
    obtain ⟨h1, h2, h3, h4⟩ := h
    obtain ⟨bn, rfl⟩ := Int.eq_ofNat_of_zero_le (show 0 ≤ b by omega)
    obtain ⟨m, rfl⟩ := Int.eq_ofNat_of_zero_le h3
    rw [powV_in bn (by omega) (by omega)] at h4
    exact digs_head m bn (by omega) (Int.ofNat_lt.1 h4)
  · exact .inl rfl
theorem steady_fold {rows : List (List Int)} {out : List Int} {n : Nat} (A : Auto rows out n) : ∀ (l : List Int) (s : Int), 0 ≤ s → s < rows.length → (∀ d ∈ l, 0 ≤ d ∧ d < (n : Int)) →
    l.foldl (nextS (steadyRows rows)) (s + 1) = l.foldl (nextS rows) s + 1 ∧ 0 ≤ l.foldl (nextS rows) s := by
  intro l
  induction l with
  | nil => intro s h0 _ _; exact ⟨rfl, h0⟩
  | cons d l ih =>
    intro s h0 h1 hd
    have hdd := hd d List.mem_cons_self
    obtain ⟨k, rfl⟩ := Int.eq_ofNat_of_zero_le h0
    obtain ⟨e, rfl⟩ := Int.eq_ofNat_of_zero_le hdd.1
    have hk : k < rows.length := by omega
    have he : e < n := by have := hdd.2; omega
    have h2 := next_lt A hk he
    have h3 : nextS rows (k : Int) (e : Int) = (rows.getD k []).getD e 0 := rfl
    have hl : e < (rows.getD k []).length := by
      rw [A.width _ (by rw [List.getD_eq_getElem?_getD, List.getElem?_eq_getElem hk]; exact List.getElem_mem hk)]
      exact he
    have h4 : nextS (steadyRows rows) ((k : Int) + 1) (e : Int) = nextS rows (k : Int) (e : Int) + 1 := by
      rw [h3]
      show ((steadyRows rows).getD ((k : Int) + 1).toNat []).getD e 0 = _
      rw [show ((k : Int) + 1).toNat = k + 1 from by omega, steadyRows, List.getD_cons_succ, List.getD_eq_getElem?_getD (l := List.map _ _), List.getElem?_map, List.getElem?_eq_getElem hk, Option.map_some, Option.getD_some]
      have h5 : rows.getD k [] = rows[k] := by rw [List.getD_eq_getElem?_getD, List.getElem?_eq_getElem hk]; rfl
      rw [h5] at hl ⊢
      rw [raise, List.getD_eq_getElem?_getD, List.getElem?_map, List.getElem?_eq_getElem hl, List.getD_eq_getElem?_getD, List.getElem?_eq_getElem hl]
      rfl
    rw [List.foldl_cons, List.foldl_cons, h4]
    exact ih _ (by rw [h3]; exact h2.1) (by rw [h3]; omega) (fun x hx => hd x (List.mem_cons_of_mem _ hx))
theorem steady_out {rows : List (List Int)} {out : List Int} {n : Nat} (A : Auto rows out n) {ds : List Int} (hd : ∀ d ∈ ds, 0 ≤ d ∧ d < (n : Int)) (hh : ds = [] ∨ ∃ d l, ds = d :: l ∧ d ≠ 0) :
    (steadyOut out).getD (afterS (steadyRows rows) ds).toNat 0 = out.getD (afterS rows ds).toNat 0 := by
  rcases hh with rfl | ⟨d, l, rfl, h0⟩
  · rfl
  · have hdd := hd d List.mem_cons_self
    obtain ⟨e, rfl⟩ : ∃ e : Nat, d = (e : Int) + 1 := ⟨(d - 1).toNat, by omega⟩
    have hk : 0 < rows.length := A.closed.1
    have he : e + 1 < n := by have := hdd.2; omega
    have h2 := next_lt A hk he
    have hl : e + 1 < (rows.getD 0 []).length := by
      rw [A.width _ (by rw [List.getD_eq_getElem?_getD, List.getElem?_eq_getElem hk]; exact List.getElem_mem hk)]
      exact he
    have h3 : nextS rows 0 ((e : Int) + 1) = (rows.getD 0 []).getD (e + 1) 0 := rfl
    have h4 : nextS (steadyRows rows) 0 ((e : Int) + 1) = nextS rows 0 ((e : Int) + 1) + 1 := by
      rw [h3]
      show ((steadyRows rows).getD 0 []).getD (e + 1) 0 = _
      rw [steadyRows, List.getD_cons_zero, List.getD_cons_succ, raise, List.getD_eq_getElem?_getD, List.getElem?_map, List.getElem?_drop, Nat.add_comm 1 e, List.getElem?_eq_getElem hl, List.getD_eq_getElem?_getD (l := rows.getD 0 []), List.getElem?_eq_getElem hl]
      rfl
    have h5 := steady_fold A l (nextS rows 0 ((e : Int) + 1)) (by rw [h3]; exact h2.1) (by rw [h3]; omega) (fun x hx => hd x (List.mem_cons_of_mem _ hx))
    have h6 : afterS (steadyRows rows) (((e : Int) + 1) :: l) = afterS rows (((e : Int) + 1) :: l) + 1 := by
      show List.foldl _ _ _ = List.foldl _ _ _ + 1
      rw [List.foldl_cons, List.foldl_cons, h4]
      exact h5.1
    have h7 : 0 ≤ afterS rows (((e : Int) + 1) :: l) := h5.2
    rw [h6, show (afterS rows (((e : Int) + 1) :: l) + 1).toNat = (afterS rows (((e : Int) + 1) :: l)).toNat + 1 from by omega, steadyOut, List.getD_cons_succ]
/-- The minimal form has the terms of the sequence. -/
theorem min_term {b : Int} {rows : List (List Int)} {out : List Int} (hk : formK b rows out = true) (j : Nat) : termG b (minRV b rows out) (minOV b rows out) j = termG b rows out j := by
  have hv := form_valid hk
  have hB : formB b rows out = b := by rw [formB, if_pos hk]
  rw [hB] at hv
  have hA := hv.auto
  have hd := (dig_ok hv (j : Int)).1
  have hd' : ∀ d ∈ digV (j : Int) b, 0 ≤ d ∧ d < ((b.toNat : Nat) : Int) := fun d h => by have := hd d h; omega
  rw [minRV, if_pos hk, minOV, if_pos hk, termG, min_out hA _ hd', termG]
  rcases form_parts b rows out with ⟨_, _, _, h2, h3⟩ | ⟨h1, _⟩ | ⟨hq, _, _, _, _, h2, h3⟩
  · rw [h2, h3]
  · rw [hk] at h1; cases h1
  · rw [h2, h3]
    have hq' := (seqB_out hq).auto
    exact steady_out hq' hd' (digV_head _ _)
end Mins
end Go.Proofs.Ytdgfecjakmdheaa
/- Plain facts: the minimal form of a minimal form is itself. No conditions beyond those that each fact states. -/
namespace Go.Proofs.Ytdgfecjakmdheaa
open Plain
open Seqs
set_option linter.unusedVariables false
namespace Mins
/-- A map of states that goes along with the digits and the terms keeps apart what is apart. -/
theorem hom_cls {X Y : List (List Int)} {ox oy : List Int} {n : Nat} (A : Auto X ox n) (B : Auto Y oy n) (φ : Nat → Nat)
    (hφ : ∀ i < X.length, φ i < Y.length ∧ oy.getD (φ i) 0 = ox.getD i 0 ∧ ∀ d < n, ((Y.getD (φ i) []).getD d 0).toNat = φ ((X.getD i []).getD d 0).toNat) :
    ∀ (k : Nat) {i j : Nat}, i < X.length → j < X.length → ((clsR X ox k).getD i 0 = (clsR X ox k).getD j 0 ↔ (clsR Y oy k).getD (φ i) 0 = (clsR Y oy k).getD (φ j) 0)
  | 0, i, j, hi, hj => by
    rw [clsR_zero, clsR_zero]
    have h1 := (hφ i hi).1
    have h2 := (hφ j hj).1
    simp [List.getD_eq_getElem?_getD, hi, hj, h1, h2]
  | k + 1, i, j, hi, hj => by
    obtain ⟨hi1, hi2, hi3⟩ := hφ i hi
    obtain ⟨hj1, hj2, hj3⟩ := hφ j hj
    rw [cls_iff hi hj, cls_iff hi1 hj1, keyC_iff A hi hj, keyC_iff B hi1 hj1, hi2, hj2]
    refine and_congr_right fun _ => forall_congr' fun d => forall_congr' fun hd => ?_
    rw [hi3 d hd, hj3 d hd]
    exact hom_cls A B φ hφ k (next_lt A hi hd).2 (next_lt A hj hd).2
theorem classes_late {X : List (List Int)} {ox : List Int} {n : Nat} (A : Auto X ox n) {K : Nat} (h : X.length + 1 ≤ K) : clsR X ox K = classes X ox := stable_on (k := X.length + 1) (classes_fix A).1 K h
theorem hom_classes {X Y : List (List Int)} {ox oy : List Int} {n : Nat} (A : Auto X ox n) (B : Auto Y oy n) (φ : Nat → Nat)
    (hφ : ∀ i < X.length, φ i < Y.length ∧ oy.getD (φ i) 0 = ox.getD i 0 ∧ ∀ d < n, ((Y.getD (φ i) []).getD d 0).toNat = φ ((X.getD i []).getD d 0).toNat)
    {i j : Nat} (hi : i < X.length) (hj : j < X.length) : (classes X ox).getD i 0 = (classes X ox).getD j 0 ↔ (classes Y oy).getD (φ i) 0 = (classes Y oy).getD (φ j) 0 := by
  have h := hom_cls A B φ hφ (X.length + Y.length + 1) hi hj
  rw [classes_late A (by omega), classes_late B (by omega)] at h
  exact h
/-- No two states are in one class. -/
def Apart (X : List (List Int)) (ox : List Int) : Prop := ∀ i j, i < X.length → j < X.length → (classes X ox).getD i 0 = (classes X ox).getD j 0 → i = j
theorem row_width {X : List (List Int)} {ox : List Int} {n : Nat} (A : Auto X ox n) {i : Nat} (hi : i < X.length) : (X.getD i []).length = n := by
  rw [List.getD_eq_getElem?_getD, List.getElem?_eq_getElem hi]
  exact A.width _ (List.getElem_mem _)
theorem map_getD {f : Int → Int} {l : List Int} {d : Nat} (h : d < l.length) : (l.map f).getD d 0 = f (l.getD d 0) := by
  rw [List.getD_eq_getElem?_getD, List.getElem?_map, List.getD_eq_getElem?_getD, List.getElem?_eq_getElem h]
  rfl
theorem getD_mem {l : List Int} {d : Nat} (h : d < l.length) : l.getD d 0 ∈ l := by
  rw [List.getD_eq_getElem?_getD, List.getElem?_eq_getElem h]
  exact List.getElem_mem _
theorem cls_surj {rows : List (List Int)} {out : List Int} {n : Nat} (A : Auto rows out n) {c : Nat} (hc : c < (rowsQ rows out).length) : ∃ s < rows.length, ((classes rows out).getD s 0).toNat = c := by
  have hc' : c < (keysQ rows out).length := by simpa [rowsQ] using hc
  have hk := List.getElem?_eq_getElem hc'
  obtain ⟨s, hs, e⟩ := keysQ_mem (List.getElem_mem hc')
  refine ⟨s, hs, ?_⟩
  rw [(class_at A hs).1, Int.toNat_natCast]
  rw [e] at hk
  exact idxOf_get (dist_nodup _) hk
theorem apart_Q {rows : List (List Int)} {out : List Int} {n : Nat} (A : Auto rows out n) : Apart (rowsQ rows out) (outQ rows out) := by
  intro i j hi hj h
  obtain ⟨s, hs, rfl⟩ := cls_surj A hi
  obtain ⟨t, ht, rfl⟩ := cls_surj A hj
  have h1 := (hom_classes A (rowsQ_auto A) (fun s => ((classes rows out).getD s 0).toNat) (fun i hi => by
    have h1 := class_lt A hi
    refine ⟨by omega, (rowsQ_at A hi).2, fun d hd => ?_⟩
    have h2 := (rowsQ_at A hi).1
    show ((rowOf (rowsQ rows out) ((classes rows out).getD i 0)).getD d 0).toNat = _
    rw [h2, map_getD (by rw [row_width A hi]; exact hd)]) hs ht).2 h
  rw [h1]
theorem apart_S {Q : List (List Int)} {o : List Int} {n : Nat} (A : Auto Q o n) (hI : Apart Q o) : Apart (searchR Q) (searchO Q o) := by
  intro i j hi hj h
  have hnd : (reached Q).Nodup := (reachI_ok A.closed _).1
  have hb : ∀ s ∈ reached Q, 0 ≤ s ∧ s < Q.length := (reachI_ok A.closed _).2
  have hl : (searchR Q).length = (reached Q).length := by simp [searchR]
  have g : ∀ k, k < (reached Q).length → (reached Q)[k]? = some ((reached Q).getD k 0) := fun k hk => by
    rw [List.getD_eq_getElem?_getD, List.getElem?_eq_getElem hk]; rfl
  have gm : ∀ k, k < (reached Q).length → (reached Q).getD k 0 ∈ reached Q := fun k hk => List.mem_of_getElem? (g k hk)
  have h1 := (hom_classes (searchR_auto A) A (fun k => ((reached Q).getD k 0).toNat) (fun k hk => by
    rw [hl] at hk
    have h1 := hb _ (gm k hk)
    refine ⟨by omega, ?_, fun d hd => ?_⟩
    · rw [searchO, List.getD_eq_getElem?_getD (l := List.map _ _), List.getElem?_map, g k hk]
      rfl
    · have e : (searchR Q).getD k [] = minRow Q (reached Q) ((reached Q).getD k 0) := by
        rw [searchR, List.getD_eq_getElem?_getD (l := List.map _ _), List.getElem?_map, g k hk]
        rfl
      have hw : (rowOf Q ((reached Q).getD k 0)).length = n := A.width _ (rowOf_mem h1.1 h1.2)
      rw [e, minRow]
      have hd' : d < (rowOf Q ((reached Q).getD k 0)).length := by omega
      rw [map_getD hd', Int.toNat_natCast]
      have hm : (rowOf Q ((reached Q).getD k 0)).getD d 0 ∈ rowOf Q ((reached Q).getD k 0) := getD_mem hd'
      have h3 := get_idxOf (reached_next A.closed (gm k hk) hm)
      show ((rowOf Q ((reached Q).getD k 0)).getD d 0).toNat = ((reached Q).getD (ix (reached Q) ((rowOf Q ((reached Q).getD k 0)).getD d 0)) 0).toNat
      rw [List.getD_eq_getElem?_getD (l := reached Q) (i := ix _ _), h3]
      rfl) hi hj).1 h
  rw [hl] at hi hj
  have h2 := hb _ (gm i hi)
  have h3 := hb _ (gm j hj)
  have h4 := hI _ _ (by omega) (by omega) h1
  have h5 : (reached Q).getD i 0 = (reached Q).getD j 0 := by omega
  have h6 := idxOf_get hnd (g i hi)
  have h7 := idxOf_get hnd (g j hj)
  rw [← h6, ← h7, h5]
theorem nodup_map_on {α β : Type} {f : α → β} : ∀ {l : List α}, l.Nodup → (∀ a ∈ l, ∀ b ∈ l, f a = f b → a = b) → (l.map f).Nodup
  | [], _, _ => List.nodup_nil
  | a :: l, hn, hf => by
    rw [List.nodup_cons] at hn
    rw [List.map_cons, List.nodup_cons]
    refine ⟨fun hm => ?_, nodup_map_on hn.2 fun x hx y hy => hf x (by simp [hx]) y (by simp [hy])⟩
    obtain ⟨b, hb, e⟩ := List.mem_map.1 hm
    have := hf b (by simp [hb]) a (by simp) e
    exact hn.1 (this ▸ hb)
theorem addAll_fresh {α : Type} [DecidableEq α] : ∀ (xs l : List α), (l ++ xs).Nodup → addAll l xs = l ++ xs
  | [], l, _ => by simp [addAll_nil]
  | x :: xs, l, h => by
    have hx : x ∉ l := fun hx => by
      rw [List.nodup_append] at h
      exact h.2.2 x hx x (by simp) rfl
    rw [addAll_cons, addTo_new hx, addAll_fresh xs (l ++ [x]) (by simpa using h)]
    simp
theorem dist_fresh {α : Type} [DecidableEq α] {l : List α} (h : l.Nodup) : dist l = l := by
  rw [dist, addAll_fresh l [] (by simpa using h)]
  rfl
/-- An automaton whose states are apart is its own merged automaton. -/
theorem own_Q {X : List (List Int)} {ox : List Int} {n : Nat} (A : Auto X ox n) (hI : Apart X ox) : rowsQ X ox = X ∧ outQ X ox = ox := by
  have hnd : (keysOf X ox (classes X ox)).Nodup := nodup_map_on List.nodup_range fun i hi j hj h => by
    rw [List.mem_range] at hi hj
    have h1 := (cls_iff (k := X.length + 1) hi hj).2 h
    have h2 : clsR X ox (X.length + 1 + 1) = classes X ox := (classes_fix A).1
    rw [h2] at h1
    exact hI i j hi hj h1
  have hd := dist_fresh hnd
  have hc : ∀ i < X.length, (classes X ox).getD i 0 = (i : Int) := fun i hi => by
    have h1 : (keysOf X ox (classes X ox))[i]? = some (keyC X ox (classes X ox) i) := by simp [keysOf, hi]
    rw [(class_at A hi).1, keysQ, hd, idxOf_get hnd h1]
  constructor
  · rw [rowsQ, keysQ, hd, keysOf, List.map_map]
    apply List.ext_getElem?
    intro i
    rcases Nat.lt_or_ge i X.length with hi | hi
    · rw [List.getElem?_map, List.getElem?_range hi, List.getElem?_eq_getElem hi]
      show some (keyC X ox (classes X ox) i).tail = _
      have e : X.getD i [] = X[i] := by rw [List.getD_eq_getElem?_getD, List.getElem?_eq_getElem hi]; rfl
      rw [keyC, List.tail_cons, e]
      congr 1
      refine (List.map_congr_left fun x hx => ?_).trans (List.map_id _)
      have h1 := A.closed.2 _ (List.getElem_mem hi) x hx
      rw [hc _ (by omega)]
      show ((x.toNat : Nat) : Int) = x
      omega
    · rw [List.getElem?_eq_none (by simpa using hi), List.getElem?_eq_none hi]
  · rw [outQ, keysQ, hd, keysOf, List.map_map]
    apply List.ext_getElem?
    intro i
    rcases Nat.lt_or_ge i X.length with hi | hi
    · have hi' : i < ox.length := by rw [A.terms]; exact hi
      rw [List.getElem?_map, List.getElem?_range hi, List.getElem?_eq_getElem hi']
      show some ((keyC X ox (classes X ox) i).headD 0) = _
      rw [keyC, List.getD_eq_getElem?_getD, List.getElem?_eq_getElem hi']
      rfl
    · rw [List.getElem?_eq_none (by simpa using hi), List.getElem?_eq_none (by rw [A.terms]; exact hi)]
/-- What a search among found states finds. -/
theorem reach_S {Q : List (List Int)} {o : List Int} {n : Nat} (A : Auto Q o n) : ∀ i, reachI (searchR Q) i = (reachI Q i).map fun x => (ix (reached Q) x : Int)
  | 0 => by
    have hnd : (reached Q).Nodup := (reachI_ok A.closed _).1
    have h := idxOf_get hnd (reached_zero Q)
    simp only [reachI, List.map_cons, List.map_nil]
    rw [h]
    rfl
  | i + 1 => by
    have ih := reach_S A i
    cases hs : (reachI Q i)[i]? with
    | none =>
      have h1 : (reachI (searchR Q) i)[i]? = none := by rw [ih, List.getElem?_map, hs]; rfl
      rw [reachI, h1, reachI, hs]
      exact ih
    | some s =>
      have hnd : (reached Q).Nodup := (reachI_ok A.closed _).1
      have hL : (reached Q)[i]? = some s := by
        obtain ⟨t, ht⟩ := reachI_sub A.closed i
        rw [← ht, List.getElem?_append_left (List.getElem?_eq_some_iff.1 hs).1]
        exact hs
      have h1 : (reachI (searchR Q) i)[i]? = some (i : Int) := by
        rw [ih, List.getElem?_map, hs, Option.map_some, idxOf_get hnd hL]
      have h2 : rowOf (searchR Q) (i : Int) = (rowOf Q s).map fun x => (ix (reached Q) x : Int) := by
        rw [rowOf, searchR, Int.toNat_natCast, List.getD_eq_getElem?_getD, List.getElem?_map, hL]
        rfl
      rw [reachI_step h1, reachI_step hs, ih, h2]
      refine addAll_map (fun x => (ix (reached Q) x : Int)) (reached Q) (fun a ha b hb e => idxOf_inj ha hb (by have e' : (ix (reached Q) a : Int) = ix (reached Q) b := e; omega)) _ _ (fun x hx => ?_) (fun x hx => reached_next A.closed (List.mem_of_getElem? hL) hx)
      obtain ⟨t, ht⟩ := reachI_sub A.closed i
      rw [← ht]
      exact List.mem_append_left _ hx
theorem reached_S {Q : List (List Int)} {o : List Int} {n : Nat} (A : Auto Q o n) : reached (searchR Q) = (List.range (searchR Q).length).map fun i : Nat => (i : Int) := by
  have hl : (searchR Q).length = (reached Q).length := by simp [searchR]
  have hnd : (reached Q).Nodup := (reachI_ok A.closed _).1
  show reachI (searchR Q) (searchR Q).length = _
  rw [hl, reach_S A, reachI_end A.closed (reachI_sub A.closed _).length_le]
  apply List.ext_getElem?
  intro i
  rcases Nat.lt_or_ge i (reached Q).length with hi | hi
  · have h := List.getElem?_eq_getElem hi
    rw [List.getElem?_map, List.getElem?_map, h, List.getElem?_range hi, Option.map_some, idxOf_get hnd h]
    rfl
  · rw [List.getElem?_eq_none (by simpa using hi), List.getElem?_eq_none (by simpa using hi)]
/-- An automaton whose states are found in their order is what a search makes of it. -/
theorem own_S {X : List (List Int)} {ox : List Int} {n : Nat} (A : Auto X ox n) (hr : reached X = (List.range X.length).map fun i : Nat => (i : Int)) : searchR X = X ∧ searchO X ox = ox := by
  have hnd : (reached X).Nodup := (reachI_ok A.closed _).1
  have hg : ∀ i < X.length, (reached X)[i]? = some (i : Int) := fun i hi => by
    rw [hr, List.getElem?_map, List.getElem?_range hi]; rfl
  have hl : (reached X).length = X.length := by rw [hr]; simp
  constructor
  · apply List.ext_getElem?
    intro i
    rw [searchR, List.getElem?_map]
    rcases Nat.lt_or_ge i X.length with hi | hi
    · rw [hg i hi, List.getElem?_eq_getElem hi]
      have e : rowOf X (i : Int) = X[i] := by rw [rowOf, Int.toNat_natCast, List.getD_eq_getElem?_getD, List.getElem?_eq_getElem hi]; rfl
      rw [Option.map_some, minRow, e]
      congr 1
      refine (List.map_congr_left fun x hx => ?_).trans (List.map_id _)
      have h1 := A.closed.2 _ (List.getElem_mem hi) x hx
      have h2 := hg x.toNat (by omega)
      rw [Int.toNat_of_nonneg h1.1] at h2
      rw [idxOf_get hnd h2]
      show ((x.toNat : Nat) : Int) = x
      omega
    · rw [List.getElem?_eq_none (by rw [hl]; exact hi), List.getElem?_eq_none hi]
      rfl
  · apply List.ext_getElem?
    intro i
    rw [searchO, List.getElem?_map]
    rcases Nat.lt_or_ge i X.length with hi | hi
    · have hi' : i < ox.length := by rw [A.terms]; exact hi
      rw [hg i hi, List.getElem?_eq_getElem hi', Option.map_some, Int.toNat_natCast, List.getD_eq_getElem?_getD, List.getElem?_eq_getElem hi']
      rfl
    · rw [List.getElem?_eq_none (by rw [hl]; exact hi), List.getElem?_eq_none (by rw [A.terms]; exact hi)]
      rfl
theorem min_own {rows : List (List Int)} {out : List Int} {n : Nat} (A : Auto rows out n) : minR (minR rows out) (minO rows out) = minR rows out ∧ minO (minR rows out) (minO rows out) = minO rows out := by
  have B := rowsQ_auto A
  have C := searchR_auto B
  obtain ⟨h1, h2⟩ := own_Q C (apart_S B (apart_Q A))
  obtain ⟨h3, h4⟩ := own_S C (reached_S B)
  unfold minR minO
  rw [h1, h2]
  exact ⟨h3, h4⟩
theorem form_steady {b : Int} {rows : List (List Int)} {out : List Int} (hk : formK b rows out = true) : nextS (formR b rows out) 0 0 = 0 := by
  rcases form_parts b rows out with ⟨h1, _, _, h2, h3⟩ | ⟨h1, _⟩ | ⟨hq, _, _, _, _, h2, h3⟩
  · rw [h2]
    simp only [steadyB, Bool.and_eq_true, decide_eq_true_eq] at h1
    exact h1.2
  · rw [hk] at h1; cases h1
  · rw [h2]; rfl
theorem min_steady {rows : List (List Int)} {out : List Int} {n : Nat} (A : Auto rows out n) (hn : 0 < n) (h : nextS rows 0 0 = 0) : nextS (minR rows out) 0 0 = 0 := by
  have hz := reached_zero (rowsQ rows out)
  have B := rowsQ_auto A
  have h0 : 0 < rows.length := A.closed.1
  have hq : (rowOf (rowsQ rows out) 0).getD 0 0 = 0 := by
    have h1 := (rowsQ_at A h0).1
    rw [class_zero A] at h1
    rw [h1, map_getD (by rw [row_width A h0]; exact hn)]
    have h2 : (rows.getD 0 []).getD 0 0 = 0 := h
    rw [h2]
    exact class_zero A
  show ((searchR (rowsQ rows out)).getD 0 []).getD 0 0 = 0
  have e : (searchR (rowsQ rows out)).getD 0 [] = minRow (rowsQ rows out) (reached (rowsQ rows out)) 0 := by
    rw [searchR, List.getD_eq_getElem?_getD (l := List.map _ _), List.getElem?_map, hz]
    rfl
  have hw : (rowOf (rowsQ rows out) 0).length = n := B.width _ (rowOf_mem (by omega) (by have := B.closed.1; omega))
  have hnd : (reached (rowsQ rows out)).Nodup := (reachI_ok B.closed _).1
  rw [e, minRow, map_getD (by omega), hq, idxOf_get hnd hz]
  rfl
/-- The minimal form has a steady form: itself; its minimal form is itself. -/
theorem min_min {b : Int} {rows : List (List Int)} {out : List Int} (hk : formK b rows out = true) :
    formK b (minRV b rows out) (minOV b rows out) = true ∧ minRV b (minRV b rows out) (minOV b rows out) = minRV b rows out ∧ minOV b (minRV b rows out) (minOV b rows out) = minOV b rows out ∧ isMinB b (minRV b rows out) (minOV b rows out) = true := by
  have hv := form_valid hk
  have hm := min_valid hk
  have hB : formB b rows out = b := by rw [formB, if_pos hk]
  rw [hB] at hv hm
  have hA := hv.auto
  have hs : steadyB b (minRV b rows out) (minOV b rows out) = true := by
    rw [steadyB, seqB_yes hm, Bool.true_and, decide_eq_true_eq, minRV, if_pos hk]
    exact min_steady hA (by have := hv.1; omega) (form_steady hk)
  have hk' : formK b (minRV b rows out) (minOV b rows out) = true := by rw [formK, hs]; rfl
  have h1 : formR b (minRV b rows out) (minOV b rows out) = minRV b rows out := by rw [formR, if_pos hs]
  have h2 : formO b (minRV b rows out) (minOV b rows out) = minOV b rows out := by rw [formO, if_pos hs]
  have h3 : minRV b (minRV b rows out) (minOV b rows out) = minRV b rows out := by
    rw [minRV, if_pos hk', h1, h2]
    rw [show minRV b rows out = minR (formR b rows out) (formO b rows out) from by rw [minRV, if_pos hk], show minOV b rows out = minO (formR b rows out) (formO b rows out) from by rw [minOV, if_pos hk]]
    exact (min_own hA).1
  have h4 : minOV b (minRV b rows out) (minOV b rows out) = minOV b rows out := by
    rw [minOV, if_pos hk', h1, h2]
    rw [show minRV b rows out = minR (formR b rows out) (formO b rows out) from by rw [minRV, if_pos hk], show minOV b rows out = minO (formR b rows out) (formO b rows out) from by rw [minOV, if_pos hk]]
    exact (min_own hA).2
  refine ⟨hk', h3, h4, ?_⟩
  rw [isMinB, hk', h3]
  simp
end Mins
end Go.Proofs.Ytdgfecjakmdheaa
/- Plain facts on the search for a kernel: what it has found after so many steps, that no step of it fails, where it ends. No conditions beyond those that each fact states. -/
namespace Go.Proofs.Ytdgfecjakmdheaa
open Plain
set_option linter.unusedVariables false
namespace Kern
open Seqs Mins
/-- A sequence: its base, its next states, its terms. -/
structure Sq where
  b : Int
  r : List (List Int)
  o : List Int
def Sq.same (f g : Sq) : Bool := sameB f.b g.b f.r g.r f.o g.o
theorem Sq.same_iff {f g : Sq} : f.same g = true ↔ f = g := by
  obtain ⟨b, r, o⟩ := f
  obtain ⟨b', r', o'⟩ := g
  simp [Sq.same, sameB, and_assoc]
def sub (q : Sq) (r : Int) : Sq := ⟨subB q.b q.r q.o r, subR q.b q.r q.o r, subO q.b q.r q.o r⟩
def mini (b : Int) (rows : List (List Int)) (out : List Int) : Sq := ⟨formB b rows out, minRV b rows out, minOV b rows out⟩
/-- Steady and small. -/
structure Good (b : Int) (q : Sq) : Prop where
  base : q.b = b
  steady : steadyB q.b q.r q.o = true
theorem Good.seq {b : Int} {q : Sq} (h : Good b q) : IsSeq q.b q.r q.o := by
  have := h.steady
  rw [steadyB, Bool.and_eq_true] at this
  exact seqB_out this.1
theorem min_steadyB {b : Int} {rows : List (List Int)} {out : List Int} (hk : formK b rows out = true) : steadyB (formB b rows out) (minRV b rows out) (minOV b rows out) = true := by
  have hv := form_valid hk
  have hm := min_valid hk
  rw [steadyB, seqB_yes hm, Bool.true_and, decide_eq_true_eq, minRV, if_pos hk]
  exact min_steady hv.auto (by have := hv.1; omega) (form_steady hk)
theorem mini_good {b : Int} {rows : List (List Int)} {out : List Int} (hk : formK b rows out = true) : Good b (mini b rows out) := ⟨by show formB b rows out = b; rw [formB, if_pos hk], min_steadyB hk⟩
theorem tot_four {rows : List (List Int)} (h : ∀ r ∈ rows, r.length ≤ 4) : tot rows ≤ rows.length * 4 := by
  induction rows with
  | nil => simp [tot]
  | cons r rows ih =>
    have h1 := ih fun x hx => h x (by simp [hx])
    have h2 := h r (by simp)
    have : tot (r :: rows) = r.length + tot rows := by simp [tot]
    rw [this, List.length_cons, Nat.add_mul]
    omega
theorem Good.size {b : Int} {q : Sq} (h : Good b q) : q.r.length + tot q.r + q.o.length ≤ 1048576 := by
  have h1 := h.seq
  have h2 := tot_four (rows := q.r) fun r hr => by have := (h1.2.2.2.2.2.1 r hr).1; have := h1.2.1; omega
  have h3 := h1.2.2.2.1
  have h4 := h1.2.2.2.2.1
  omega
theorem subE_valid {b : Int} {rows : List (List Int)} {out : List Int} (h : steadyB b rows out = true) (r : Int) (h0 : 0 ≤ r) (h1 : r < b) : steadyB b rows (subE b rows out r) = true := by
  have hk : formK b rows out = true := by rw [formK, h]; rfl
  have hR : formR b rows out = rows := by rw [formR, if_pos h]
  have hO : formO b rows out = out := by rw [formO, if_pos h]
  rw [steadyB, Bool.and_eq_true, decide_eq_true_eq] at h
  have hv := seqB_out h.1
  have hl : (subT rows out r).length = out.length := by
    have := hv.2.2.2.2.1
    simp only [subT, subP_len]
    omega
  have hx : ∀ x ∈ subT rows out r, 0 ≤ x ∧ x ≤ 3 := fun x hx => by
    simp only [subT, subP, List.mem_map, List.mem_range] at hx
    obtain ⟨i, hi, rfl⟩ := hx
    have h2 := hv.next (s := (i : Int)) (d := r) (by omega) (by omega) h0 h1
    have h3 := hv.2.2.2.2.1
    refine hv.2.2.2.2.2.2 _ ?_
    unfold subX
    rw [List.getD_eq_getElem?_getD, List.getElem?_eq_getElem (by omega), Option.getD_some]
    exact List.getElem_mem _
  rw [steadyB, Bool.and_eq_true, decide_eq_true_eq]
  refine ⟨seqB_yes ?_, h.2⟩
  rw [subE, hR, hO]
  exact ⟨hv.1, hv.2.1, hv.2.2.1, hv.2.2.2.1, by rw [hl]; exact hv.2.2.2.2.1, hv.2.2.2.2.2.1, hx⟩
theorem Good.sub {b : Int} {q : Sq} (h : Good b q) {r : Int} (h0 : 0 ≤ r) (h1 : r < b) : Good b (sub q r) ∧ subK q.b q.r q.o r = true := by
  have hs := h.steady
  have hk : formK q.b q.r q.o = true := by rw [formK, hs]; rfl
  have hB : formB q.b q.r q.o = q.b := by rw [formB, if_pos hk]
  have hR : formR q.b q.r q.o = q.r := by rw [formR, if_pos hs]
  have hok : subOK q.b q.r q.o r = true := by rw [subOK, hk, Bool.true_and]; exact decide_eq_true ⟨h0, by rw [h.base]; exact h1⟩
  have hE := subE_valid hs r h0 (by rw [h.base]; exact h1)
  have hkE : formK (formB q.b q.r q.o) (formR q.b q.r q.o) (subE q.b q.r q.o r) = true := by rw [hB, hR, formK, hE]; rfl
  obtain ⟨e1, e2, e3, e4⟩ := sub_yes hok
  refine ⟨⟨?_, ?_⟩, by rw [e4, hkE]⟩
  · show subB q.b q.r q.o r = b
    rw [e1, formB, if_pos hkE, hB]
    exact h.base
  · show steadyB (subB q.b q.r q.o r) (subR q.b q.r q.o r) (subO q.b q.r q.o r) = true
    rw [e1, e2, e3]
    exact min_steadyB hkE
/-- One step: what is new is put behind. -/
def addQ (F : List Sq) (y : Sq) : List Sq := if F.any (·.same y) then F else F ++ [y]
/-- Where it stands then; behind all where it is new. -/
def atQ (F : List Sq) (y : Sq) : Nat := (F.findIdx? (·.same y)).getD F.length
/-- What has been found after so many steps. -/
def kF (m : Sq) (b : Nat) : Nat → List Sq
  | 0 => [m]
  | n + 1 => match (kF m b n)[n / b]? with
    | some f => addQ (kF m b n) (sub f ((n % b : Nat) : Int))
    | none => kF m b n
theorem addQ_len (F : List Sq) (y : Sq) : F.length ≤ (addQ F y).length ∧ (addQ F y).length ≤ F.length + 1 := by
  unfold addQ
  split <;> simp
theorem addQ_old {F : List Sq} {y : Sq} (h : atQ F y < F.length) : addQ F y = F ∧ ∃ f, F[atQ F y]? = some f ∧ f = y := by
  unfold atQ at h ⊢
  cases hf : F.findIdx? (·.same y) with
  | none => rw [hf] at h; simp at h
  | some i =>
    obtain ⟨h1, h2, _⟩ := List.findIdx?_eq_some_iff_getElem.1 hf
    have hany : F.any (·.same y) = true := List.any_eq_true.2 ⟨F[i], List.getElem_mem _, h2⟩
    exact ⟨by rw [addQ, if_pos hany], F[i], List.getElem?_eq_getElem h1, Sq.same_iff.1 h2⟩
theorem addQ_new {F : List Sq} {y : Sq} (h : ¬ atQ F y < F.length) : addQ F y = F ++ [y] ∧ atQ F y = F.length := by
  unfold atQ at h ⊢
  cases hf : F.findIdx? (·.same y) with
  | some i =>
    obtain ⟨h1, _⟩ := List.findIdx?_eq_some_iff_getElem.1 hf
    rw [hf] at h
    exact absurd h1 h
  | none =>
    have hany : ¬ F.any (·.same y) = true := fun h => by
      obtain ⟨f, h1, h2⟩ := List.any_eq_true.1 h
      rw [List.findIdx?_eq_none_iff] at hf
      have := hf f h1
      rw [h2] at this; cases this
    exact ⟨by rw [addQ, if_neg hany], rfl⟩
theorem atQ_le (F : List Sq) (y : Sq) : atQ F y ≤ F.length := by
  by_cases h : atQ F y < F.length
  · omega
  · rw [(addQ_new h).2]; exact Nat.le_refl _
theorem kF_step {m : Sq} {b n : Nat} {f : Sq} (h : (kF m b n)[n / b]? = some f) : kF m b (n + 1) = addQ (kF m b n) (sub f ((n % b : Nat) : Int)) := by
  show (match (kF m b n)[n / b]? with | some f => addQ (kF m b n) (sub f ((n % b : Nat) : Int)) | none => kF m b n) = _
  rw [h]
theorem kF_stay {m : Sq} {b n : Nat} (h : (kF m b n).length ≤ n / b) : kF m b (n + 1) = kF m b n := by
  show (match (kF m b n)[n / b]? with | some f => addQ (kF m b n) (sub f ((n % b : Nat) : Int)) | none => kF m b n) = _
  rw [List.getElem?_eq_none h]
theorem kF_mono (m : Sq) (b n : Nat) : ∃ T, kF m b (n + 1) = kF m b n ++ T ∧ T.length ≤ 1 := by
  cases h : (kF m b n)[n / b]? with
  | none => exact ⟨[], by rw [kF_stay (List.getElem?_eq_none_iff.1 h), List.append_nil], by simp⟩
  | some f =>
    rw [kF_step h, addQ]
    split
    · exact ⟨[], by simp, by simp⟩
    · exact ⟨_, rfl, by simp⟩
theorem kF_grow (m : Sq) (b n : Nat) : ∀ j, ∃ T, kF m b (n + j) = kF m b n ++ T
  | 0 => ⟨[], by simp⟩
  | j + 1 => by
    obtain ⟨T, h⟩ := kF_grow m b n j
    obtain ⟨T', h', _⟩ := kF_mono m b (n + j)
    exact ⟨T ++ T', by rw [← Nat.add_assoc, h', h, List.append_assoc]⟩
theorem kF_pre {m : Sq} {b n k : Nat} (h : n ≤ k) : ∃ T, kF m b k = kF m b n ++ T := by
  have := kF_grow m b n (k - n)
  rwa [show n + (k - n) = k from by omega] at this
theorem kF_get {m : Sq} {b n k i : Nat} {f : Sq} (h : n ≤ k) (hf : (kF m b n)[i]? = some f) : (kF m b k)[i]? = some f := by
  obtain ⟨T, hT⟩ := kF_pre (m := m) (b := b) h
  rw [hT, List.getElem?_append_left (List.getElem?_eq_some_iff.1 hf).1]
  exact hf
theorem kF_len {m : Sq} {b n k : Nat} (h : n ≤ k) : (kF m b n).length ≤ (kF m b k).length := by
  obtain ⟨T, hT⟩ := kF_pre (m := m) (b := b) h
  rw [hT, List.length_append]
  omega
theorem kF_end {m : Sq} {b n : Nat} (hb : 0 < b) (h : n = b * (kF m b n).length) : ∀ j, kF m b (n + j) = kF m b n
  | 0 => rfl
  | j + 1 => by
    have ih := kF_end hb h j
    rw [← Nat.add_assoc, kF_stay, ih]
    rw [ih, Nat.le_div_iff_mul_le hb, Nat.mul_comm]
    omega
theorem kF_good {m : Sq} {b : Nat} (hb : 0 < b) (hm : Good b m) : ∀ n, ∀ f ∈ kF m b n, Good b f
  | 0, f, h => by rw [List.mem_singleton.1 h]; exact hm
  | n + 1, f, h => by
    have ih := kF_good hb hm n
    cases hg : (kF m b n)[n / b]? with
    | none => rw [kF_stay (List.getElem?_eq_none_iff.1 hg)] at h; exact ih f h
    | some g =>
      rw [kF_step hg, addQ] at h
      split at h
      · exact ih f h
      · rcases List.mem_append.1 h with h | h
        · exact ih f h
        · rw [List.mem_singleton.1 h]
          have := Nat.mod_lt n hb
          exact ((ih g (List.mem_of_getElem? hg)).sub (by omega) (by omega)).1
/-- The kernel, and whether there is one. -/
def kerL (m : Sq) (b : Nat) : List Sq := kF m b (41 * b)
def kerK (b : Int) (rows : List (List Int)) (out : List Int) : Bool := formK b rows out && decide ((kerL (mini b rows out) b.toNat).length ≤ 40)
def kerV (b : Int) (rows : List (List Int)) (out : List Int) : List Sq := if kerK b rows out = true then kerL (mini b rows out) b.toNat else []
theorem ker_done {m : Sq} {b n : Nat} (hb : 0 < b) (h : n = b * (kF m b n).length) (h40 : (kF m b n).length ≤ 40) : kerL m b = kF m b n := by
  have hn : n ≤ 41 * b := by
    have : b * (kF m b n).length ≤ b * 40 := Nat.mul_le_mul_left _ h40
    rw [Nat.mul_comm 41 b]
    omega
  have := kF_end hb h (41 * b - n)
  rwa [show n + (41 * b - n) = 41 * b from by omega] at this
theorem ker_over {m : Sq} {b n : Nat} (h : 40 < (kF m b n).length) (hn : n ≤ 40 * b) : 40 < (kerL m b).length := by
  have := kF_len (m := m) (b := b) (show n ≤ 41 * b by omega)
  exact Nat.lt_of_lt_of_le h this
end Kern
end Go.Proofs.Ytdgfecjakmdheaa
/- Slices of sequences (three cells an element): what it is that the call owns one, what its elements are; what stays of slices of ints and of rows where other blocks turn. No conditions beyond those that each states. -/
namespace Go.Proofs.Ytdgfecjakmdheaa
open Go.ChangeShapes Go.WideShapes Go.ChangeAt Go.RowKit
open Go.PlainAid Plain
set_option linter.unusedVariables false
namespace Kern
open Seqs Mins
/-- A sequence's value: its base, its two slices. -/
abbrev QV := Int × Value × Value
def encQ (q : QV) : Value := .agg #[.int .i64 q.1, q.2.1, q.2.2]
def flatQ (L : List QV) : List Value := L.flatMap fun q => [.int .i64 q.1, q.2.1, q.2.2]
theorem flatQ_len : ∀ L : List QV, (flatQ L).length = L.length * 3
  | [] => rfl
  | q :: L => by
    have := flatQ_len L
    have e : flatQ (q :: L) = .int .i64 q.1 :: q.2.1 :: q.2.2 :: flatQ L := rfl
    rw [e, List.length_cons, List.length_cons, List.length_cons, List.length_cons, this]
    omega
theorem flatQ_append (L M : List QV) : flatQ (L ++ M) = flatQ L ++ flatQ M := by simp [flatQ]
theorem flatQ_one (q : QV) : flatQ [q] = [.int .i64 q.1, q.2.1, q.2.2] := rfl
theorem flatQ_get : ∀ (L : List QV) (i : Nat) (q : QV), L[i]? = some q → (flatQ L)[i * 3]? = some (.int .i64 q.1) ∧ (flatQ L)[i * 3 + 1]? = some q.2.1 ∧ (flatQ L)[i * 3 + 2]? = some q.2.2
  | [], i, q, h => by simp at h
  | t :: L, 0, q, h => by
    simp at h
    subst h
    exact ⟨rfl, rfl, rfl⟩
  | t :: L, i + 1, q, h => by
    have h1 := flatQ_get L i q (by simpa using h)
    have e : flatQ (t :: L) = .int .i64 t.1 :: t.2.1 :: t.2.2 :: flatQ L := rfl
    rw [e, show (i + 1) * 3 = i * 3 + 1 + 1 + 1 from by omega, show i * 3 + 1 + 1 + 1 + 1 = (i * 3 + 1) + 1 + 1 + 1 from by omega, show i * 3 + 1 + 1 + 1 + 2 = (i * 3 + 2) + 1 + 1 + 1 from by omega]
    simpa using h1
/-- The slice v of sequences is the call's own, from block base on. -/
def OwnQ (w : World) (base : Nat) (v : Value) (L : List QV) : Prop := w.ownsRow base 27 3 v L.length (flatQ L)
section
variable {w w' : World} {base : Nat} {v : Value} {L : List QV}
theorem OwnQ.form (h : OwnQ w base v L) : ∃ a c, v = .slice a L.length c ∧ (0 < L.length → ∃ g, a = some ⟨g, 0, none⟩ ∧ base ≤ g ∧ g < w.heap.size ∧ ∃ cur, w.heap[g]? = some (.cells cur 27 (0, 0))) := by
  rcases h.2 with ⟨rfl, h1⟩ | ⟨g, c, cur, rfl, hb, hc, _⟩
  · exact ⟨none, 0, by rw [h1], fun h => by omega⟩
  · exact ⟨_, c, rfl, fun _ => ⟨g, rfl, hb, (Array.getElem?_eq_some_iff.1 hc).1, cur, hc⟩⟩
theorem OwnQ.small (h : OwnQ w base v L) : L.length ≤ 9223372036854775807 := by
  rcases h.2 with ⟨rfl, hn⟩ | ⟨g, cap, cur, rfl, _, _, hc, hm, _⟩
  · omega
  · unfold maxLen at hm; omega
theorem OwnQ.cells {g c : Nat} (h : OwnQ w base (.slice (some ⟨g, 0, none⟩) L.length c) L) {i : Nat} {q : QV} (hi : L[i]? = some q) :
    w.cell? ⟨g, i * 3, none⟩ = some (.int .i64 q.1) ∧ w.cell? ⟨g, i * 3 + 1, none⟩ = some q.2.1 ∧ w.cell? ⟨g, i * 3 + 2, none⟩ = some q.2.2 := by
  have hg := flatQ_get L i q hi
  have hl := (List.getElem?_eq_some_iff.1 hi).1
  have h1 : w.ownsRow base 27 3 (.slice (some ⟨g, 0, none⟩) L.length c) L.length (flatQ L) := h
  exact ⟨(h1.cellAt _ (by omega)).trans hg.1, (h1.cellAt _ (by omega)).trans hg.2.1, (h1.cellAt _ (by omega)).trans hg.2.2⟩
theorem OwnQ.kept {r : Option Nat} (h : OwnQ w base v L) (hg : w.grownBy w' r) (hn : v.ownBlock = none ∨ v.ownBlock ≠ r) : OwnQ w' base v L := World.ownsRow.kept h hg hn
theorem OwnQ.below (h : OwnQ w base v L) (hb : Below w.heap.size w w') : OwnQ w' base v L :=
  h.kept (Plain.grown_of_below hb) (by
    cases hv : v.ownBlock with
    | none => exact .inl rfl
    | some k => exact .inr (by simp))
theorem OwnQ.mono {base' : Nat} (h : OwnQ w base v L) (hb : base' ≤ base) : OwnQ w base' v L := ⟨h.1, h.2.imp id fun ⟨g, cap, cur, h1, h2, r⟩ => ⟨g, cap, cur, h1, Nat.le_trans hb h2, r⟩⟩
theorem OwnQ.lt (h : OwnQ w base v L) : ∀ k, v.ownBlock = some k → base ≤ k ∧ k < w.heap.size := World.ownsRow.lt h
theorem OwnQ.nil (w : World) (base : Nat) : OwnQ w base (.slice none 0 0) [] := World.ownsRow_nil _ _ _ _
/-- It lies in no block of another type. -/
theorem OwnQ.ne {g : Nat} {cur : Array Value} {e : TypeId} {fr : Nat × Nat} (h : OwnQ w base v L) (hg : w.heap[g]? = some (.cells cur e fr)) (hne : (27 : Nat) ≠ e) : v.ownBlock = none ∨ v.ownBlock ≠ some g := by
  rcases h.2 with ⟨rfl, _⟩ | ⟨g', cap, cur', rfl, _, hc, _⟩
  · exact .inl rfl
  · refine .inr fun e1 => ?_
    have e2 : g' = g := by simpa [Value.ownBlock] using e1
    subst e2
    rw [hc] at hg
    simp at hg
    exact hne hg.2.1
theorem OwnQ.lit (w : World) (q : QV) (hb : base ≤ w.heap.size) : OwnQ (w.alloc (.cells #[.int .i64 q.1, q.2.1, q.2.2] 27)) base (.slice (some ⟨w.heap.size, 0, none⟩) 1 1) [q] :=
  ⟨rfl, .inr ⟨w.heap.size, 1, #[.int .i64 q.1, q.2.1, q.2.2], rfl, hb, heap_alloc_new w _, Nat.le_refl _, by unfold maxLen; omega, rfl, rfl⟩⟩
theorem OwnQ.lit0 (w : World) (hb : base ≤ w.heap.size) : OwnQ (w.alloc (.cells #[] 27)) base (.slice (some ⟨w.heap.size, 0, none⟩) 0 0) [] :=
  ⟨rfl, .inr ⟨w.heap.size, 0, #[], rfl, hb, heap_alloc_new w _, Nat.le_refl _, by unfold maxLen; omega, rfl, rfl⟩⟩
end
theorem infoS : (Try.prog.info? 27).map (fun i => (i.zero, i.size, i.bytes)) = some (some (.agg #[.int .i64 0, .slice none 0 0, .slice none 0 0]), 3, 56) := by kernel_rfl
/-- 'v = append(v, q)', the new value lying in a block that the statement has just laid. -/
theorem wpList_append_q {P : Program} {wr : World} {base : Nat} {L : List QV} {ops : Array Oper} {rest : List Oper} {o : Oper} {a : Act} {Q : Exit → Act → World → Prop} (hgd : o.guard = none) (s x : Operand) (t : TypeId)
    (ho : o.op = .call { callee := .builtin .append, args := #[s, x], argTypes := #[t, t] })
    (i : TypeInfo) (ht : P.underlying t = some (.slice 27)) (hi : P.info? 27 = some i) (hz : i.zero = some (.agg #[.int .i64 0, .slice none 0 0, .slice none 0 0]))
    (hsize : i.size = 3) (hby : i.bytes = 56) (v : Value) (hs : a.eval s = v) (hown : OwnQ wr base v L) (q : QV) (g : Nat) (hx : a.eval x = .slice (some ⟨g, 0, none⟩) 1 1) (hgs : g = wr.heap.size)
    (h1 : q.2.1.oneCell' = true) (h2 : q.2.2.oneCell' = true) (hlen : L.length ≤ 100000) (hb : base ≤ wr.heap.size)
    (h : ∀ v' w', OwnQ w' base v' (L ++ [q]) → wr.grownBy w' v.ownBlock → wpList P ops Q rest (a.put o.dst v') w') :
    wpList P ops Q (o :: rest) a (wr.alloc (.cells #[.int .i64 q.1, q.2.1, q.2.2] 27)) := by
  subst hgs
  have hal : Below wr.heap.size wr (wr.alloc (.cells #[.int .i64 q.1, q.2.1, q.2.2] 27)) := (Below.refl _ _).alloc (Nat.le_refl _) _
  refine wpList_append_own _ hgd s x t ho base 27 i _ 3 56 ht hi hz hsize hby rfl (by decide) v L.length (flatQ L) hs (hown.below hal) ⟨wr.heap.size, 0, none⟩ 1 1 (flatQ [q]) hx rfl (fun j u hj => ?_) (fun u hu => ?_) (by unfold maxLen; omega) (by omega) (by simp; omega) ?_
  · rw [addr_add]
    have hcell : ∀ j u, [Value.int .i64 q.1, q.2.1, q.2.2][j]? = some u → (wr.alloc (.cells #[.int .i64 q.1, q.2.1, q.2.2] 27)).cell? ⟨wr.heap.size, j, none⟩ = some u := fun j u hj => (CellsN.new wr 27 [.int .i64 q.1, q.2.1, q.2.2]).at_ hj
    exact hcell j u hj
  · rw [flatQ_one] at hu
    rcases List.mem_cons.1 hu with rfl | hu
    · rfl
    · rcases List.mem_cons.1 hu with rfl | hu
      · exact h1
      · rw [List.mem_singleton.1 hu]; exact h2
  · intro v' w' ho' hg' _
    refine h v' w' ?_ (grown_alloc hg')
    show w'.ownsRow _ _ _ _ _ _
    rw [List.length_append, flatQ_append]
    exact ho'
/-- Blocks of ints and of rows are as they were. -/
structure KeepsIR (w w' : World) : Prop where
  size : w.heap.size ≤ w'.heap.size
  blk : ∀ (k : Nat) (cur : Array Value) (e : TypeId) (fr : Nat × Nat), w.heap[k]? = some (.cells cur e fr) → (e = 3 ∨ e = 25) → w'.heap[k]? = w.heap[k]?
theorem KeepsIR.of_below {w w' : World} (h : Below w.heap.size w w') : KeepsIR w w' := ⟨h.size, fun k cur e fr hk _ => h.block k (Array.getElem?_eq_some_iff.1 hk).1⟩
theorem KeepsIR.trans {a b c : World} (h : KeepsIR a b) (k : KeepsIR b c) : KeepsIR a c := ⟨Nat.le_trans h.size k.size, fun j cur e fr hj he => by
  have h1 := h.blk j cur e fr hj he
  exact (k.blk j cur e fr (h1.trans hj) he).trans h1⟩
theorem KeepsIR.of_grown {w w' : World} {g : Nat} (h : w.grownBy w' (some g)) (hg : ∀ cur e fr, w.heap[g]? = some (.cells cur e fr) → ¬ (e = 3 ∨ e = 25)) : KeepsIR w w' :=
  ⟨h.size, fun k cur e fr hk he => h.block k (Array.getElem?_eq_some_iff.1 hk).1 (fun e1 => by
    cases e1
    exact hg cur e fr hk he)⟩
theorem has_keep {α : Type} {enc : α → Value} {e : TypeId} {w w' : World} {base : Nat} {v : Value} {xs : List α} (h : Has enc e w base v xs) (hk : KeepsIR w w') (he : e = 3 ∨ e = 25) : Has enc e w' base v xs :=
  h.of_same fun k hb => by
    rcases h.2 with ⟨rfl, _⟩ | ⟨g, cap, cur, rfl, _, hc, _⟩
    · cases hb
    · have e1 : g = k := by simpa [Value.ownBlock] using hb
      subst e1
      exact hk.blk g cur e _ hc he
theorem OwnI.keep {w w' : World} {lo hi : Nat} {v : Value} {xs : List Int} (h : OwnI w lo hi v xs) (hk : KeepsIR w w') : OwnI w' lo hi v xs := ⟨has_keep h.has hk (.inl rfl), h.lt, Nat.le_trans h.le hk.size⟩
theorem OwnRows.keep {w w' : World} {lo hi : Nat} {us : List Value} {rows : List (List Int)} (h : OwnRows w lo hi us rows) (hk : KeepsIR w w') : OwnRows w' lo hi us rows := ⟨h.len, fun i u r hu hr => OwnI.keep (h.row i u r hu hr) hk, h.apart⟩
theorem OwnS.keep {w w' : World} {lo hi : Nat} {v : Value} {b : Int} {rows : List (List Int)} {out : List Int} (h : OwnS w lo hi v b rows out) (hk : KeepsIR w w') : OwnS w' lo hi v b rows out := by
  obtain ⟨vn, vo, us, h1, h2, h3⟩ := h
  exact ⟨vn, vo, us, h1, ⟨has_keep h2.top hk (.inr rfl), h2.lt, Nat.le_trans h2.le hk.size, OwnRows.keep h2.rows hk⟩, OwnRows.keep h3 hk⟩
theorem HasRows.keep {w w' : World} {lo hi : Nat} {v : Value} {rows : List (List Int)} (h : HasRows w lo hi v rows) (hk : KeepsIR w w') : HasRows w' lo hi v rows := by
  obtain ⟨us, h1, h2, h3, h4⟩ := h
  exact ⟨us, has_keep h1 hk (.inr rfl), OwnRows.keep h2 hk, h3, Nat.le_trans h4 hk.size⟩
/-- A sequence's value, the sequence, the interval of blocks in which it lies. -/
structure El where
  q : QV
  s : Sq
  c : Nat
  d : Nat
/-- Sequences of the call's own, one behind the other. -/
structure Elems (w : World) (lo : Nat) (E : List El) : Prop where
  own : ∀ e ∈ E, OwnS w e.c e.d (encQ e.q) e.s.b e.s.r e.s.o
  lo : ∀ e ∈ E, lo ≤ e.c ∧ e.c ≤ e.d
  pw : E.Pairwise fun e f => e.d ≤ f.c
/-- A block that lies in none of them. -/
def Avoid (E : List El) (g : Nat) : Prop := ∀ e ∈ E, g < e.c ∨ e.d ≤ g
section
variable {w w' : World} {lo : Nat} {E : List El}
theorem Elems.below (h : Elems w lo E) (hb : Below w.heap.size w w') : Elems w' lo E := ⟨fun e he => (h.own e he).below hb, h.lo, h.pw⟩
theorem Elems.keep (h : Elems w lo E) (hk : KeepsIR w w') : Elems w' lo E := ⟨fun e he => OwnS.keep (h.own e he) hk, h.lo, h.pw⟩
theorem Elems.touch {g : Nat} (h : Elems w lo E) (ht : Plain.Touch g (g + 1) w w') (ha : Avoid E g) : Elems w' lo E :=
  ⟨fun e he => (h.own e he).touch ht (by rcases ha e he with h1 | h1 <;> omega), h.lo, h.pw⟩
theorem Avoid.new (h : Elems w lo E) {g : Nat} (hg : w.heap.size ≤ g) : Avoid E g := fun e he => .inr (Nat.le_trans (h.own e he).le hg)
theorem Elems.push {v : QV} {s : Sq} (h : Elems w lo E) (hlo : lo ≤ w.heap.size) (hb : Below w.heap.size w w') (hs : OwnS w' w.heap.size w'.heap.size (encQ v) s.b s.r s.o) : Elems w' lo (E ++ [⟨v, s, w.heap.size, w'.heap.size⟩]) := by
  refine ⟨fun e he => ?_, fun e he => ?_, List.pairwise_append.2 ⟨h.pw, List.pairwise_singleton _ _, fun e he f hf => ?_⟩⟩
  · rcases List.mem_append.1 he with he | he
    · exact (h.own e he).below hb
    · rw [List.mem_singleton.1 he]; exact hs
  · rcases List.mem_append.1 he with he | he
    · exact h.lo e he
    · rw [List.mem_singleton.1 he]; exact ⟨hlo, hb.size⟩
  · rw [List.mem_singleton.1 hf]
    exact (h.own e he).le
theorem Avoid.push {g : Nat} (h : Avoid E g) (hg : g < w.heap.size) (v : QV) (s : Sq) (d : Nat) : Avoid (E ++ [⟨v, s, w.heap.size, d⟩]) g := fun e he => by
  rcases List.mem_append.1 he with he | he
  · exact h e he
  · rw [List.mem_singleton.1 he]; exact .inl hg
theorem Elems.lies (h : Elems w lo E) {i : Nat} {e : El} (he : E[i]? = some e) : LiesS w (encQ e.q) e.s.b e.s.r e.s.o := (h.own e (List.mem_of_getElem? he)).lies
end
end Kern
end Go.Proofs.Ytdgfecjakmdheaa
/- Contract of the laws' eqSequenceS, at two slices that hold the same sequences. No conditions beyond those that it states. -/
namespace Go.Proofs.Ytdgfecjakmdheaa
open Go.ChangeShapes Go.WideShapes Go.ChangeAt Go.RowKit
open Go.PlainAid Plain
set_option linter.unusedVariables false
namespace Kern
open Seqs Mins
/-- What stands at one place of such a slice. -/
theorem elem_at {w : World} {base lo : Nat} {v : Value} {E : List El} {k : Nat} {s : Sq} (h : OwnQ w base v (E.map El.q)) (hE : Elems w lo E) (hs : (E.map El.s)[k]? = some s) :
    ∃ g c a1 c1 a2 c2, v = .slice (some ⟨g, 0, none⟩) E.length c ∧ w.cell? ⟨g, k * 3, none⟩ = some (.int .i64 s.b) ∧ w.cell? ⟨g, k * 3 + 1, none⟩ = some (.slice a1 s.r.length c1) ∧ w.cell? ⟨g, k * 3 + 2, none⟩ = some (.slice a2 s.o.length c2) ∧ LiesS w (.agg #[.int .i64 s.b, .slice a1 s.r.length c1, .slice a2 s.o.length c2]) s.b s.r s.o := by
  obtain ⟨a, c, hv, hag⟩ := h.form
  have hml : (E.map El.q).length = E.length := List.length_map ..
  have hlt := (List.getElem?_eq_some_iff.1 hs).1
  rw [List.length_map] at hlt
  obtain ⟨el, hel⟩ : ∃ e, E[k]? = some e := ⟨_, List.getElem?_eq_getElem hlt⟩
  rw [List.getElem?_map, hel] at hs
  obtain rfl := Option.some.inj hs
  have hq : (E.map El.q)[k]? = some el.q := by rw [List.getElem?_map, hel]; rfl
  obtain ⟨g, rfl, _⟩ := hag (by rw [hml]; omega)
  rw [hv] at h
  obtain ⟨c0, c1, c2⟩ := h.cells hq
  have hls := hE.lies hel
  obtain ⟨an1, cn1, ao1, co1, he⟩ := hls.form
  rw [he] at hls
  simp only [encQ, Value.agg.injEq, Array.mk.injEq, List.cons.injEq, and_true, Value.int.injEq, true_and] at he
  obtain ⟨e1, e2, e3⟩ := he
  rw [e1] at c0
  rw [e2] at c1
  rw [e3] at c2
  rw [hml] at hv
  exact ⟨g, c, an1, cn1, ao1, co1, hv, c0, c1, c2, hls⟩
end Kern
end Go.Proofs.Ytdgfecjakmdheaa
