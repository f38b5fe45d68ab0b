/- The functions that lead a pair of states on and give its term, as CombineTerms of the program makes them. No conditions beyond those that each states. -/
import Derived.Test.YthnmighlgifoeaaComb2
import Derived.Test.YthnmighlgifoeaaPairs
import Derived.Test.YthnmighlgifoeaaSeqForms
import Derived.StillTailTactics
import Derived.BigQuiet
namespace Go.Proofs.Ythnmighlgifoeaa
open Go.ChangeShapes Go.WideShapes Go.ChangeAt Go.RowKit
open Go.PlainAid Plain
set_option linter.unusedVariables false
namespace Comb
open Seqs
theorem old_cellC {w w' : World} {p o : Nat} {u : Value} (hb : Below w.heap.size w w') (h : w.cell? ⟨p, o, none⟩ = some u) : w'.cell? ⟨p, o, none⟩ = some u := (hb.cell (p := ⟨p, o, none⟩) (World.block_lt_of_cell? w _ h)).trans h
/-- What the cells of a sequence that lies say of one step. -/
theorem step_cells {w : World} {b : Int} {rows : List (List Int)} {out : List Int} {an ao : Option Addr} {cn co : Nat} (h : LiesS w (.agg #[.int .i64 b, .slice an rows.length cn, .slice ao out.length co]) b rows out) (hv : IsSeq b rows out) {x : Nat} (hx : x < rows.length) {d : Nat} (hd : (d : Int) < b) :
    ∃ p o q t c n, an = some ⟨p, o, none⟩ ∧ w.cell? ⟨p, o + x, none⟩ = some (.slice (some ⟨q, t, none⟩) n c) ∧ d < n ∧ w.cell? ⟨q, t + d, none⟩ = some (.int .i64 (nextS rows x d)) := by
  obtain ⟨r, hr⟩ : ∃ r, rows[x]? = some r := ⟨_, List.getElem?_eq_getElem hx⟩
  have hl := (hv.2.2.2.2.2.1 r (List.mem_of_getElem? hr)).1
  obtain ⟨p, o, a', ca', rfl, hu, hc⟩ := h.cells.1 x r hr
  obtain ⟨y, hy⟩ : ∃ y, r[d]? = some y := ⟨_, List.getElem?_eq_getElem (by omega)⟩
  obtain ⟨q, t, rfl, hcy⟩ := hc d y hy
  refine ⟨p, o, q, t, ca', r.length, rfl, hu, by omega, ?_⟩
  rw [hcy]
  have e : nextS rows (x : Int) (d : Int) = y := by
    unfold nextS
    rw [Int.toNat_natCast, Int.toNat_natCast, List.getD_eq_getElem?_getD (l := rows), hr, Option.getD_some, List.getD_eq_getElem?_getD, hy]
    rfl
  rw [e]
set_option maxRecDepth 100000 in
set_option maxHeartbeats 1000000 in
theorem comb_next (b : Int) (ra rb : List (List Int)) (oa ob : List Int) (ana aoa anb aob : Option Addr) (cna coa cnb cob : Nat) (w : World) (pa pb : Nat)
    (ha : LiesS w (.agg #[.int .i64 b, .slice ana ra.length cna, .slice aoa oa.length coa]) b ra oa) (hb : LiesS w (.agg #[.int .i64 b, .slice anb rb.length cnb, .slice aob ob.length cob]) b rb ob)
    (ca : Cells3 w pa 27 (.int .i64 b) (.slice ana ra.length cna) (.slice aoa oa.length coa)) (cb : Cells3 w pb 27 (.int .i64 b) (.slice anb rb.length cnb) (.slice aob ob.length cob))
    (va : IsSeq b ra oa) (vb : IsSeq b rb ob) (x y d : Nat) (hx : x < ra.length) (hy : y < rb.length) (hd : (d : Int) < b) :
    Calls Try.prog 42 #[.agg #[.int .i64 (x : Int), .int .i64 (y : Int)], .int .i64 (d : Int), .pointer (some ⟨pa, 0, none⟩), .pointer (some ⟨pb, 0, none⟩)] w fun e w' => e = .returned (.agg #[.int .i64 (nextS ra x d), .int .i64 (nextS rb y d)]) ∧ Below w.heap.size w w' := by
  obtain ⟨p, o, q, t, c, n, rfl, a1, hn, a2⟩ := step_cells ha va hx hd
  obtain ⟨p', o', q', t', c', n', rfl, b1, hn', b2⟩ := step_cells hb vb hy hd
  obtain ⟨u1, hu1⟩ : ∃ u, u = nextS ra x d := ⟨_, rfl⟩
  obtain ⟨u2, hu2⟩ : ∃ u, u = nextS rb y d := ⟨_, rfl⟩
  rw [← hu1] at a2 ⊢
  rw [← hu2] at b2 ⊢
  clear hu1 hu2
  have hb2 : Below w.heap.size w ((w.alloc (.cells #[.int .i64 (x : Int), .int .i64 (y : Int)] 57)).alloc (.cells #[.int .i64 0, .int .i64 0] 57)) := ((Below.refl _ _).alloc (Nat.le_refl _) _).alloc (by simp only [size_alloc'] <;> omega) _
  have cx := (CellsN.new w 57 [.int .i64 (x : Int), .int .i64 (y : Int)]).alloc (.cells #[.int .i64 0, .int .i64 0] 57)
  have cz := CellsN.new (w.alloc (.cells #[.int .i64 (x : Int), .int .i64 (y : Int)] 57)) 57 [.int .i64 0, .int .i64 0]
  rw [size_alloc'] at cz
  have ca2 := ca.below hb2
  have cb2 := cb.below hb2
  have a1' := old_cellC hb2 a1
  have a2' := old_cellC hb2 a2
  have b1' := old_cellC hb2 b1
  have b2' := old_cellC hb2 b2
  have hxa : (x : Int) < (ra.length : Int) := by omega
  have hyb : (y : Int) < (rb.length : Int) := by omega
  have hx0 : (0 : Int) ≤ (x : Int) := Int.natCast_nonneg _
  have hy0 : (0 : Int) ≤ (y : Int) := Int.natCast_nonneg _
  have hd0 : (0 : Int) ≤ (d : Int) := Int.natCast_nonneg _
  have hdn : (d : Int) < (n : Int) := by omega
  have hdn' : (d : Int) < (n' : Int) := by omega
  have hpa := ca.lt
  have hpb := cb.lt
  have HCX := Lib.hid cx
  have HCZ := Lib.hid cz
  have HB := Lib.hid hb2
  have HCA := Lib.hid ca2
  have HCB := Lib.hid cb2
  have HA1 := Lib.hid a1'
  have HA2 := Lib.hid a2'
  have HB1 := Lib.hid b1'
  have HB2 := Lib.hid b2'
  clear ha hb ca cb va vb cx cz hb2 ca2 cb2 a1 a2 b1 b2 a1' a2' b1' b2' hd
  go_enter Try.func42, Try.ntmps42
  go_wp2
  obtain ⟨W, hW⟩ : ∃ W, W = (w.alloc (.cells #[.int .i64 (x : Int), .int .i64 (y : Int)] 57)).alloc (.cells #[.int .i64 0, .int .i64 0] 57) := ⟨_, rfl⟩
  rw [← hW] at HCX HCZ HB HCA HCB HA1 HA2 HB1 HB2 ⊢
  have k1 := HCA.out.c1
  have k2 := HCB.out.c1
  have x0 := HCX.out.at_ (i := 0) rfl
  have x1 := HCX.out.at_ (i := 1) rfl
  have z0 := HCZ.out.at_ (i := 0) rfl
  have z1 := HCZ.out.at_ (i := 1) rfl
  have zf := HCZ.out.f
  have e1 := HA1.out
  have e2 := HA2.out
  have e3 := HB1.out
  have e4 := HB2.out
  clear hW
  go_still_tail 19, (by kernel_rfl)
  change wpList _ _ _ _ _ W.drew
  have hbd := below_drew' W
  have HCZ2 := Lib.hid (HCZ.out.below hbd)
  have HB2' := Lib.hid (HB.out.trans (hbd.mono HB.out.size))
  generalize W.drew = W2 at HCZ2 HB2' ⊢
  clear HCX HCZ HB HCA HCB HA1 HA2 HB1 HB2 k1 k2 x0 x1 z0 z1 zf e1 e2 e3 e4 hbd
  have z0 := HCZ2.out.at_ (i := 0) rfl
  have z1 := HCZ2.out.at_ (i := 1) rfl
  have zf := HCZ2.out.f
  go_wp2
  have hn := (HCZ2.out.set 0 (.int .i64 u1)).set 1 (.int .i64 u2)
  have n0 := hn.at_ (i := 0) rfl
  have n1 := hn.at_ (i := 1) rfl
  refine bodyPost_ret (v := .agg #[.int .i64 u1, .int .i64 u2]) (by simp [results, Try.results42, go_sem, n0, n1]) rfl ⟨rfl, ?_⟩
  exact (HB2'.out.setCell (Nat.le_succ _) _).setCell (Nat.le_succ _) _
/-- A term's cell. -/
theorem term_cells {w : World} {b : Int} {rows : List (List Int)} {out : List Int} {an ao : Option Addr} {cn co : Nat} (h : LiesS w (.agg #[.int .i64 b, .slice an rows.length cn, .slice ao out.length co]) b rows out) (hv : IsSeq b rows out) {x : Nat} (hx : x < rows.length) :
    ∃ q s, ao = some ⟨q, s, none⟩ ∧ w.cell? ⟨q, s + x, none⟩ = some (.int .i64 (out.getD x 0)) ∧ x < out.length ∧ 0 ≤ out.getD x 0 ∧ out.getD x 0 ≤ 3 := by
  have hl := hv.2.2.2.2.1
  have ho : out[x]? = some (out.getD x 0) := by rw [List.getD_eq_getElem?_getD, List.getElem?_eq_getElem (show x < out.length by omega)]; rfl
  obtain ⟨q, s, h1, h2⟩ := h.cells.2 x _ ho
  exact ⟨q, s, h1, h2, by omega, hv.2.2.2.2.2.2 _ (List.mem_of_getElem? ho)⟩
set_option maxRecDepth 100000 in
set_option maxHeartbeats 1000000 in
theorem comb_term (b : Int) (ra rb : List (List Int)) (oa ob : List Int) (ana aoa anb aob : Option Addr) (cna coa cnb cob : Nat) (w : World) (pa pb pw : Nat) (how : Int) (hh : 1 ≤ how ∧ how ≤ 4)
    (ha : LiesS w (.agg #[.int .i64 b, .slice ana ra.length cna, .slice aoa oa.length coa]) b ra oa) (hb : LiesS w (.agg #[.int .i64 b, .slice anb rb.length cnb, .slice aob ob.length cob]) b rb ob)
    (ca : Cells3 w pa 27 (.int .i64 b) (.slice ana ra.length cna) (.slice aoa oa.length coa)) (cb : Cells3 w pb 27 (.int .i64 b) (.slice anb rb.length cnb) (.slice aob ob.length cob))
    (cw : CellsN w pw 54 [.int .i64 how, .func (.func (wayF how)) #[] #[]])
    (va : IsSeq b ra oa) (vb : IsSeq b rb ob) (x y : Nat) (hx : x < ra.length) (hy : y < rb.length) :
    Calls Try.prog 43 #[.agg #[.int .i64 (x : Int), .int .i64 (y : Int)], .pointer (some ⟨pw, 0, none⟩), .pointer (some ⟨pa, 0, none⟩), .pointer (some ⟨pb, 0, none⟩)] w fun e w' => e = .returned (.int .i64 (combW (oa.getD x 0) (ob.getD y 0) how)) ∧ Below w.heap.size w w' := by
  obtain ⟨q, s, rfl, a1, hxl, hta⟩ := term_cells ha va hx
  obtain ⟨q', s', rfl, b1, hyl, htb⟩ := term_cells hb vb hy
  have HC := Lib.hid (fun W => way_call (oa.getD x 0) (ob.getD y 0) how W hta htb hh)
  have eg := way_enters how
  obtain ⟨g, hg⟩ : ∃ g, g = wayF how := ⟨_, rfl⟩
  obtain ⟨u1, hu1⟩ : ∃ u, u = oa.getD x 0 := ⟨_, rfl⟩
  obtain ⟨u2, hu2⟩ : ∃ u, u = ob.getD y 0 := ⟨_, rfl⟩
  obtain ⟨u3, hu3⟩ : ∃ u, u = combW (oa.getD x 0) (ob.getD y 0) how := ⟨_, rfl⟩
  rw [← hu3] at HC ⊢
  rw [← hu1] at a1 HC
  rw [← hu2] at b1 HC
  rw [← hg] at HC eg cw
  clear hu1 hu2 hu3 hg hta htb
  have HQ : Hid (∀ (W : World) (n : Nat), Calls Try.prog g #[.int .i64 u1, .int .i64 u2] (W.drewN n) fun e w'' => e = .returned (.int .i64 u3) ∧ ∃ m, w'' = W.drewN m) := fun W n => (HC.out _).mono fun _ _ ⟨he, hw⟩ => ⟨he, n, hw.symm⟩
  have hb2 : Below w.heap.size w (w.alloc (.cells #[.int .i64 (x : Int), .int .i64 (y : Int)] 57)) := (Below.refl _ _).alloc (Nat.le_refl _) _
  have cx := CellsN.new w 57 [.int .i64 (x : Int), .int .i64 (y : Int)]
  have ca2 := ca.below hb2
  have cb2 := cb.below hb2
  have cw2 := cw.below hb2
  have a1' := old_cellC hb2 a1
  have b1' := old_cellC hb2 b1
  have hxa : (x : Int) < (oa.length : Int) := by omega
  have hyb : (y : Int) < (ob.length : Int) := by omega
  have hx0 : (0 : Int) ≤ (x : Int) := Int.natCast_nonneg _
  have hy0 : (0 : Int) ≤ (y : Int) := Int.natCast_nonneg _
  have HCX := Lib.hid cx
  have HB := Lib.hid hb2
  have HCA := Lib.hid ca2
  have HCB := Lib.hid cb2
  have HCW := Lib.hid cw2
  have HA1 := Lib.hid a1'
  have HB1 := Lib.hid b1'
  clear ha hb ca cb cw va vb cx hb2 ca2 cb2 cw2 a1 b1 a1' b1' HC
  go_enter Try.func43, Try.ntmps43
  go_wp2
  obtain ⟨W, hW⟩ : ∃ W, W = w.alloc (.cells #[.int .i64 (x : Int), .int .i64 (y : Int)] 57) := ⟨_, rfl⟩
  rw [← hW] at HCX HB HCA HCB HCW HA1 HB1 ⊢
  have k1 := HCA.out.c2
  have k2 := HCB.out.c2
  have k3 := HCW.out.at_ (i := 1) rfl
  have x0 := HCX.out.at_ (i := 0) rfl
  have x1 := HCX.out.at_ (i := 1) rfl
  have e1 := HA1.out
  have e3 := HB1.out
  clear hW
  go_quiet ((go_at_fn g; exact HQ.out _ _))
  go_wp2
  go_ret
  exact ⟨rfl, below_drewN HB.out _⟩
end Comb
end Go.Proofs.Ythnmighlgifoeaa
