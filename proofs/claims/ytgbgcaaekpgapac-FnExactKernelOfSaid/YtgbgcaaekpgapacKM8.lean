/- Several texts of this proof, one behind the other: each says ahead of it what it shows and under which conditions. -/
import Derived.Test.YtgbgcaaekpgapacKM7
/- Contract of the program's searchedKernel. No conditions beyond those that it states. -/
namespace Go.Proofs.Ytgbgcaaekpgapac
open Go.ChangeShapes Go.WideShapes Go.ChangeAt Go.RowKit
open Go.PlainAid Plain Go.Conc
set_option linter.unusedVariables false
namespace Kern
open Seqs Mins
theorem infoRk : (Try.prog.info? 23).map (fun i => (i.zero, i.size, i.bytes)) = some (some (.slice none 0 0), 1, 24) := by kernel_rfl
theorem infoSq : ∃ i, Try.prog.info? 30 = some i ∧ i.bytes = 56 := by
  have h : (Try.prog.info? 30).map (·.bytes) = some 56 := by kernel_rfl
  obtain ⟨i, hi, hb⟩ := Option.map_eq_some_iff.1 h
  exact ⟨i, hi, hb⟩
theorem mk40 (w : World) : (Instr.makeChan 52 (.int .i64 40)).run Try.prog w = .ok (.chan (some w.heap.size)) (w.alloc (.chan 40 #[] false 0 0 false)) := by
  obtain ⟨i, hi, hb⟩ := infoSq
  simpa using run_makeChan (P := Try.prog) (w := w) Try.underlying52 hi .i64 40 (by omega) (by rw [hb]; omega)
/-- A kernel of the call's own, and whether there is one. -/
def GivesKS (L : List Sq) (R : List (List Int)) (k : Bool) (w : World) (en : Ending) (w' : World) : Prop := ∃ vf vn E, en = .returned (.tuple #[.agg #[vf, vn], .bool k]) ∧ OwnQ w' w.heap.size vf (E.map El.q) ∧ Elems w' w.heap.size E ∧ E.map El.s = L ∧ (∃ lo hi, w.heap.size ≤ lo ∧ HasRows w' lo hi vn R) ∧ Below w.heap.size w w'
def kerR (b : Int) (rows : List (List Int)) (out : List Int) : List (List Int) := if kerK b rows out = true then kRows (mini b rows out) b.toNat (kerV b rows out).length else []
set_option maxRecDepth 100000 in
set_option maxHeartbeats 2000000 in
theorem impl_ker_no (v : Value) (b : Int) (rows : List (List Int)) (out : List Int) (w : World) (h : LiesS w v b rows out) (hs : rows.length + tot rows + out.length ≤ 1048576) (hk : formK b rows out = false) :
    Calls Try.prog 24 #[v] w (GivesKS [] [] false w) := by
  have HS := Lib.hid h
  obtain ⟨an, cn, ao, co, rfl⟩ := h.form
  clear h
  have HB : Hid (Below w.heap.size w (w.alloc (Obj.cells #[Value.int .i64 b, Value.slice an rows.length cn, Value.slice ao out.length co] 30))) := (Below.refl _ _).alloc (Nat.le_refl _) _
  have HC := Lib.hid (Cells3.new w 30 (.int .i64 b) (.slice an rows.length cn) (.slice ao out.length co))
  have HB0 : Hid (Below w.heap.size w ((w.alloc (Obj.cells #[Value.int .i64 b, Value.slice an rows.length cn, Value.slice ao out.length co] 30)).alloc (Obj.cells #[Value.slice none 0 0, Value.slice none 0 0] 45))) := HB.out.alloc (by simp only [size_alloc'] <;> omega) _
  have HC0 := Lib.hid (HC.out.alloc (Obj.cells #[Value.slice none 0 0, Value.slice none 0 0] 45))
  have hr := CellsN.new (w.alloc (Obj.cells #[Value.int .i64 b, Value.slice an rows.length cn, Value.slice ao out.length co] 30)) 45 [.slice none 0 0, .slice none 0 0]
  rw [size_alloc'] at hr
  have HR0 := Lib.hid hr
  have HCF : Hid (Calls Try.prog 35 #[.agg #[.int .i64 b, .slice an rows.length cn, .slice ao out.length co]] ((w.alloc (Obj.cells #[Value.int .i64 b, Value.slice an rows.length cn, Value.slice ao out.length co] 30)).alloc (Obj.cells #[Value.slice none 0 0, Value.slice none 0 0] 45)) (GivesK (formB b rows out) (minRV b rows out) (minOV b rows out) false ((w.alloc (Obj.cells #[Value.int .i64 b, Value.slice an rows.length cn, Value.slice ao out.length co] 30)).alloc (Obj.cells #[Value.slice none 0 0, Value.slice none 0 0] 45)))) := by
    have h1 := impl_min _ b rows out _ (HS.out.below HB0.out) hs
    rw [hk] at h1
    exact h1
  have k0 := HC0.out.c0
  have k1 := HC0.out.c1
  have k2 := HC0.out.c2
  clear hr hs hk HB HC
  go_enter Try.func24, Try.ntmps24
  go_wp2_with fail
  refine HCF.out.mono ?_
  rintro e W1 ⟨v1, rfl, hv1, b1⟩
  obtain ⟨a1, c1, a2, c2, rfl⟩ := hv1.form
  have HB1 := Lib.hid (HB0.out.trans (b1.mono HB0.out.size))
  have HR1 := Lib.hid (HR0.out.below b1)
  clear hv1 b1 k0 k1 k2
  have hbx : ∀ o, Below W1.heap.size W1 (W1.alloc o) := fun o => (Below.refl _ _).alloc (Nat.le_refl _) _
  have HX := Lib.hid (HR1.out.below (hbx (.cells #[.int .i64 (formB b rows out), .slice a1 (minRV b rows out).length c1, .slice a2 (minOV b rows out).length c2] 30)))
  have HBX := Lib.hid (HB1.out.trans ((hbx (.cells #[.int .i64 (formB b rows out), .slice a1 (minRV b rows out).length c1, .slice a2 (minOV b rows out).length c2] 30)).mono HB1.out.size))
  have z0 := HX.out.at_ (i := 0) rfl
  have z1 := HX.out.at_ (i := 1) rfl
  have z2 := HX.out.f
  go_wp2
  have hZ := (HX.out.set 0 (.slice none 0 0)).set 1 (.slice none 0 0)
  have n0 := hZ.at_ (i := 0) rfl
  have n1 := hZ.at_ (i := 1) rfl
  refine bodyPost_ret (v := .tuple #[.agg #[(.slice none 0 0), (.slice none 0 0)], .bool false]) (by simp [results, Try.results24, go_sem, n0, n1]) rfl ?_
  exact ⟨_, _, [], rfl, OwnQ.nil _ _, Elems.nil _ _, rfl, ⟨_, _, Nat.le_refl _, HasRows.nil (World.ownsRow_nil _ _ _ _) (((HBX.out.setCell (Nat.le_succ _) _).setCell (Nat.le_succ _) _).size)⟩, (HBX.out.setCell (Nat.le_succ _) _).setCell (Nat.le_succ _) _⟩
theorem ker_sub_i (e : El) (bn : Nat) (W : World) (hl : LiesS W (encQ e.q) e.s.b e.s.r e.s.o) (hg : Good (bn : Int) e.s) (r : Nat) (hr : r < bn) :
    Calls Try.prog 36 #[encQ e.q, .int .i64 r] W (fun en W' => ∃ v, en = .returned (.tuple #[v, .bool true]) ∧ OwnS W' W.heap.size W'.heap.size v (sub e.s r).b (sub e.s r).r (sub e.s r).o ∧ Below W.heap.size W W') := by
  have h1 := impl_sub (encQ e.q) e.s.b e.s.r e.s.o W hl (r : Int) hg.size
  rw [(hg.sub (by omega) (by omega)).2] at h1
  exact h1
theorem fAt_eq {m : Sq} {b i r : Nat} {f : Sq} {F : List Sq} (hF : F = kF m b (b * i + r)) (hf : F[i]? = some f) (hl : i < (kF m b (b * i)).length) : fAt m b i = f := by
  obtain ⟨g, hg⟩ : ∃ g, (kF m b (b * i))[i]? = some g := ⟨_, List.getElem?_eq_getElem hl⟩
  have h1 := kF_get (k := b * i + r) (Nat.le_add_right _ _) hg
  rw [← hF, hf] at h1
  rw [fAt, List.getD_eq_getElem?_getD, hg, Option.getD_some]
  exact (Option.some.inj h1).symm
section
variable {P : Program} {ops : Array Oper} {Q : Exit → Act → World → Prop} {a : Act} {w wr : World} {x0 x1 x2 : Value} {k c hi : Nat} {vf vn : Value} {E : List El} {rows : List (List Int)} {cl : Bool} {i : Nat} {rest : List Nat} {o : Oper}
theorem ks_recv {x : Value} (z : Value) {T : List Value} (HK : KS w wr x0 x1 x2 k c vf vn E rows hi (x :: T) cl) (ho : ops[i]? = some o) (hw : Region.wanted o (yielded ops a.tmps) = true)
    (hr : (execOp a.eval o).run P wr = .ok (.comm #[rcase c z] true (.recv true)) wr) (h : ∀ W', KS w W' x0 x1 x2 k c vf vn E rows hi T cl → wr.grownBy W' (some c) → OpsTo P ops Q rest (a.put o.dst (.tuple #[x, .bool true])) W') : OpsTo P ops Q (i :: rest) a wr := by
  obtain ⟨s, r, hc⟩ := HK.chan
  refine opsTo_recv ho hw hr hc (by simp) ?_
  have e : (x :: T).toArray.getD 0 undef = x := by simp
  rw [e]
  exact h _ (HK.set T _ (by simp) cl s (r + 1)) (grown_setChan ..)
theorem ks_shut (z : Value) (HK : KS w wr x0 x1 x2 k c vf vn E rows hi [] true) (ho : ops[i]? = some o) (hw : Region.wanted o (yielded ops a.tmps) = true)
    (hr : (execOp a.eval o).run P wr = .ok (.comm #[rcase c z] true (.recv true)) wr) (h : OpsTo P ops Q rest (a.put o.dst (.tuple #[z, .bool false])) wr) : OpsTo P ops Q (i :: rest) a wr := by
  obtain ⟨s, r, hc⟩ := HK.chan
  exact opsTo_shut ho hw hr hc h
theorem ks_send (v z' : Value) {T : List Value} (HK : KS w wr x0 x1 x2 k c vf vn E rows hi T false) (hT : T.length < 40) (ho : ops[i]? = some o) (hw : Region.wanted o (yielded ops a.tmps) = true)
    (hr : (execOp a.eval o).run P wr = .ok (.comm #[scase c v z'] true .send) wr) (h : ∀ W', KS w W' x0 x1 x2 k c vf vn E rows hi (T ++ [v]) false → wr.grownBy W' (some c) → OpsTo P ops Q rest (a.put o.dst undef) W') : OpsTo P ops Q (i :: rest) a wr := by
  obtain ⟨s, r, hc⟩ := HK.chan
  refine opsTo_send ho hw hr hc (by simpa using hT) ?_
  exact h _ (HK.set (T ++ [v]) _ (by simp) false (s + 1) r) (grown_setChan ..)
end
theorem row_block {W : World} {zb n : Nat} {L : List Value} (h : W.ownsRow zb 3 1 (.slice (some ⟨zb, 0, none⟩) n n) n L) : ∃ cur, W.heap[zb]? = some (.cells cur 3 (0, 0)) := by
  rcases h.2 with ⟨h1, _⟩ | ⟨g, cap, cur, h1, _, hg, _⟩
  · cases h1
  · injection h1 with h1
    injection h1 with h1
    injection h1 with h1
    subst h1
    exact ⟨cur, hg⟩
theorem row_write {W : World} {zb n i r : Nat} {m : Sq} {F : List Sq} {f y : Sq} {z : Nat} (h : W.ownsRow zb 3 1 (.slice (some ⟨zb, 0, none⟩) n n) n ((kRow m n i r ++ List.replicate (n - r) (0 : Int)).map (Value.int .i64))) (hr : r < n) (hF : F = kF m n (n * i + r)) (hf : fAt m n i = f) (hy : y = sub f (r : Int)) (hz : z = atQ F y) :
    (∃ u, W.cell? ⟨zb, r, none⟩ = some u) ∧ W.frozen? ⟨zb, r, none⟩ = false ∧ (W.setCell ⟨zb, r, none⟩ (.int .i64 (z : Int))).ownsRow zb 3 1 (.slice (some ⟨zb, 0, none⟩) n n) n ((kRow m n i (r + 1) ++ List.replicate (n - (r + 1)) (0 : Int)).map (Value.int .i64)) := by
  refine ⟨?_, h.frozenAt r, ?_⟩
  · have h1 := h.cellAt r (by omega)
    have hlen : r < ((kRow m n i r ++ List.replicate (n - r) (0 : Int)).map (Value.int .i64)).length := by
      rw [List.length_map, List.length_append, kRow_len, List.length_replicate]; omega
    rw [List.getElem?_eq_getElem hlen] at h1
    exact ⟨_, h1⟩
  · have h1 := (h.stored r (.int .i64 (z : Int))).1
    rw [kRow_set m n i r n hr (z : Int) (by rw [hf, hz, hF, hy])] at h1
    exact h1
theorem KS.done {w wr : World} {x0 x1 x2 : Value} {k c hi : Nat} {vf vn : Value} {E : List El} {rows : List (List Int)} {buf : List Value} {cl : Bool} (h : KS w wr x0 x1 x2 k c vf vn E rows hi buf cl) (a b : Value) :
    let W' := (wr.setCell ⟨w.heap.size + 1, 0, none⟩ a).setCell ⟨w.heap.size + 1, 1, none⟩ b
    OwnQ W' w.heap.size vf (E.map El.q) ∧ Elems W' w.heap.size E ∧ HasRows W' (w.heap.size + 2) hi vn rows ∧ Below w.heap.size w W' := by
  intro W'
  have g1 := grown_cell' wr (w.heap.size + 1) 0 a
  have g2 := grown_cell' (wr.setCell ⟨w.heap.size + 1, 0, none⟩ a) (w.heap.size + 1) 1 b
  have hg : wr.grownBy W' (some (w.heap.size + 1)) := grown_trans' g1 g2
  have hkp : KeepsIR wr W' := KeepsIR.of_grown hg (fun cur e fr h1 => by rw [h.res.row] at h1; simp at h1; rcases h1 with ⟨_, h1, _⟩; rw [← h1]; decide)
  exact ⟨(h.own.kept hg (.inr (fun e => by have := (h.own.lt _ e).1; omega))).mono (by omega), h.els.keep hkp, HasRows.keep h.next hkp, (h.below.setCell (p := ⟨w.heap.size + 1, 0, none⟩) (Nat.le_succ _) _).setCell (p := ⟨w.heap.size + 1, 1, none⟩) (Nat.le_succ _) _⟩
theorem ks_start {w W0 W1 : World} {x0 x1 x2 : Value} {m : Sq} {a1 a2 : Option Addr} {c1 c2 : Nat} (hb0 : Below w.heap.size w W0) (hc : Cells3 W0 w.heap.size 30 x0 x1 x2) (hr : CellsN W0 (w.heap.size + 1) 45 [.slice none 0 0, .slice none 0 0]) (b1 : Below W0.heap.size W0 W1) (hv : OwnS W1 W0.heap.size W1.heap.size (.agg #[.int .i64 m.b, .slice a1 m.r.length c1, .slice a2 m.o.length c2]) m.b m.r m.o) :
    KS w ((((W1.alloc (.cells #[.int .i64 m.b, .slice a1 m.r.length c1, .slice a2 m.o.length c2] 30)).alloc (.cells #[.int .i64 m.b, .slice a1 m.r.length c1, .slice a2 m.o.length c2] 30)).alloc (.cells #[.slice (some ⟨W1.heap.size + 1, 0, none⟩) 1 1, .slice none 0 0] 45)).alloc (.chan 40 #[] false 0 0 false)) x0 x1 x2 (W1.heap.size + 1 + 1) (W1.heap.size + 1 + 1 + 1) (.slice (some ⟨W1.heap.size + 1, 0, none⟩) 1 1) (.slice none 0 0) [El.mk (m.b, .slice a1 m.r.length c1, .slice a2 m.o.length c2) m W0.heap.size W1.heap.size] [] (w.heap.size + 2) [] false := by
  have hal : ∀ (W : World) o, Below W.heap.size W (W.alloc o) := fun W o => (Below.refl _ _).alloc (Nat.le_refl _) _
  have hlt := hr.lt
  have h01 := b1.size
  have e1 := size_alloc' W1 (.cells #[.int .i64 m.b, .slice a1 m.r.length c1, .slice a2 m.o.length c2] 30)
  have e2 := size_alloc' (W1.alloc (.cells #[.int .i64 m.b, .slice a1 m.r.length c1, .slice a2 m.o.length c2] 30)) (.cells #[.int .i64 m.b, .slice a1 m.r.length c1, .slice a2 m.o.length c2] 30)
  have e3 := size_alloc' ((W1.alloc (.cells #[.int .i64 m.b, .slice a1 m.r.length c1, .slice a2 m.o.length c2] 30)).alloc (.cells #[.int .i64 m.b, .slice a1 m.r.length c1, .slice a2 m.o.length c2] 30)) (.cells #[.slice (some ⟨W1.heap.size + 1, 0, none⟩) 1 1, .slice none 0 0] 45)
  have hB : Below W1.heap.size W1 ((((W1.alloc (.cells #[.int .i64 m.b, .slice a1 m.r.length c1, .slice a2 m.o.length c2] 30)).alloc (.cells #[.int .i64 m.b, .slice a1 m.r.length c1, .slice a2 m.o.length c2] 30)).alloc (.cells #[.slice (some ⟨W1.heap.size + 1, 0, none⟩) 1 1, .slice none 0 0] 45)).alloc (.chan 40 #[] false 0 0 false)) := (hal _ _).trans (((hal _ _).trans (((hal _ _).trans ((hal _ _).mono (by omega))).mono (by omega))).mono (by omega))
  have hq : OwnQ ((W1.alloc (.cells #[.int .i64 m.b, .slice a1 m.r.length c1, .slice a2 m.o.length c2] 30)).alloc (.cells #[.int .i64 m.b, .slice a1 m.r.length c1, .slice a2 m.o.length c2] 30)) (w.heap.size + 2) (.slice (some ⟨W1.heap.size + 1, 0, none⟩) 1 1) [(m.b, .slice a1 m.r.length c1, .slice a2 m.o.length c2)] := by
    have h1 := OwnQ.lit (base := w.heap.size + 2) (W1.alloc (.cells #[.int .i64 m.b, .slice a1 m.r.length c1, .slice a2 m.o.length c2] 30)) (m.b, .slice a1 m.r.length c1, .slice a2 m.o.length c2) (by omega)
    rw [e1] at h1
    exact h1
  have hE := (Elems.nil W0 w.heap.size).push (v := (m.b, .slice a1 m.r.length c1, .slice a2 m.o.length c2)) (s := m) hb0.size b1 hv
  refine ⟨(hb0.trans (b1.mono hb0.size)).trans (hB.mono (by omega)), (hc.below b1).below hB, (hr.below b1).below hB, ?_, ⟨0, 0, ?_⟩, (hq.below (hal _ _)).below (hal _ _), hE.below hB, HasRows.nil (World.ownsRow_nil _ _ _ _) (by simp; omega), fun g e => by simp [Value.ownBlock] at e, by omega, by omega, by omega⟩
  · have h1 := (CellsN.new ((W1.alloc (.cells #[.int .i64 m.b, .slice a1 m.r.length c1, .slice a2 m.o.length c2] 30)).alloc (.cells #[.int .i64 m.b, .slice a1 m.r.length c1, .slice a2 m.o.length c2] 30)) 45 [.slice (some ⟨W1.heap.size + 1, 0, none⟩) 1 1, .slice none 0 0]).alloc (.chan 40 #[] false 0 0 false)
    rw [e2, e1] at h1
    exact h1
  · have h1 := heap_alloc_new (((W1.alloc (.cells #[.int .i64 m.b, .slice a1 m.r.length c1, .slice a2 m.o.length c2] 30)).alloc (.cells #[.int .i64 m.b, .slice a1 m.r.length c1, .slice a2 m.o.length c2] 30)).alloc (.cells #[.slice (some ⟨W1.heap.size + 1, 0, none⟩) 1 1, .slice none 0 0] 45)) (.chan 40 #[] false 0 0 false)
    rw [e3, e2, e1] at h1
    exact h1
set_option maxRecDepth 100000 in
set_option maxHeartbeats 4000000 in
theorem impl_ker_yes (v : Value) (b : Int) (rows : List (List Int)) (out : List Int) (w : World) (h : LiesS w v b rows out) (hs : rows.length + tot rows + out.length ≤ 1048576) (hk : formK b rows out = true) :
    Calls Try.prog 24 #[v] w (GivesKS (kerV b rows out) (kerR b rows out) (kerK b rows out) w) := by
  obtain ⟨i0, hi, hz0, hz1, hz2⟩ := info_parts infoS
  obtain ⟨i1, hi1, hz10, hz11, hz12⟩ := info_parts Ints.infoI
  obtain ⟨i2, hi2, hz20, hz21, hz22⟩ := info_parts infoRk
  have HS := Lib.hid h
  obtain ⟨an, cn, ao, co, rfl⟩ := h.form
  clear h
  have HB : Hid (Below w.heap.size w (w.alloc (Obj.cells #[Value.int .i64 b, Value.slice an rows.length cn, Value.slice ao out.length co] 30))) := (Below.refl _ _).alloc (Nat.le_refl _) _
  have HC := Lib.hid (Cells3.new w 30 (.int .i64 b) (.slice an rows.length cn) (.slice ao out.length co))
  have HB0 : Hid (Below w.heap.size w ((w.alloc (Obj.cells #[Value.int .i64 b, Value.slice an rows.length cn, Value.slice ao out.length co] 30)).alloc (Obj.cells #[Value.slice none 0 0, Value.slice none 0 0] 45))) := HB.out.alloc (by simp only [size_alloc'] <;> omega) _
  have HC0 := Lib.hid (HC.out.alloc (Obj.cells #[Value.slice none 0 0, Value.slice none 0 0] 45))
  have hr := CellsN.new (w.alloc (Obj.cells #[Value.int .i64 b, Value.slice an rows.length cn, Value.slice ao out.length co] 30)) 45 [.slice none 0 0, .slice none 0 0]
  rw [size_alloc'] at hr
  have HR0 := Lib.hid hr
  have hgd := mini_good hk
  have hsq := hgd.seq
  obtain ⟨bn, hbn⟩ : ∃ bn : Nat, b = (bn : Int) := ⟨b.toNat, by have := hsq.1; rw [hgd.base] at this; omega⟩
  have hb2 : 2 ≤ bn := by have := hsq.1; rw [hgd.base] at this; omega
  have hb4 : bn ≤ 4 := by have := hsq.2.1; rw [hgd.base] at this; omega
  have HYES : Hid (∀ n, n = bn * (kF (mini b rows out) bn n).length → (kF (mini b rows out) bn n).length ≤ 40 → kerV b rows out = kF (mini b rows out) bn n ∧ kerR b rows out = kRows (mini b rows out) bn (kF (mini b rows out) bn n).length ∧ kerK b rows out = true) := fun n h1 h2 => by
    obtain ⟨h3, h4⟩ := ker_yes (n := n) hbn (by omega) hk h1 h2
    exact ⟨h3, by rw [kerR, if_pos h4, h3, hbn, Int.toNat_natCast], h4⟩
  have HNO : Hid (∀ n, 40 < (kF (mini b rows out) bn n).length → n ≤ 41 * bn → kerV b rows out = [] ∧ kerR b rows out = [] ∧ kerK b rows out = false) := fun n h1 h2 => by
    obtain ⟨h3, h4⟩ := ker_no (rows := rows) (out := out) (n := n) hbn h1 h2
    exact ⟨h3, by rw [kerR, h4]; simp, h4⟩
  have HCF : Hid (Calls Try.prog 35 #[.agg #[.int .i64 b, .slice an rows.length cn, .slice ao out.length co]] ((w.alloc (Obj.cells #[Value.int .i64 b, Value.slice an rows.length cn, Value.slice ao out.length co] 30)).alloc (Obj.cells #[Value.slice none 0 0, Value.slice none 0 0] 45)) (GivesK (mini b rows out).b (mini b rows out).r (mini b rows out).o true ((w.alloc (Obj.cells #[Value.int .i64 b, Value.slice an rows.length cn, Value.slice ao out.length co] 30)).alloc (Obj.cells #[Value.slice none 0 0, Value.slice none 0 0] 45)))) := by
    have h1 := impl_min _ b rows out _ (HS.out.below HB0.out) hs
    rw [hk] at h1
    exact h1
  have HG := Lib.hid hgd
  obtain ⟨m, hm⟩ : ∃ m, m = mini b rows out := ⟨_, rfl⟩
  obtain ⟨KV, hKV⟩ : ∃ x, x = kerK b rows out := ⟨_, rfl⟩
  obtain ⟨LV, hLV⟩ : ∃ x, x = kerV b rows out := ⟨_, rfl⟩
  obtain ⟨RV, hRV⟩ : ∃ x, x = kerR b rows out := ⟨_, rfl⟩
  rw [← hm] at HG HCF HYES HNO
  rw [← hKV, ← hLV, ← hRV] at HYES HNO ⊢
  have k0 := HC0.out.c0
  have k1 := HC0.out.c1
  have k2 := HC0.out.c2
  clear hr hs hk HB HC hgd hsq hm hKV hLV hRV
  subst hbn
  go_enter Try.func24, Try.ntmps24
  go_wp2_with fail
  refine HCF.out.mono ?_
  rintro e W1 ⟨v1, rfl, hv1, b1⟩
  obtain ⟨a1, c1, a2, c2, rfl⟩ := hv1.form
  have hmc := mk40
  have HX1 := Cells3.new W1 30 (.int .i64 m.b) (.slice a1 m.r.length c1) (.slice a2 m.o.length c2)
  have HB1 := Lib.hid b1
  have HV1 := Lib.hid hv1
  have j0 := HX1.c0
  have j1 := HX1.c1
  have j2 := HX1.c2
  have HK1 := Lib.hid (ks_start HB0.out HC0.out HR0.out b1 hv1)
  have HX2 := Lib.hid (((HX1.alloc (.cells #[.int .i64 m.b, .slice a1 m.r.length c1, .slice a2 m.o.length c2] 30)).alloc (.cells #[.slice (some ⟨W1.heap.size + 1, 0, none⟩) 1 1, .slice none 0 0] 45)).alloc (.chan 40 #[] false 0 0 false))
  clear b1 hv1 k0 k1 k2 HB1 HV1 HC0 HR0 HCF HB0 HX1
  go_upto_region 6 with fail
  obtain ⟨p, hp⟩ : ∃ p, p = W1.heap.size := ⟨_, rfl⟩
  obtain ⟨W2, hW2⟩ : ∃ W, W = ((((W1.alloc (.cells #[.int .i64 m.b, .slice a1 m.r.length c1, .slice a2 m.o.length c2] 30)).alloc (.cells #[.int .i64 m.b, .slice a1 m.r.length c1, .slice a2 m.o.length c2] 30)).alloc (.cells #[.slice (some ⟨W1.heap.size + 1, 0, none⟩) 1 1, .slice none 0 0] 45)).alloc (.chan 40 #[] false 0 0 false)) := ⟨_, rfl⟩
  rw [← hW2] at HK1 HX2 ⊢
  rw [← hp] at HK1 HX2 ⊢
  clear j0 j1 j2 hW2 hp
  have j0 := HX2.out.c0
  have j1 := HX2.out.c1
  have j2 := HX2.out.c2
  obtain ⟨kb, hkb⟩ : ∃ x, x = p + 1 + 1 := ⟨_, rfl⟩
  obtain ⟨cb, hcb⟩ : ∃ x, x = p + 1 + 1 + 1 := ⟨_, rfl⟩
  rw [← hcb] at HK1 ⊢
  rw [← hkb] at HK1 ⊢
  refine opsTo_region ?_
  refine opsTo_value (v := .chan (some cb)) (w' := W2) rfl (by simp [Region.wanted]) (by go_simp) ?_
  refine opsTo_value (v := (.agg #[.int .i64 m.b, .slice a1 m.r.length c1, .slice a2 m.o.length c2])) (w' := W2) rfl (by simp [Region.wanted]) (by go_simp) ?_
  refine ks_send (.agg #[.int .i64 m.b, .slice a1 m.r.length c1, .slice a2 m.o.length c2]) (.tuple #[]) HK1.out (by simp) rfl (by simp [Region.wanted]) (by simp [execOp, scase, Act.eval, Act.put]) ?_
  intro W3 hk3 _
  refine opsTo_end ?_
  have HK2 := Lib.hid hk3
  clear j0 j1 j2 HX2 HK1 hkb hcb hmc hk3
  go_simp
  go_wp2
  go_loopw [8] (fun _ wr => ∃ (i hi : Nat) (vf vn : Value) (E : List El), i ≤ E.length ∧ E.length ≤ 40 ∧ Hid (KS w wr (.int .i64 (bn : Int)) (.slice an rows.length cn) (.slice ao out.length co) kb cb vf vn E (kRows m bn i) hi ((E.drop i).map fun e => encQ e.q) (decide (i = E.length))) ∧ Hid (E.map El.s = kF m bn (bn * i))) (fun _ wr => match wr.cell? ⟨kb, 1, none⟩ with | some (.slice _ n _) => 41 - n | _ => 0)
  case atStart => exact ⟨0, _, _, _, _, Nat.zero_le _, by simp, HK2, rfl⟩
  case round =>
    clear HK2
    obtain ⟨i, hi', vf, vn, E, hiE, hE40, HK, HF⟩ := hrel
    have HKO := HK
    by_cases hlt : i < E.length
    · obtain ⟨el, hel⟩ : ∃ e, E[i]? = some e := ⟨_, List.getElem?_eq_getElem hlt⟩
      have hdr : E.drop i = el :: E.drop (i + 1) := by
        obtain ⟨h1, rfl⟩ := List.getElem?_eq_some_iff.1 hel
        exact List.drop_eq_getElem_cons h1
      rw [decide_eq_false (show ¬ i = E.length by omega), hdr, List.map_cons] at HK
      have hls := HK.out.els.lies hel
      obtain ⟨an1, cn1, ao1, co1, hv⟩ := hls.form
      rw [hv] at HK
      have HEL := Lib.hid hel
      have HV := Lib.hid hv
      obtain ⟨f, hf⟩ : ∃ f, f = el.s := ⟨_, rfl⟩
      have HFS := Lib.hid hf
      rw [← hf] at HV HK
      obtain ⟨T, hT⟩ : ∃ T, T = (E.drop (i + 1)).map fun e => encQ e.q := ⟨_, rfl⟩
      rw [← hT] at HK
      have HT := Lib.hid hT
      clear hel hdr hls hv hf hT
      go_upto_region 8 with fail
      refine opsTo_region ?_
      refine ks_recv (.agg #[.int .i64 0, .slice none 0 0, .slice none 0 0]) HK.out rfl (by simp [Region.wanted]) (by simp [go_sem, rcase]) ?_
      intro W4 hk4 _
      have HK4 := Lib.hid hk4
      clear hk4 HK
      refine opsTo_value (v := .bool true) (w' := W4) rfl (by simp [Region.wanted]) (by go_simp) ?_
      refine opsTo_end ?_
      go_simp
      have HM : Hid (∃ a c, wr.cell? ⟨kb, 1, none⟩ = some (.slice a i c)) := by
        obtain ⟨a, c, h1⟩ := HasRows.form HKO.out.next
        rw [kRows_len] at h1
        have h2 := HKO.out.ker.at_ (i := 1) rfl
        rw [h1] at h2
        exact ⟨a, c, h2⟩
      have HL := Lib.hid (show i < (kF m bn (bn * i)).length by rw [← HF.out, List.length_map]; exact hlt)
      have hal : Below W4.heap.size W4 (W4.alloc (.cells #[.int .i64 f.b, .slice an1 f.r.length cn1, .slice ao1 f.o.length co1] 30)) := (Below.refl _ _).alloc (Nat.le_refl _) _
      have HK5 := Lib.hid (HK4.out.call hal)
      have k0 := HK5.out.box.c0
      have HX8 := Lib.hid (Cells3.new W4 30 (.int .i64 f.b) (.slice an1 f.r.length cn1) (.slice ao1 f.o.length co1))
      clear hal HKO
      go_wp2_with (at_make; refine wpList_make_full (W4.alloc (.cells #[.int .i64 f.b, .slice an1 f.r.length cn1, .slice ao1 f.o.length co1] 30)) rfl _ _ 23 rfl (W4.alloc (.cells #[.int .i64 f.b, .slice an1 f.r.length cn1, .slice ao1 f.o.length co1] 30)).heap.size 3 i1 (.int .i64 0) 1 Try.underlying23 hi1 hz10 hz11 .i64 .i64 _ _ bn rfl rfl rfl rfl (by rw [hz12]; omega) (by unfold maxLen; omega) (Nat.le_refl _) ?_; intro W6 hown hgrow)
      obtain ⟨qb, hqb⟩ : ∃ x, x = W4.heap.size := ⟨_, rfl⟩
      obtain ⟨zb, hzb⟩ : ∃ x, x = W4.heap.size + 1 := ⟨_, rfl⟩
      have hza : (W4.alloc (.cells #[.int .i64 f.b, .slice an1 f.r.length cn1, .slice ao1 f.o.length co1] 30)).heap.size = zb := by rw [hzb, size_alloc']
      have hb6 := below_of_grown hgrow
      have HK6 := Lib.hid (HK5.out.call hb6)
      have HQ6 := Lib.hid (HX8.out.below hb6)
      have HO6 : Hid (W6.ownsRow zb 3 1 (.slice (some ⟨zb, 0, none⟩) bn bn) bn ((kRow m bn i 0 ++ List.replicate (bn - 0) (0 : Int)).map (Value.int .i64))) := by
        show W6.ownsRow _ _ _ _ _ _
        rw [Ints.zero_made, hza] at hown
        simpa [kRow] using hown
      have HA6 : Hid (Avoid E zb) := Avoid.new HK4.out.els (by omega)
      have hhi : hi' ≤ zb := by have := (HasRows.hi_le HK4.out.next).2; omega
      have hlo : w.heap.size + 2 ≤ zb := by have := HK4.out.clt; have := HK4.out.hc; omega
      have HV6 : Hid (vf.ownBlock ≠ some qb) := fun e => by have := (HK4.out.own.lt _ e).2; omega
      rw [HT.out] at HK6
      rw [← hqb] at HQ6
      rw [← hzb, ← hqb]
      clear hown hgrow hb6 hza hqb hzb HX8 HK5 HK4 HT k0
      go_loopw [37] (fun r' wr => ∃ (r : Nat) (vf : Value) (E : List El), r ≤ bn ∧ i < E.length ∧ E.length ≤ 40 ∧ r' = .int .i64 r ∧ Hid (E[i]? = some el) ∧ Hid (KS w wr (.int .i64 (bn : Int)) (.slice an rows.length cn) (.slice ao out.length co) kb cb vf vn E (kRows m bn i) hi' ((E.drop (i + 1)).map fun e => encQ e.q) false) ∧ Hid (E.map El.s = kF m bn (bn * i + r)) ∧ Hid (Avoid E zb) ∧ Hid (wr.ownsRow zb 3 1 (.slice (some ⟨zb, 0, none⟩) bn bn) bn ((kRow m bn i r ++ List.replicate (bn - r) (0 : Int)).map (Value.int .i64))) ∧ Hid (Cells3 wr qb 30 (.int .i64 f.b) (.slice an1 f.r.length cn1) (.slice ao1 f.o.length co1)) ∧ Hid (vf.ownBlock ≠ some qb)) (fun r' _ => bn - (intOf r').toNat)
      case atStart => exact ⟨0, vf, E, Nat.zero_le _, hlt, hE40, rfl, HEL, HK6, HF, HA6, HO6, HQ6, HV6⟩
      case round =>
        clear HEL HK6 HF HA6 HO6 HQ6 HV6 hlt hE40 hiE
        obtain ⟨r, vf, E, hrb, hiE, hE40, rfl, HEL, HK, HF, HA, HO, HQ, HVQ⟩ := hrel
        obtain ⟨va, vc, hvf, _⟩ := HK.out.own.form
        rw [List.length_map] at hvf
        subst hvf
        by_cases hr : r < bn
        case pos =>
          have hS : (E.map El.s)[i]? = some f := by rw [List.getElem?_map, HEL.out, HFS.out]; rfl
          have HFA := Lib.hid (fAt_eq HF.out hS HL.out)
          have hS2 := hS
          rw [HF.out] at hS
          have HKN := Lib.hid (kF_next hr hS)
          have hgd := kF_good (by omega) HG.out _ _ (List.mem_of_getElem? hS)
          have hls := HK.out.els.lies HEL.out
          have hcs := ker_sub_i el bn wr hls (by rw [← HFS.out]; exact hgd) r hr
          rw [← HFS.out, HV.out] at hcs
          have HCS := Lib.hid hcs
          obtain ⟨y, hy⟩ : ∃ y, y = sub f r := ⟨_, rfl⟩
          rw [← hy] at HKN HCS
          have HYE := Lib.hid hy
          have q0 := HQ.out.c0
          have q1 := HQ.out.c1
          have q2 := HQ.out.c2
          have hr0 : (0 : Int) ≤ (r : Int) := Int.natCast_nonneg _
          have hrb1 : (r : Int) < (bn : Int) := by omega
          clear hS hS2 hgd hls hcs hy
          go_wp2_with fail
          refine HCS.out.mono ?_
          rintro e W7 ⟨v2, rfl, hv2, b2⟩
          obtain ⟨a3, c3, a4, c4, rfl⟩ := hv2.form
          have hbx : Below W7.heap.size W7 (W7.alloc (.cells #[.int .i64 y.b, .slice a3 y.r.length c3, .slice a4 y.o.length c4] 30)) := (Below.refl _ _).alloc (Nat.le_refl _) _
          have hbw : Below wr.heap.size wr (W7.alloc (.cells #[.int .i64 y.b, .slice a3 y.r.length c3, .slice a4 y.o.length c4] 30)) := b2.trans (hbx.mono b2.size)
          have hzw := (World.ownsRow.lt HO.out zb rfl).2
          have hqw := HQ.out.lt
          have HK8 := Lib.hid (HK.out.call hbw)
          have HN8 := Lib.hid ((HK.out.els.push (v := (y.b, .slice a3 y.r.length c3, .slice a4 y.o.length c4)) (s := y) HK.out.below.size b2 hv2).below hbx)
          have HA8 := Lib.hid (HA.out.push hzw (y.b, .slice a3 y.r.length c3, .slice a4 y.o.length c4) y W7.heap.size)
          have HO8 := Lib.hid (HO.out.kept (grown_of_below hbw) (.inr (by simp [Value.ownBlock])))
          have HQ8 := Lib.hid (HQ.out.below hbw)
          have hY8 := hv2.lies.below hbx
          have HX8 := Lib.hid (Cells3.new W7 30 (.int .i64 y.b) (.slice a3 y.r.length c3) (.slice a4 y.o.length c4))
          have HVX : Hid ((Value.slice va E.length vc).ownBlock ≠ some W7.heap.size) := fun e => by have := (HK.out.own.lt _ e).2; have := b2.size; omega
          have HPL := Lib.hid (place _ vn E y a3 a4 c3 c4 w.heap.size (w.heap.size + 2) (W7.alloc (.cells #[.int .i64 y.b, .slice a3 y.r.length c3, .slice a4 y.o.length c4] 30)) HK8.out.own HK8.out.els hY8)
          have HAV : Hid (∀ g, vn.ownBlock = some g → Avoid (E ++ [El.mk (y.b, .slice a3 y.r.length c3, .slice a4 y.o.length c4) y wr.heap.size W7.heap.size]) g) := fun g e => (HK.out.av g e).push (HasRows.block HK.out.next g e).1.2 _ _ _
          obtain ⟨z, hz⟩ : ∃ z, z = atQ (E.map El.s) y := ⟨_, rfl⟩
          rw [← hz] at HPL
          have HZ := Lib.hid hz
          have g0 := HK8.out.ker.at_ (i := 0) rfl
          have g1 := HK8.out.ker.at_ (i := 1) rfl
          have j0 := HX8.out.c0
          have j1 := HX8.out.c1
          have j2 := HX8.out.c2
          have hqw7 : qb < W7.heap.size := Nat.lt_of_lt_of_le hqw b2.size
          have hqe : Hid (∀ k, wr.heap.size ≤ k → k ≠ qb) := fun k h e => by omega
          clear hv2 b2 hbx hbw hY8 hz HK HA HO HQ HCS q0 q1 q2
          go_wp2_with fail
          refine HPL.out.mono ?_
          rintro e W9 ⟨rfl, b9⟩
          have HK9 := Lib.hid (HK8.out.call b9)
          have HN9 := Lib.hid (HN8.out.below b9)
          have HO9 := Lib.hid (HO8.out.kept (grown_of_below b9) (.inr (by simp [Value.ownBlock])))
          have HQ9 := Lib.hid (HQ8.out.below b9)
          have HX9 := Lib.hid (HX8.out.below b9)
          have hs9 : W7.heap.size < W9.heap.size := HX9.out.lt
          clear b9 g0 g1 j0 j1 j2 HK8 HN8 HO8 HQ8 HX8 HPL
          by_cases h40 : z = 40
          · have hd : ((z : Int) == 40) = true := by simp; omega
            obtain ⟨h1, h2, h3⟩ := HNO.out (bn * i + (r + 1)) (by
              have hle := atQ_le (E.map El.s) y
              rw [← HZ.out, List.length_map] at hle
              rw [HKN.out, ← HF.out, (addQ_new (by rw [← HZ.out, List.length_map]; omega)).1, List.length_append, List.length_map]
              simp
              omega) (by have : bn * i ≤ bn * 39 := Nat.mul_le_mul_left _ (by omega); omega)
            subst h1; subst h2; subst h3
            have z0 := HK9.out.res.at_ (i := 0) rfl
            have z1 := HK9.out.res.at_ (i := 1) rfl
            have z2 := HK9.out.res.f
            go_wp2
            have hZ := (HK9.out.res.set 0 (.slice none 0 0)).set 1 (.slice none 0 0)
            have n0 := hZ.at_ (i := 0) rfl
            have n1 := hZ.at_ (i := 1) rfl
            refine bodyPost_ret (v := .tuple #[.agg #[(.slice none 0 0), (.slice none 0 0)], .bool false]) (by simp [results, Try.results24, go_sem, n0, n1]) rfl ?_
            have hdn := HK9.out.done (.slice none 0 0) (.slice none 0 0)
            exact ⟨_, _, [], rfl, OwnQ.nil _ _, Elems.nil _ _, rfl, ⟨_, _, Nat.le_refl _, HasRows.nil (World.ownsRow_nil _ _ _ _) hdn.2.2.2.size⟩, hdn.2.2.2⟩
          · have hd : ((z : Int) == 40) = false := by simp; omega
            have g0 := HK9.out.ker.at_ (i := 0) rfl
            have g1 := HK9.out.ker.at_ (i := 1) rfl
            have g2 := HK9.out.ker.f
            by_cases hn : z = E.length
            · subst hn
              have hle41 : E.length + 1 ≤ 40 := by omega
              have hd2 : ((E.length : Int) == (E.length : Int)) = true := by simp
              have hadd := (addQ_new (F := E.map El.s) (y := y) (by rw [← HZ.out, List.length_map]; omega)).1
              rw [HF.out] at hadd
              rw [hadd] at HKN
              have j0 := HX9.out.c0
              have j1 := HX9.out.c1
              have j2 := HX9.out.c2
              clear hadd
              go_upto_region 20 with (at_builtin; refine wpList_append_q3 rfl _ _ 27 rfl i0 Try.underlying27 hi hz0 hz1 hz2 (.slice va E.length vc) rfl HK9.out.own _ rfl (by first | rfl | simp) rfl rfl (by rw [List.length_map]; omega) (by have := HK9.out.clt; have := HK9.out.hc; omega) ?_; intro v5 w5 ho5 hg5 hb5; obtain ⟨xa, xc, hv5, _⟩ := ho5.form; rw [List.length_append, List.length_map, List.length_singleton] at hv5; subst hv5; have hk5 := HK9.out.ker.grown hg5 HK9.out.vf_ne_ker; have s0 := hk5.at_ (i := 0) rfl; have s1 := hk5.f)
              have HO5 : Hid (OwnQ w5 (w.heap.size + 2) (Value.slice xa (E.length + 1) xc) ((E ++ [El.mk (y.b, .slice a3 y.r.length c3, .slice a4 y.o.length c4) y wr.heap.size W7.heap.size]).map El.q)) := by rw [List.map_append]; exact ho5
              have HK10 := Lib.hid (HK9.out.add _ HO5.out hg5 HN9.out HAV.out)
              obtain ⟨cu, hcu⟩ := row_block HO9.out
              have hcu5 := (hg5.block zb (Array.getElem?_eq_some_iff.1 hcu).1 (fun e => by obtain ⟨_, h1⟩ := HK9.out.own.block zb e.symm; rw [hcu] at h1; simp at h1)).trans hcu
              have hg6 := grown_cell' w5 kb 0 (Value.slice xa (E.length + 1) xc)
              have hkz : kb ≠ zb := fun e => by rw [← e, hk5.row] at hcu5; simp at hcu5
              have HO10 := Lib.hid ((HO9.out.kept hg5 (.inr (fun e => by obtain ⟨_, h1⟩ := HK9.out.own.block zb e.symm; rw [hcu] at h1; simp at h1))).kept hg6 (.inr (fun e => hkz (Option.some.inj e).symm)))
              have hq5 := HQ9.out.grown hg5 HVQ.out
              have hx5 := HX9.out.grown hg5 HVX.out
              have HQ10 := Lib.hid (hq5.grown hg6 (fun e => hk5.ne3 hq5 (by decide) (Option.some.inj e)))
              have HX10 := Lib.hid (hx5.grown hg6 (fun e => hk5.ne3 hx5 (by decide) (Option.some.inj e)))
              have HV10 : Hid ((Value.slice xa (E.length + 1) xc).ownBlock ≠ some qb) := fun e => (hb5 qb e).elim (fun h => HVQ.out h) (fun h => by omega)
              obtain ⟨W10, hW10⟩ : ∃ W, W = w5.setCell ⟨kb, 0, none⟩ (Value.slice xa (E.length + 1) xc) := ⟨_, rfl⟩
              rw [← hW10] at HK10 HO10 HQ10 HX10 ⊢
              clear ho5 hg5 hb5 hk5 s0 s1 g0 g1 g2 j0 j1 j2 HO5 hcu hcu5 hg6 hq5 hx5 hW10 HK9 HO9 HQ9 HX9 HN9
              have j0 := HX10.out.c0
              have j1 := HX10.out.c1
              have j2 := HX10.out.c2
              refine opsTo_region ?_
              refine opsTo_value (v := .chan (some cb)) (w' := W10) rfl (by simp [Region.wanted]) (by go_simp) ?_
              refine opsTo_value (v := (.agg #[.int .i64 y.b, .slice a3 y.r.length c3, .slice a4 y.o.length c4])) (w' := W10) rfl (by simp [Region.wanted]) (by go_simp) ?_
              refine ks_send (.agg #[.int .i64 y.b, .slice a3 y.r.length c3, .slice a4 y.o.length c4]) (.tuple #[]) HK10.out (by rw [List.length_map, List.length_drop]; omega) rfl (by simp [Region.wanted]) (by simp [execOp, scase, Act.eval, Act.put]) ?_
              intro W11 hk11 hg11
              refine opsTo_end ?_
              obtain ⟨s, r0, hch⟩ := HK10.out.chan
              obtain ⟨cu, hcu⟩ := row_block HO10.out
              have HO11 := Lib.hid (HO10.out.kept hg11 (.inr (fun e => by have e2 : zb = cb := Option.some.inj e; rw [e2, hch] at hcu; cases hcu)))
              have HQ11 := Lib.hid (HQ10.out.grown hg11 (fun e => by have h1 := HQ10.out.row; rw [← Option.some.inj e, hch] at h1; cases h1))
              have HK11 : Hid (KS w W11 (.int .i64 (bn : Int)) (.slice an rows.length cn) (.slice ao out.length co) kb cb (Value.slice xa (E.length + 1) xc) vn (E ++ [El.mk (y.b, .slice a3 y.r.length c3, .slice a4 y.o.length c4) y wr.heap.size W7.heap.size]) (kRows m bn i) hi' (((E ++ [El.mk (y.b, .slice a3 y.r.length c3, .slice a4 y.o.length c4) y wr.heap.size W7.heap.size]).drop (i + 1)).map fun e => encQ e.q) false) := by
                rw [List.drop_append_of_le_length (by omega), List.map_append]
                exact hk11
              clear hk11 hg11 hch hcu j0 j1 j2 HK10 HO10 HQ10 HX10
              go_simp
              obtain ⟨⟨u, hu⟩, hfz, hst⟩ := row_write HO11.out hr HF.out HFA.out HYE.out HZ.out
              obtain ⟨cu, hcu⟩ := row_block HO11.out
              have HST := Lib.hid hst
              have HK12 := Lib.hid (HK11.out.write r (.int .i64 (E.length : Int)) hcu hlo hhi HA8.out)
              have HQ12 := Lib.hid (HQ11.out.other (a := ⟨zb, r, none⟩) (fun e => by have e2 : zb = qb := e; rw [e2, HQ11.out.row] at hcu; simp at hcu) (.int .i64 (E.length : Int)))
              clear hst HK11 HO11 HQ11 hcu
              go_wp2
              go_roundw
              case rel => exact ⟨r + 1, (Value.slice xa (E.length + 1) xc), E ++ [El.mk (y.b, .slice a3 y.r.length c3, .slice a4 y.o.length c4) y wr.heap.size W7.heap.size], by omega, by rw [List.length_append]; exact Nat.lt_of_lt_of_le hiE (Nat.le_add_right _ _), by rw [List.length_append, List.length_singleton]; exact hle41, by go_num, by show _ = _; rw [List.getElem?_append_left hiE]; exact HEL.out, HK12, by show _ = _; rw [HKN.out, List.map_append, HF.out]; rfl, HA8, HST, HQ12, HV10⟩
              case measure => simp [intOf]; omega
            · have hd2 : ((z : Int) == (E.length : Int)) = false := by simp; omega
              have hle := atQ_le (E.map El.s) y
              rw [← HZ.out, List.length_map] at hle
              have hadd := (addQ_old (F := E.map El.s) (y := y) (by rw [← HZ.out, List.length_map]; omega)).1
              rw [HF.out] at hadd
              rw [hadd] at HKN
              obtain ⟨⟨u, hu⟩, hfz, hst⟩ := row_write HO9.out hr HF.out HFA.out HYE.out HZ.out
              obtain ⟨cu, hcu⟩ := row_block HO9.out
              have HST := Lib.hid hst
              have HA9 : Hid (Avoid E zb) := fun e he => HA8.out e (List.mem_append_left _ he)
              have HK12 := Lib.hid (HK9.out.write r (.int .i64 (z : Int)) hcu hlo hhi HA9.out)
              have HQ12 := Lib.hid (HQ9.out.other (a := ⟨zb, r, none⟩) (fun e => by have e2 : zb = qb := e; rw [e2, HQ9.out.row] at hcu; simp at hcu) (.int .i64 (z : Int)))
              clear hst hle hadd hcu HK9 HO9 HQ9 HX9 HN9
              go_wp2
              go_roundw
              case rel => exact ⟨r + 1, _, E, by omega, hiE, hE40, by go_num, HEL, HK12, by show _ = _; rw [HKN.out]; exact HF.out, HA9, HST, HQ12, HVQ⟩
              case measure => simp [intOf]; omega
        case neg =>
          obtain rfl : bn = r := by omega
          obtain ⟨vna, vnc, hvn⟩ := HasRows.form HK.out.next
          rw [kRows_len] at hvn
          subst hvn
          have HU : Hid (Has (Value.int .i64) 3 wr hi' (.slice (some ⟨zb, 0, none⟩) bn bn) (kRow m bn i bn)) := by
            have h1 := HO.out
            rw [Nat.sub_self, List.replicate_zero, List.append_nil] at h1
            have h2 : Has (Value.int .i64) 3 wr zb (.slice (some ⟨zb, 0, none⟩) bn bn) (kRow m bn i bn) := by
              show wr.ownsRow _ _ _ _ _ _
              rw [kRow_len]
              exact h1
            exact h2.mono hhi
          have g0 := HK.out.ker.at_ (i := 0) rfl
          have g1 := HK.out.ker.at_ (i := 1) rfl
          have g2 := HK.out.ker.f
          go_upto_region 24 with (at_builtin; refine wpList_append_row3 rfl _ _ 22 rfl i2 Try.underlying22 hi2 hz20 hz21 hz22 (.slice vna i vnc) rfl HK.out.next (.slice (some ⟨zb, 0, none⟩) bn bn) (kRow m bn i bn) HU.out _ rfl (by first | rfl | simp) (by rw [kRows_len]; omega) ?_; intro v5 w5 ho5 hg5 hb5; obtain ⟨wna, wnc, hwn⟩ := HasRows.form ho5; rw [List.length_append, kRows_len, List.length_singleton] at hwn; subst hwn; have hk5 := HK.out.ker.grown hg5 HK.out.vn_ne_ker; have s0 := hk5.at_ (i := 1) rfl; have s1 := hk5.f)
          have hk10 := HK.out.put ho5 hg5 hb5
          rw [← kRows_succ] at hk10
          have HK10 := Lib.hid hk10
          obtain ⟨W10, hW10⟩ : ∃ W, W = w5.setCell ⟨kb, 1, none⟩ (.slice wna (i + 1) wnc) := ⟨_, rfl⟩
          rw [← hW10] at HK10 ⊢
          clear ho5 hg5 hb5 hk5 s0 s1 g0 g1 g2 hk10 hW10 HU
          have t0 := HK10.out.ker.at_ (i := 0) rfl
          have t1 := HK10.out.ker.at_ (i := 1) rfl
          have HFN : Hid (E.map El.s = kF m bn (bn * (i + 1))) := by rw [Nat.mul_succ]; exact HF
          obtain ⟨ma, mc, HM2⟩ := HM.out
          by_cases hc : i + 1 = E.length
          · have hd : (((i + 1 : Nat) : Int) == (E.length : Int)) = true := by simp; omega
            have hdn : E.drop (i + 1) = [] := List.drop_eq_nil_of_le (by omega)
            rw [hdn, List.map_nil] at HK10
            obtain ⟨s, r0, hch⟩ := HK10.out.chan
            have hcl := fun ats ty => run_close_open (P := Try.prog) (w := W10) ats ty hch
            have HK11 := Lib.hid (HK10.out.set [] #[] rfl true s r0)
            go_wp2
            go_roundw
            case rel => exact ⟨i + 1, _, _, _, E, by omega, hE40, by rw [decide_eq_true hc, hdn]; exact HK11, HFN⟩
            case measure =>
              have h5 := HK11.out.ker.at_ (i := 1) rfl
              have h6 : ∀ (x : Option Value) (n : Nat), (∃ a c, x = some (.slice a n c)) → (match x with | some (.slice _ n _) => 41 - n | _ => 0) = 41 - n := by
                rintro _ n ⟨a, c, rfl⟩
                rfl
              have h7 := h6 _ (i + 1) ⟨_, _, h5⟩
              have h8 := h6 _ i HM.out
              exact Nat.lt_of_le_of_lt (Nat.le_of_eq h7) (Nat.lt_of_lt_of_le (by omega) (Nat.le_of_eq h8.symm))
          · have hd : (((i + 1 : Nat) : Int) == (E.length : Int)) = false := by simp; omega
            go_wp2
            go_roundw
            case rel => exact ⟨i + 1, _, _, _, E, by omega, hE40, by rw [decide_eq_false hc]; exact HK10, HFN⟩
            case measure =>
              simp only [HM2, t1]
              omega
    · obtain rfl : i = E.length := by omega
      rw [decide_eq_true rfl, List.drop_eq_nil_of_le (Nat.le_refl _), List.map_nil] at HK
      have hl : (kF m bn (bn * E.length)).length = E.length := by rw [← HF.out, List.length_map]
      obtain ⟨h1, h2, h3⟩ := HYES.out (bn * E.length) (by rw [hl]) (by rw [hl]; exact hE40)
      rw [hl] at h2
      rw [← HF.out] at h1
      subst h1; subst h2; subst h3
      go_upto_region 8 with fail
      refine opsTo_region ?_
      refine ks_shut (.agg #[.int .i64 0, .slice none 0 0, .slice none 0 0]) HK.out rfl (by simp [Region.wanted]) (by simp [go_sem, rcase]) ?_
      refine opsTo_value (v := .bool false) (w' := wr) rfl (by simp [Region.wanted]) (by go_simp) ?_
      refine opsTo_end ?_
      go_simp
      obtain ⟨va, vc, hvf, _⟩ := HK.out.own.form
      obtain ⟨na, nc, hvn⟩ := HasRows.form HK.out.next
      rw [List.length_map] at hvf
      rw [kRows_len] at hvn
      subst hvf; subst hvn
      have g0 := HK.out.ker.at_ (i := 0) rfl
      have g1 := HK.out.ker.at_ (i := 1) rfl
      have z0 := HK.out.res.at_ (i := 0) rfl
      have z1 := HK.out.res.at_ (i := 1) rfl
      have z2 := HK.out.res.f
      go_wp2
      have hZ := (HK.out.res.set 0 (.slice va E.length vc)).set 1 (.slice na E.length nc)
      have n0 := hZ.at_ (i := 0) rfl
      have n1 := hZ.at_ (i := 1) rfl
      refine bodyPost_ret (v := .tuple #[.agg #[(.slice va E.length vc), (.slice na E.length nc)], .bool true]) (by simp [results, Try.results24, go_sem, n0, n1]) rfl ?_
      obtain ⟨d1, d2, d3, d4⟩ := HK.out.done (.slice va E.length vc) (.slice na E.length nc)
      exact ⟨_, _, E, rfl, d1, d2, rfl, ⟨w.heap.size + 2, _, by omega, d3⟩, d4⟩
theorem impl_search (v : Value) (b : Int) (rows : List (List Int)) (out : List Int) (w : World) (h : LiesS w v b rows out) (hs : rows.length + tot rows + out.length ≤ 1048576) :
    Calls Try.prog 24 #[v] w (GivesKS (kerV b rows out) (kerR b rows out) (kerK b rows out) w) := by
  cases hk : formK b rows out with
  | true => exact impl_ker_yes v b rows out w h hs hk
  | false =>
    have h2 : kerK b rows out = false := by rw [kerK, hk]; rfl
    have h1 : kerV b rows out = [] := by rw [kerV, h2]; simp
    have h3 : kerR b rows out = [] := by rw [kerR, h2]; simp
    rw [h1, h2, h3]
    exact impl_ker_no v b rows out w h hs hk
end Kern
end Go.Proofs.Ytgbgcaaekpgapac
/- Contract of the program's KernelOf. No conditions beyond those that it states. -/
namespace Go.Proofs.Ytgbgcaaekpgapac
open Go.ChangeShapes Go.WideShapes Go.ChangeAt Go.RowKit
open Go.PlainAid Plain
set_option linter.unusedVariables false
namespace Kern
open Seqs Mins
theorem impl_ker (v : Value) (b : Int) (rows : List (List Int)) (out : List Int) (w : World) (h : LiesS w v b rows out) (hs : rows.length + tot rows + out.length ≤ 1048576) :
    Calls Try.prog 8 #[v] w (GivesKer (kerV b rows out) (kerK b rows out) w) := by
  have HS := Lib.hid h
  obtain ⟨an, cn, ao, co, rfl⟩ := h.form
  clear h
  have HB : Hid (Below w.heap.size w (w.alloc (Obj.cells #[Value.int .i64 b, Value.slice an rows.length cn, Value.slice ao out.length co] 30))) := (Below.refl _ _).alloc (Nat.le_refl _) _
  have HC := Lib.hid (Cells3.new w 30 (.int .i64 b) (.slice an rows.length cn) (.slice ao out.length co))
  have HCK := Lib.hid (impl_search _ b rows out _ (HS.out.below HB.out) hs)
  obtain ⟨K, hK⟩ : ∃ x, x = kerK b rows out := ⟨_, rfl⟩
  obtain ⟨L, hL⟩ : ∃ x, x = kerV b rows out := ⟨_, rfl⟩
  obtain ⟨R, hR⟩ : ∃ x, x = kerR b rows out := ⟨_, rfl⟩
  rw [← hK, ← hL, ← hR] at HCK
  rw [← hK, ← hL]
  have k0 := HC.out.c0
  have k1 := HC.out.c1
  have k2 := HC.out.c2
  have HBS := Lib.hid HB.out.size
  clear hK hL hR hs
  go_enter Try.func8, Try.ntmps8
  go_wp2_with fail
  refine HCK.out.mono ?_
  rintro e w' ⟨vf, vn, E, rfl, ho, he, hm, ⟨lo, hi, _, hn⟩, hb⟩
  obtain ⟨a, c, rfl, _⟩ := ho.form
  obtain ⟨a', c', rfl⟩ := HasRows.form hn
  have hbx : Below w'.heap.size w' (w'.alloc (.cells #[.slice a (E.map El.q).length c, .slice a' R.length c'] 45)) := (Below.refl _ _).alloc (Nat.le_refl _) _
  have hx := CellsN.new w' 45 [.slice a (E.map El.q).length c, .slice a' R.length c']
  have HB2 := Lib.hid ((HB.out.trans (hb.mono HB.out.size)).trans (hbx.mono (HB.out.trans (hb.mono HB.out.size)).size))
  have HO2 := Lib.hid ((ho.below hbx).mono HBS.out)
  have HE2 := Lib.hid (he.below hbx)
  have HM := Lib.hid hm
  rw [List.length_map] at HB2 hx HO2 HE2 ⊢
  have x0 := hx.at_ (i := 0) rfl
  have x1 := hx.at_ (i := 1) rfl
  clear ho hm hb he hn k0 k1 k2 hbx hx
  go_wp2
  refine bodyPost_ret (v := .tuple #[.slice a E.length c, .bool K]) (by simp [results, Try.results8, go_sem]) rfl ?_
  exact ⟨_, E, rfl, HO2.out, ⟨fun e he => HE2.out.own e he, fun e he => ⟨Nat.le_trans HBS.out (HE2.out.lo e he).1, (HE2.out.lo e he).2⟩, HE2.out.pw⟩, HM.out, HB2.out⟩
end Kern
end Go.Proofs.Ytgbgcaaekpgapac
/- Contracts of KernelOf, of the program and of the model, as the law wants them. No conditions beyond those that each states. -/
namespace Go.Proofs.Ytgbgcaaekpgapac
open Go.ChangeShapes Go.WideShapes Go.ChangeAt Go.RowKit
open Go.PlainAid Plain
set_option linter.unusedVariables false
namespace Kern
open Seqs Mins
theorem good_size {b : Int} {q : Sq} (h : Good b q) : szQ q ≤ 100 := by
  have h1 := h.seq
  have h2 := tot_four (rows := q.r) fun r hr => by have := (h1.2.2.2.2.2.1 r hr).1; have := h1.2.1; omega
  have h3 := h1.2.2.2.1
  have h4 := h1.2.2.2.2.1
  unfold szQ
  omega
theorem totQ_le' {L : List Sq} (h : ∀ q ∈ L, szQ q ≤ 100) : totQ L ≤ L.length * 100 := by
  induction L with
  | nil => simp [totQ]
  | cons q L ih =>
    have h1 := ih fun x hx => h x (List.mem_cons_of_mem _ hx)
    have h2 := h q (List.mem_cons_self ..)
    have : totQ (q :: L) = szQ q + totQ L := by simp [totQ]
    rw [this, List.length_cons, Nat.add_mul]
    omega
theorem kerV_size (b : Int) (rows : List (List Int)) (out : List Int) : totQ (kerV b rows out) ≤ 4000 := by
  unfold kerV
  split
  · rename_i h
    rw [kerK, Bool.and_eq_true, decide_eq_true_eq] at h
    obtain ⟨hk, h40⟩ := h
    have hg := mini_good hk
    have hs := hg.seq
    have hb : 0 < b.toNat := by have := hs.1; have := hg.base; omega
    have hm : Good (b.toNat : Int) (mini b rows out) := ⟨by rw [hg.base]; have := hs.1; have := hg.base; omega, hg.steady⟩
    have h1 := totQ_le' (L := kerL (mini b rows out) b.toNat) fun q hq => good_size (kF_good hb hm _ q hq)
    have h2 : (kerL (mini b rows out) b.toNat).length * 100 ≤ 40 * 100 := Nat.mul_le_mul_right _ h40
    omega
  · simp [totQ]
theorem spec_kq (v : Value) (b : Int) (rows : List (List Int)) (out : List Int) (w : World) (h : LiesS w v b rows out) (hs : rows.length + tot rows + out.length ≤ 1048576) :
    Calls Try.prog 6 #[v] w (GivesQ (kerV b rows out) (kerK b rows out) w) := (spec_ker v b rows out w h hs).mono fun _ _ h => gives_q h
theorem impl_kq (v : Value) (b : Int) (rows : List (List Int)) (out : List Int) (w : World) (h : LiesS w v b rows out) (hs : rows.length + tot rows + out.length ≤ 1048576) :
    Calls Try.prog 8 #[v] w (GivesQ (kerV b rows out) (kerK b rows out) w) := (impl_ker v b rows out w h hs).mono fun _ _ h => gives_q h
end Kern
end Go.Proofs.Ytgbgcaaekpgapac
