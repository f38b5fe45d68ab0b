/- Several texts of this proof, one behind the other: each says ahead of it what it shows and under which conditions. -/
import Derived.Test.YtpndclpmhelikaaMM2
import Derived.BigQuiet
import Derived.Outline
import Derived.Deep.RegionHeld3
/- The drawing of a sequence with every state twice. No conditions beyond those that each states. -/
namespace Go.Proofs.Ytpndclpmhelikaa
open Go.ChangeShapes Go.WideShapes Go.ChangeAt Go.RowKit
open Go.PlainAid Plain
set_option linter.unusedVariables false
namespace Cursor
open Ints Digits
/-- A sequence of few states and short rows. -/
def SeqFew (rows : List (List Int)) (out : List Int) : Prop := rows.length ≤ 32 ∧ out.length ≤ 32 ∧ ∀ r ∈ rows, r.length ≤ 4
theorem SeqOk.few {rows : List (List Int)} {out : List Int} (h : SeqOk rows out) : SeqFew rows out := ⟨by have := h.2.1; omega, by have h1 := h.2.1; have h2 := h.2.2.1; omega, fun r hr => (h.2.2.2 r hr).2⟩
def FewSeq (w : World) (Q : World → Prop) (e : Ending) (w' : World) : Prop := ∃ v b rows out, SeqFew rows out ∧ e = .returned v ∧ OwnS w' w.heap.size w'.heap.size v b rows out ∧ Q w'
/-- What the source's cells hold, in any world where it stands. -/
theorem src_row {w : World} {lo hi : Nat} {an : Option Addr} {n cn : Nat} {us : List Value} {rows : List (List Int)} (h : OwnR w lo hi (.slice an n cn) us rows) {j : Nat} {r : List Int} (hr : rows[j]? = some r) (h0 : 0 < r.length) :
    ∃ g cc, us[j]? = some (.slice (some ⟨g, 0, none⟩) r.length cc) := by
  have hj := (List.getElem?_eq_some_iff.1 hr).1
  obtain ⟨u, hu⟩ : ∃ u, us[j]? = some u := ⟨_, List.getElem?_eq_getElem (by rw [h.rows.len]; exact hj)⟩
  obtain ⟨g, c, hg, _, _⟩ := own_at (h.rows.row j u r hu hr).has h0
  exact ⟨g, c, by rw [hu, hg]⟩
theorem src_top {w : World} {lo hi tq ts n cn : Nat} {us : List Value} {rows : List (List Int)} (h : OwnR w lo hi (.slice (some ⟨tq, ts, none⟩) n cn) us rows) {j : Nat} {u : Value} (hu : us[j]? = some u) : w.cell? ⟨tq, ts + j, none⟩ = some u := by
  obtain ⟨_, ta, tc, htv, _, hct⟩ := h.top.lies
  obtain ⟨q, s, h1, h2⟩ := hct j u hu
  injection htv with h3
  rw [h1] at h3
  injection h3 with h3
  injection h3 with h4 h5
  subst h4; subst h5
  exact h2
theorem src_an {w : World} {lo hi n cn : Nat} {an : Option Addr} {us : List Value} {rows : List (List Int)} (h : OwnR w lo hi (.slice an n cn) us rows) (h0 : 0 < us.length) : ∃ tq ts, an = some ⟨tq, ts, none⟩ := by
  obtain ⟨_, ta, tc, htv, _, hct⟩ := h.top.lies
  obtain ⟨q, s, h1, h2⟩ := hct 0 _ (List.getElem?_eq_getElem h0)
  injection htv with h3
  exact ⟨q, s, by rw [h3, h1]⟩
theorem src_cell {w : World} {lo hi g n cc : Nat} {us : List Value} {rows : List (List Int)} (h : OwnRows w lo hi us rows) {j k : Nat} {r : List Int} {y : Int} (hu : us[j]? = some (.slice (some ⟨g, 0, none⟩) n cc)) (hr : rows[j]? = some r) (hy : r[k]? = some y) : w.cell? ⟨g, k, none⟩ = some (.int .i64 y) := by
  have hI := h.row j _ r hu hr
  obtain ⟨a, c, hf, _⟩ := hI.has.form
  injection hf with _ h2 _
  subst h2
  have hO : w.ownsRow lo 3 1 (.slice (some ⟨g, 0, none⟩) r.length cc) r.length (r.map (Value.int .i64)) := hI.has
  have hk := (List.getElem?_eq_some_iff.1 hy).1
  rw [hO.cellAt k (by omega), List.getElem?_map, hy]
  rfl
theorem src_grown {w w' : World} {lo hi : Nat} {v vo : Value} {us : List Value} {rows : List (List Int)} {out : List Int} {r : Option Nat} (h : OwnR w lo hi v us rows ∧ OwnRows w lo hi (us ++ [vo]) (rows ++ [out])) (hg : w.grownBy w' r) (hr : ∀ k, r = some k → k < lo ∨ hi ≤ k) : OwnR w' lo hi v us rows ∧ OwnRows w' lo hi (us ++ [vo]) (rows ++ [out]) := by
  refine ⟨⟨h.1.top.grown hg ?_, h.1.lt, Nat.le_trans h.1.le hg.size, ⟨h.1.rows.len, fun i u r' a b => (h.1.rows.row i u r' a b).grown hg hr, h.1.rows.apart⟩⟩, ⟨h.2.len, fun i u r' a b => (h.2.row i u r' a b).grown hg hr, h.2.apart⟩⟩
  cases hv : v.ownBlock with
  | none => exact .inl rfl
  | some q =>
    refine .inr (fun e => ?_)
    have h1 := (h.1.top.lt q hv).1
    have h2 := h.1.lt q hv
    rcases hr q e.symm with h3 | h3 <;> omega
theorem src_out {w : World} {lo hi g n cc : Nat} {us : List Value} {rows : List (List Int)} {out : List Int} (h : OwnRows w lo hi (us ++ [.slice (some ⟨g, 0, none⟩) n cc]) (rows ++ [out])) {k : Nat} {y : Int} (hy : out[k]? = some y) : w.cell? ⟨g, k, none⟩ = some (.int .i64 y) := by
  have hI := h.last
  obtain ⟨a, c, hf, _⟩ := hI.has.form
  injection hf with _ h2 _
  subst h2
  have hO : w.ownsRow lo 3 1 (.slice (some ⟨g, 0, none⟩) out.length cc) out.length (out.map (Value.int .i64)) := hI.has
  have hk := (List.getElem?_eq_some_iff.1 hy).1
  rw [hO.cellAt k (by omega), List.getElem?_map, hy]
  rfl
set_option maxRecDepth 100000 in
set_option maxHeartbeats 4000000 in
theorem blown (W w : World) (c : Nat) (a : Option Addr) (len cap b n : Nat) (lo hi0 : Nat) (tq ts oq cn co : Nat) (us0 : List Value) (rows0 : List (List Int)) (out0 : List Int) (hb1 : 1 ≤ b) (hb4 : b ≤ 4) (hn : rows0.length = n) (hn1 : 1 ≤ n) (hn16 : n ≤ 16) (hw0 : ∀ r ∈ rows0, r.length = b) (ho0 : out0.length = n)
    (hr : OwnR w lo hi0 (.slice (some ⟨tq, ts, none⟩) n cn) us0 rows0) (ho : OwnRows w lo hi0 (us0 ++ [(.slice (some ⟨oq, 0, none⟩) n co)]) (rows0 ++ [out0])) (hlo : c < lo) (hlen : len ≤ 1048576) (hcode : CodeIs W W.heap.size a len) (hs : Stands W w c a len cap) :
    Calls Try.prog 62 #[.pointer (some ⟨c, 0, none⟩), .agg #[.int .i64 b, (.slice (some ⟨tq, ts, none⟩) n cn), (.slice (some ⟨oq, 0, none⟩) n co)]] w (FewSeq w (fun w' => w.grownBy w' (some c) ∧ CurIs w' c a len cap)) := by
  obtain ⟨i0, hi0', hz0, hz1, hz2⟩ := info_parts Ints.infoI
  obtain ⟨i2, hi2, hz20, hz21, hz22⟩ := info_parts Seqs.infoR
  have HB := Lib.hid (fun (w : World) (n : Int) (hn0 : 1 ≤ n) (hn1 : n ≤ 9223372036854775807) (hs : Stands W w c a len cap) => below W w c a len cap n hn0 hn1 hlen hcode hs)
  have hcw := hs.lt
  have hown := hs.own
  have hhi := hr.le
  have hbx : Below w.heap.size w (((w.alloc (Obj.cells #[Value.int .i64 (b : Int), .slice (some ⟨tq, ts, none⟩) n cn, .slice (some ⟨oq, 0, none⟩) n co] 27)).alloc (Obj.cells #[Value.int .i64 0, Value.slice none 0 0, Value.slice none 0 0] 27)).alloc (Obj.cells #[Value.int .i64 (b : Int), Value.slice none 0 0, Value.slice none 0 0] 27)) := (((Below.refl _ _).alloc (Nat.le_refl _) _).alloc (by simp only [size_alloc'] <;> omega) _).alloc (by simp only [size_alloc'] <;> omega) _
  have hC0 := ((Cells3.new w 27 (.int .i64 (b : Int)) (.slice (some ⟨tq, ts, none⟩) n cn) (.slice (some ⟨oq, 0, none⟩) n co)).alloc (Obj.cells #[Value.int .i64 0, Value.slice none 0 0, Value.slice none 0 0] 27)).alloc (Obj.cells #[Value.int .i64 (b : Int), Value.slice none 0 0, Value.slice none 0 0] 27)
  have hZ0 := (Cells3.new (w.alloc (Obj.cells #[Value.int .i64 (b : Int), .slice (some ⟨tq, ts, none⟩) n cn, .slice (some ⟨oq, 0, none⟩) n co] 27)) 27 (.int .i64 0) (.slice none 0 0) (.slice none 0 0)).alloc (Obj.cells #[Value.int .i64 (b : Int), Value.slice none 0 0, Value.slice none 0 0] 27)
  have hP := Cells3.new ((w.alloc (Obj.cells #[Value.int .i64 (b : Int), .slice (some ⟨tq, ts, none⟩) n cn, .slice (some ⟨oq, 0, none⟩) n co] 27)).alloc (Obj.cells #[Value.int .i64 0, Value.slice none 0 0, Value.slice none 0 0] 27)) 27 (.int .i64 (b : Int)) (.slice none 0 0) (.slice none 0 0)
  rw [size_alloc'] at hZ0
  rw [size_alloc', size_alloc'] at hP
  have HC := Lib.hid hC0
  have HZ := Lib.hid hZ0
  have HG : Hid (w.grownBy (((w.alloc (Obj.cells #[Value.int .i64 (b : Int), .slice (some ⟨tq, ts, none⟩) n cn, .slice (some ⟨oq, 0, none⟩) n co] 27)).alloc (Obj.cells #[Value.int .i64 0, Value.slice none 0 0, Value.slice none 0 0] 27)).alloc (Obj.cells #[Value.int .i64 (b : Int), Value.slice none 0 0, Value.slice none 0 0] 27)) (some c)) := grown_new (grown_new (grown_new (grown_self w c) _) _) _
  have HS := Lib.hid (((hs.alloc (Obj.cells #[Value.int .i64 (b : Int), .slice (some ⟨tq, ts, none⟩) n cn, .slice (some ⟨oq, 0, none⟩) n co] 27)).alloc (Obj.cells #[Value.int .i64 0, Value.slice none 0 0, Value.slice none 0 0] 27)).alloc (Obj.cells #[Value.int .i64 (b : Int), Value.slice none 0 0, Value.slice none 0 0] 27))
  have HSR : Hid (OwnR (((w.alloc (Obj.cells #[Value.int .i64 (b : Int), .slice (some ⟨tq, ts, none⟩) n cn, .slice (some ⟨oq, 0, none⟩) n co] 27)).alloc (Obj.cells #[Value.int .i64 0, Value.slice none 0 0, Value.slice none 0 0] 27)).alloc (Obj.cells #[Value.int .i64 (b : Int), Value.slice none 0 0, Value.slice none 0 0] 27)) lo hi0 (.slice (some ⟨tq, ts, none⟩) n cn) us0 rows0 ∧ OwnRows (((w.alloc (Obj.cells #[Value.int .i64 (b : Int), .slice (some ⟨tq, ts, none⟩) n cn, .slice (some ⟨oq, 0, none⟩) n co] 27)).alloc (Obj.cells #[Value.int .i64 0, Value.slice none 0 0, Value.slice none 0 0] 27)).alloc (Obj.cells #[Value.int .i64 (b : Int), Value.slice none 0 0, Value.slice none 0 0] 27)) lo hi0 (us0 ++ [(.slice (some ⟨oq, 0, none⟩) n co)]) (rows0 ++ [out0])) := ⟨hr.below hbx, ho.below hbx⟩
  have HM := Lib.hid (Making.start (eo := .slice none 0 0) (ed := []) (base := w.heap.size + 3) hP (World.ownsRow_nil _ _ _ _) (by rw [size_alloc', size_alloc', size_alloc']; exact Nat.le_refl _))
  have k0 := ((Cells3.new w 27 (.int .i64 (b : Int)) (.slice (some ⟨tq, ts, none⟩) n cn) (.slice (some ⟨oq, 0, none⟩) n co)).alloc (Obj.cells #[Value.int .i64 0, Value.slice none 0 0, Value.slice none 0 0] 27)).c0
  have k1 := HC.out.c1
  clear hcode hs hP hC0 hZ0 hbx hr ho
  obtain ⟨z, hz⟩ : ∃ z, z = w.heap.size + 1 := ⟨_, rfl⟩
  obtain ⟨p, hp⟩ : ∃ z, z = w.heap.size + 1 + 1 := ⟨_, rfl⟩
  obtain ⟨BB, hBB⟩ : ∃ z, z = w.heap.size + 3 := ⟨_, rfl⟩
  have HNUM := Lib.hid (show c < w.heap.size ∧ w.heap.size < z ∧ z < p ∧ p < BB ∧ W.heap.size ≤ c ∧ c < lo ∧ z = w.heap.size + 1 ∧ hi0 ≤ w.heap.size from by omega)
  rw [← hp, ← hBB] at HM
  rw [← hz] at HZ
  have HN := Lib.hid hn
  have HW0 := Lib.hid hw0
  have HO0 := Lib.hid ho0
  clear hcw hown hn hw0 ho0 hlo hhi
  go_enter Try.func62, Try.ntmps62
  go_wp2_with fail
  rw [← hp]
  clear hz hp hBB k0 k1
  go_loopw [7] (fun i' wr => ∃ (i : Nat) (vn vo : Value) (us : List Value) (rows : List (List Int)) (out : List Int) (hi : Nat), i ≤ 2 * n ∧ i' = .int .i64 i ∧ Hid (rows.length = i ∧ out.length = i ∧ ∀ r ∈ rows, r.length = b) ∧ Hid (Making wr BB hi p (b : Int) vn vo (.slice none 0 0) us rows out []) ∧ Hid (Cells3 wr z 27 (.int .i64 0) (.slice none 0 0) (.slice none 0 0)) ∧ Hid (Cells3 wr w.heap.size 27 (.int .i64 (b : Int)) (.slice (some ⟨tq, ts, none⟩) n cn) (.slice (some ⟨oq, 0, none⟩) n co)) ∧ Hid (OwnR wr lo hi0 (.slice (some ⟨tq, ts, none⟩) n cn) us0 rows0 ∧ OwnRows wr lo hi0 (us0 ++ [(.slice (some ⟨oq, 0, none⟩) n co)]) (rows0 ++ [out0])) ∧ Hid (w.grownBy wr (some c)) ∧ Hid (Stands W wr c a len cap)) (fun i' _ => 2 * n - (intOf i').toNat)
  case atStart => exact ⟨0, _, _, [], [], [], _, Nat.zero_le _, rfl, ⟨rfl, rfl, fun r hr => by cases hr⟩, HM, HZ, HC, HSR, HG, HS⟩
  case round =>
    clear HM HZ HC HSR HG HS
    obtain ⟨i, vn, vo, us, rows, out, hi, hin, rfl, hL, hM, hZ, hC, hSR, hG, hS⟩ := hrel
    obtain ⟨W6, rfl⟩ : ∃ W : World, W = wr := ⟨_, rfl⟩
    obtain ⟨na, nc, oa, oc, hvn, hvo⟩ := hM.out.form
    rw [hL.out.1] at hvn
    rw [hL.out.2.1] at hvo
    subst hvn; subst hvo
    by_cases hlt : i < 2 * n
    case neg =>
      obtain ⟨l, hl⟩ : ∃ l, l = i := ⟨_, rfl⟩
      have hlt2 : decide ((i : Int) < 2 * (n : Int)) = false := decide_eq_false (by omega)
      have HOK : Hid (SeqFew rows out) := ⟨by rw [hL.out.1]; omega, by rw [hL.out.2.1]; omega, fun q hq => by rw [hL.out.2.2 q hq]; exact hb4⟩
      have HBD := Lib.hid hM.out.building
      have HZ7 := Lib.hid (show Cells3 W6 (w.heap.size + 1) 27 (.int .i64 0) (.slice none 0 0) (.slice none 0 0) by have := hZ.out; rw [HNUM.out.2.2.2.2.2.2.1] at this; exact this)
      have HG7 := Lib.hid hG.out
      have HS7 := Lib.hid hS.out
      have hcb : w.heap.size + 1 < BB := by have := HNUM.out; omega
      have hcW : W.heap.size ≤ w.heap.size + 1 := by have := HNUM.out; omega
      have hcc : w.heap.size + 1 ≠ c := by have := HNUM.out; omega
      clear hM hZ hC hSR hG hS hl
      have HW := Lib.hid HBD.out.seq
      have m0 := HBD.out.cells.c0
      have m1 := HBD.out.cells.c1
      have m2 := HBD.out.cells.c2
      have z0 := HZ7.out.c0
      have z1 := HZ7.out.c1
      have z2 := HZ7.out.c2
      have z3 := HZ7.out.f
      clear HBD
      go_wp2
      have hZ3 := (((HZ7.out.set0 (.int .i64 (b : Int))).set1 (.slice na i nc)).set2 (.slice oa i oc))
      have n0 := hZ3.c0
      have n1 := hZ3.c1
      have n2 := hZ3.c2
      refine bodyPost_ret (v := .agg #[.int .i64 (b : Int), .slice na i nc, .slice oa i oc]) (by simp [results, Try.results62, go_sem, n0, n1, n2]) rfl ⟨_, (b : Int), _, _, HOK.out, rfl, ?_, ?_, ?_⟩
      · have T0 : Plain.Touch (w.heap.size + 1) (w.heap.size + 1 + 1) W6 (((W6.setCell ⟨w.heap.size + 1, 0, none⟩ (.int .i64 (b : Int))).setCell ⟨w.heap.size + 1, 1, none⟩ (.slice na i nc)).setCell ⟨w.heap.size + 1, 2, none⟩ (.slice oa i oc)) :=
          ((Plain.Touch.of_set _ (by show w.heap.size + 1 ≤ w.heap.size + 1; exact Nat.le_refl _) (by show w.heap.size + 1 < w.heap.size + 1 + 1; omega)).trans (Plain.Touch.of_set _ (by show w.heap.size + 1 ≤ w.heap.size + 1; exact Nat.le_refl _) (by show w.heap.size + 1 < w.heap.size + 1 + 1; omega))).trans (Plain.Touch.of_set _ (by show w.heap.size + 1 ≤ w.heap.size + 1; exact Nat.le_refl _) (by show w.heap.size + 1 < w.heap.size + 1 + 1; omega))
        have := (HW.out.touch T0 (.inr (by omega))).lower (show w.heap.size ≤ BB by omega)
        simpa only [size_setCell'] using this
      · exact grown_set (grown_set (grown_set HG7.out (Nat.le_succ _) _) (Nat.le_succ _) _) (Nat.le_succ _) _
      · exact (((HS7.out.other (Cursor.grown_setCell _ (w.heap.size + 1) 0 _) (fun k hk => by cases hk; exact ⟨hcc, hcW⟩)).other (Cursor.grown_setCell _ (w.heap.size + 1) 1 _) (fun k hk => by cases hk; exact ⟨hcc, hcW⟩)).other (Cursor.grown_setCell _ (w.heap.size + 1) 2 _) (fun k hk => by cases hk; exact ⟨hcc, hcW⟩)).cur
    case pos =>
      have hlt2 : decide ((i : Int) < 2 * (n : Int)) = true := decide_eq_true (by omega)
      have hb7 : Below W6.heap.size W6 (W6.alloc (.cells #[] 3)) := (Below.refl _ _).alloc (Nat.le_refl _) _
      have hRG : Hid (Rowing (W6.alloc (.cells #[] 3)) BB (W6.alloc (.cells #[] 3)).heap.size p (b : Int) (.slice na i nc) (.slice oa i oc) (.slice none 0 0) (.slice (some ⟨W6.heap.size, 0, none⟩) 0 0) us rows out [] []) :=
        hM.out.begin hb7 (has_lit0 (enc := Value.int .i64) rfl (Nat.le_refl _))
      have hZ7 := Lib.hid (hZ.out.below hb7)
      have hC7 := Lib.hid (hC.out.below hb7)
      have hSR7 : Hid (OwnR (W6.alloc (.cells #[] 3)) lo hi0 (.slice (some ⟨tq, ts, none⟩) n cn) us0 rows0 ∧ OwnRows (W6.alloc (.cells #[] 3)) lo hi0 (us0 ++ [(.slice (some ⟨oq, 0, none⟩) n co)]) (rows0 ++ [out0])) := ⟨hSR.out.1.below hb7, hSR.out.2.below hb7⟩
      have hG7 := Lib.hid (grown_new hG.out (.cells #[] 3))
      have hS7 := Lib.hid (hS.out.alloc (.cells #[] 3))
      clear hM hZ hC hSR hG hS hb7
      go_wp2_with fail
      go_loopw [8, 9] (fun r' k' wr => ∃ (k : Nat) (r : List Int) (hi' : Nat), k ≤ b ∧ k' = .int .i64 k ∧ Hid (r.length = k) ∧ Hid (Rowing wr BB hi' p (b : Int) (.slice na i nc) (.slice oa i oc) (.slice none 0 0) r' us rows out [] r) ∧ Hid (Cells3 wr z 27 (.int .i64 0) (.slice none 0 0) (.slice none 0 0)) ∧ Hid (Cells3 wr w.heap.size 27 (.int .i64 (b : Int)) (.slice (some ⟨tq, ts, none⟩) n cn) (.slice (some ⟨oq, 0, none⟩) n co)) ∧ Hid (OwnR wr lo hi0 (.slice (some ⟨tq, ts, none⟩) n cn) us0 rows0 ∧ OwnRows wr lo hi0 (us0 ++ [(.slice (some ⟨oq, 0, none⟩) n co)]) (rows0 ++ [out0])) ∧ Hid (w.grownBy wr (some c)) ∧ Hid (Stands W wr c a len cap)) (fun _ k' _ => b - (intOf k').toNat)
      case atStart => exact ⟨0, [], _, Nat.zero_le _, rfl, rfl, hRG, hZ7, hC7, hSR7, hG7, hS7⟩
      case round =>
        clear hRG hZ7 hC7 hSR7 hG7 hS7
        obtain ⟨k, r, hi', hkb, rfl, hRL, hRG, hZ, hC, hSR, hG, hS⟩ := hrel
        obtain ⟨W8, rfl⟩ : ∃ W : World, W = wr := ⟨_, rfl⟩
        obtain ⟨ra, rc, hr9, _⟩ := hRG.out.row_.has.form
        rw [hRL.out] at hr9
        subst hr9
        have b0 := hC.out.c0
        have b1 := hC.out.c1
        by_cases hlk : k < b
        case pos =>
          obtain ⟨j, hj⟩ : ∃ j, j = i % n := ⟨_, rfl⟩
          have hjn : j < n := by rw [hj]; exact Nat.mod_lt _ (by omega)
          have htm : ((i : Int)).tmod (n : Int) = (j : Int) := by rw [hj]; exact (Int.ofNat_tmod i n).symm
          obtain ⟨r0, hr0⟩ : ∃ r, rows0[j]? = some r := ⟨_, List.getElem?_eq_getElem (by rw [HN.out]; exact hjn)⟩
          have hl0 := HW0.out r0 (List.mem_of_getElem? hr0)
          obtain ⟨y, hy⟩ : ∃ y, r0[k]? = some y := ⟨_, List.getElem?_eq_getElem (by omega)⟩
          obtain ⟨g, cc, hu0⟩ := src_row hSR.out.1 hr0 (by omega)
          rw [hl0] at hu0
          have HU0 := Lib.hid hu0
          have HR0 := Lib.hid hr0
          have HY0 := Lib.hid hy
          have y1 := src_top hSR.out.1 hu0
          have y2 := src_cell hSR.out.1.rows hu0 hr0 hy
          have hn0 : (n : Int) ≠ 0 := by omega
          have hnn : n ≠ 0 := by omega
          have hj0 : (0 : Int) ≤ (j : Int) := Int.natCast_nonneg _
          have hjn2 : (j : Int) < (n : Int) := by omega
          have hkb2 : (k : Int) < (b : Int) := by omega
          have HCC : Hid (c < BB ∧ c ≠ p ∧ c ≠ z ∧ c ≠ w.heap.size ∧ c < lo) := by have := HNUM.out; exact ⟨by omega, by omega, by omega, by omega, by omega⟩
          clear hj hr0 hl0 hy hu0
          go_wp2_with fail
          go_region_law (first
            | (go_simp; go_at_call 44; (with_reducible refine (HB.out _ 2 (by decide) (by decide) hS.out.drew).mono ?_); rintro e W9 ⟨x1, ⟨hx0, hx1⟩, rfl, g1, c1'⟩; have G1 := Lib.hid (Plain.grown_drew g1); have HR9 := Lib.hid (hRG.out.moved G1.out HCC.out.1 HCC.out.2.1); have HS9 := Lib.hid (hS.out.drew.next g1 c1'); have HC9 := Lib.hid (hC.out.grown G1.out (fun e => HCC.out.2.2.2.1 (Option.some.inj e))); have HSR9 : Hid (OwnR W9 lo hi0 (.slice (some ⟨tq, ts, none⟩) n cn) us0 rows0 ∧ OwnRows W9 lo hi0 (us0 ++ [(.slice (some ⟨oq, 0, none⟩) n co)]) (rows0 ++ [out0])) := ⟨⟨hSR.out.1.top.moved G1.out HCC.out.2.2.2.2, hSR.out.1.lt, Nat.le_trans hSR.out.1.le G1.out.size, hSR.out.1.rows.moved G1.out HCC.out.2.2.2.2⟩, hSR.out.2.moved G1.out HCC.out.2.2.2.2⟩; have d1 := HC9.out.c1; have y3 := src_top HSR9.out.1 HU0.out; have y4 := src_cell HSR9.out.1.rows HU0.out HR0.out HY0.out)
            | (refine step_append_at_list (enc := Value.int .i64) (e := 3) rfl (.tmp 29) (.tmp 45) 25 rfl BB i0 (.int .i64 0) 8 Try.underlying25 hi0' hz0 hz1 hz2 rfl (.slice ra k rc) r rfl (by repeat (first | with_reducible exact HR9.out.row_.has | with_reducible apply has_drew | with_reducible apply has_alloc)) (Value.slice (some ⟨_, 0, none⟩) 1 1) [_] rfl (by repeat (first | with_reducible apply lies_drew | (with_reducible refine lies_lit1 (enc := Value.int .i64) _ rfl) | with_reducible apply lies_alloc)) (fun _ _ => rfl) (by rw [hRL.out]; simp only [List.length_cons, List.length_nil]; omega) (by rw [hRL.out]; simp only [List.length_cons, List.length_nil]; omega) (by have := Nat.le_trans HR9.out.lo HR9.out.le; simp; omega) ?_; intro vt w6 ho6 hg6 hb6; have hg7 := grown_alloc hg6))
          all_goals
            have HR10 := Lib.hid (HR9.out.grow ho6 hg7 (fun k hk => (hb6 k hk).imp id (fun h => by simp at h; omega)))
            have hlb : ∀ k', (Value.slice ra k rc).ownBlock = some k' → BB ≤ k' := fun k' hk => (HR9.out.row_.has.lt k' hk).1
            have HZ10 := Lib.hid ((hZ.out.grown G1.out (fun e => HCC.out.2.2.1 (Option.some.inj e))).grown hg7 (has_ne_c3 HR9.out.row_.has (hZ.out.grown G1.out (fun e => HCC.out.2.2.1 (Option.some.inj e))) (by decide)))
            have HC10 := Lib.hid (HC9.out.grown hg7 (has_ne_c3 HR9.out.row_.has HC9.out (by decide)))
            have HSR10 := Lib.hid (src_grown HSR9.out hg7 (fun k hk => .inr (by have := hlb k hk; have := HNUM.out; omega)))
            have HG10 := Lib.hid (grown_more (grown_more hG.out G1.out (fun k hk => .inl (Option.some.inj hk).symm)) hg7 (fun k hk => .inr (by have := hlb k hk; have := HNUM.out; omega)))
            have HS10 := Lib.hid (HS9.out.other hg7 (fun k hk => by have := hlb k hk; have := HNUM.out; omega))
            obtain ⟨xx, hxx⟩ : ∃ xx, xx = IntKind.i64.wrap (y + IntKind.i64.wrap ((n : Int) * x1)) := ⟨_, rfl⟩
            rw [← hxx] at HR10
            have HRL : Hid ((r ++ [xx]).length = k + 1) := by show _ = _; rw [List.length_append, hRL.out]; rfl
            clear ho6 hb6 hg6 hg7 d1 y1 y2 y3 y4 HR9 HC9 HSR9 HS9 G1 g1 c1' hlb hxx hRG hZ hC hSR hG hS hx0 hx1 htm hjn hj0 hjn2 hn0 HU0 HR0 HY0 b0 b1
            go_wp2
            go_roundw
            case rel => exact ⟨k + 1, r ++ [xx], w6.heap.size, by omega, by go_num, HRL, HR10, HZ10, HC10, HSR10, HG10, HS10⟩
            case measure => simp [intOf]; omega
        case neg =>
          obtain rfl : b = k := by omega
          have d1 := hRG.out.cells.c1
          have d2 := (hRG.out.cells.alloc (.cells #[Value.slice ra b rc] 25)).c1
          have hpl := hRG.out.cells.lt
          have HNP := Lib.hid (has_ne_c3 hRG.out.top hRG.out.cells (by decide))
          have HNZ := Lib.hid (has_ne_c3 hRG.out.top hZ.out (by decide))
          have HNC := Lib.hid (has_ne_c3 hRG.out.top hC.out (by decide))
          have HLO8 := Lib.hid (show BB ≤ W8.heap.size from Nat.le_trans hRG.out.lo hRG.out.le)
          have HUL : Hid (us.length = i) := by show _ = _; rw [hRG.out.len, hL.out.1]
          go_wp2_with (at_builtin; refine wpList_append_list (enc := id) (e := 25) rfl (.tmp 48) (.tmp 50) 24 rfl BB i2 (.slice none 0 0) 24 Try.underlying24 hi2 hz20 hz21 hz22 rfl (.slice na i nc) us rfl (has_alloc hRG.out.top _) (.slice (some ⟨W8.heap.size, 0, none⟩) 1 1) [.slice ra b rc] rfl (lies_lit1v _ rfl) (fun y hy => by simp at hy; subst hy; rfl) (by rw [HUL.out]; simp only [List.length_cons, List.length_nil]; omega) (by rw [HUL.out]; simp only [List.length_cons, List.length_nil]; omega) (by have := HLO8.out; simp; omega) ?_; intro v' w2 hv' hg2 _; obtain ⟨a3, c3, hvf, _⟩ := hv'.form; rw [show (us ++ [Value.slice ra b rc]).length = i + 1 from by rw [List.length_append, HUL.out]; rfl] at hvf; subst hvf; have hg3 := grown_alloc hg2; have hc2 := hRG.out.cells.grown hg3 HNP.out; have d3 := hc2.c1; have df := hc2.f)
          obtain ⟨l3, hl3⟩ : ∃ l, l = i + 1 := ⟨_, rfl⟩
          rw [← hl3] at hv' ⊢
          have HM5 := Lib.hid (hRG.out.done hv' hg3)
          have hne1 : (p : Nat) ≠ z := by have := HNUM.out; omega
          have hne2 : (p : Nat) ≠ w.heap.size := by have := HNUM.out; omega
          have HZ5 := Lib.hid ((hZ.out.grown hg3 HNZ.out).other (a := ⟨p, 1, none⟩) hne1 (.slice a3 l3 c3))
          have HC5 := Lib.hid ((hC.out.grown hg3 HNC.out).other (a := ⟨p, 1, none⟩) hne2 (.slice a3 l3 c3))
          have HSR5 : Hid (OwnR (w2.setCell ⟨p, 1, none⟩ (.slice a3 l3 c3)) lo hi0 (.slice (some ⟨tq, ts, none⟩) n cn) us0 rows0 ∧ OwnRows (w2.setCell ⟨p, 1, none⟩ (.slice a3 l3 c3)) lo hi0 (us0 ++ [(.slice (some ⟨oq, 0, none⟩) n co)]) (rows0 ++ [out0])) := src_grown (src_grown hSR.out hg3 (fun k hk => .inr (by have := (hRG.out.top.lt k hk).1; have := HNUM.out; omega))) (Cursor.grown_setCell w2 p 1 _) (fun k hk => .inr (by cases hk; have := HNUM.out; omega))
          have hg5 := grown_more hG.out hg3 (fun k hk => .inr (by have := (hRG.out.top.lt k hk).1; have := HNUM.out; omega))
          have HG5 : Hid (w.grownBy (w2.setCell ⟨p, 1, none⟩ (.slice a3 l3 c3)) (some c)) := grown_set hg5 (by have := HNUM.out; omega) _
          have hs5 := hS.out.other hg3 (fun k hk => by have := (hRG.out.top.lt k hk).1; have := HNUM.out; omega)
          have HS5 : Hid (Stands W (w2.setCell ⟨p, 1, none⟩ (.slice a3 l3 c3)) c a len cap) := hs5.other (Cursor.grown_setCell w2 p 1 _) (fun k hk => by cases hk; have := HNUM.out; omega)
          have HG6 : Hid (BB ≤ (w2.setCell ⟨p, 1, none⟩ (.slice a3 l3 c3)).heap.size) := by show _ ≤ _; rw [size_setCell']; exact Nat.le_trans HLO8.out hg3.size
          obtain ⟨W5, hW5⟩ : ∃ W, W = w2.setCell ⟨p, 1, none⟩ (.slice a3 l3 c3) := ⟨_, rfl⟩
          rw [← hW5] at HM5 HZ5 HC5 HSR5 HG5 HS5 HG6 ⊢
          have HW5 := Lib.hid (show w2.heap.size = W5.heap.size by rw [hW5, size_setCell'])
          rw [HW5.out] at HM5
          clear hv' hg2 hg3 hc2 d1 d2 d3 df hpl hRG hZ hC hSR hG hS hW5 hl3 HNP HNZ HNC HLO8 HW5 hs5 hg5 b0 b1
          obtain ⟨j, hj⟩ : ∃ j, j = i % n := ⟨_, rfl⟩
          have hjn : j < n := by rw [hj]; exact Nat.mod_lt _ (by omega)
          have htm : ((i : Int)).tmod (n : Int) = (j : Int) := by rw [hj]; exact (Int.ofNat_tmod i n).symm
          obtain ⟨y, hy⟩ : ∃ y, out0[j]? = some y := ⟨_, List.getElem?_eq_getElem (by rw [HO0.out]; exact hjn)⟩
          have y1 := src_out HSR5.out.2 hy
          have hnn : n ≠ 0 := by omega
          have hj0 : (0 : Int) ≤ (j : Int) := Int.natCast_nonneg _
          have hjn2 : (j : Int) < (n : Int) := by omega
          have b2 := HC5.out.c2
          have HVO := Lib.hid HM5.out.terms
          have HNO := Lib.hid (has_ne_c3 HVO.out.has HM5.out.cells (by decide))
          have HNZ := Lib.hid (has_ne_c3 HVO.out.has HZ5.out (by decide))
          have HNC := Lib.hid (has_ne_c3 HVO.out.has HC5.out (by decide))
          have d1 := HM5.out.cells.c2
          have d2 := (HM5.out.cells.alloc (.cells #[Value.int .i64 y] 3)).c2
          have hpl := HM5.out.cells.lt
          clear hj hy
          go_region_law ((refine step_append_at_list (enc := Value.int .i64) (e := 3) rfl (.tmp 54) (.tmp 62) 25 rfl BB i0 (.int .i64 0) 8 Try.underlying25 hi0' hz0 hz1 hz2 rfl (.slice oa i oc) out rfl (by repeat (first | with_reducible exact HVO.out.has | with_reducible apply has_drew | with_reducible apply has_alloc)) (Value.slice (some ⟨_, 0, none⟩) 1 1) [y] rfl (by repeat (first | with_reducible apply lies_drew | (with_reducible refine lies_lit1 (enc := Value.int .i64) _ rfl) | with_reducible apply lies_alloc)) (fun _ _ => rfl) (by rw [hL.out.2.1]; simp only [List.length_cons, List.length_nil]; omega) (by rw [hL.out.2.1]; simp only [List.length_cons, List.length_nil]; omega) (by have := HG6.out; simp; omega) ?_; intro vt w6 ho6 hg6 hb6; obtain ⟨a6, c6, hvf, _⟩ := ho6.form; rw [show (out ++ [y]).length = i + 1 from by rw [List.length_append, hL.out.2.1]; rfl] at hvf; subst hvf; refine with_fact (T := W5.grownBy w6 (Value.slice oa i oc).ownBlock) ?_ ?_; (focus (exact grown_alloc (Plain.grown_drew hg6))); intro hg7; have hc7 := HM5.out.cells.grown hg7 HNO.out; have r1 := hc7.c2; have r3 := hc7.f))
          all_goals
            have HM8 := Lib.hid (HM5.out.term ho6 hg7 (fun k hk => (hb6 k hk).imp id (fun h => by simp at h; omega)))
            have HZ8 := Lib.hid ((HZ5.out.grown hg7 HNZ.out).other (a := ⟨p, 2, none⟩) hne1 (.slice a6 (i + 1) c6))
            have HC8 := Lib.hid ((HC5.out.grown hg7 HNC.out).other (a := ⟨p, 2, none⟩) hne2 (.slice a6 (i + 1) c6))
            have HSR8 : Hid (OwnR (w6.setCell ⟨p, 2, none⟩ (.slice a6 (i + 1) c6)) lo hi0 (.slice (some ⟨tq, ts, none⟩) n cn) us0 rows0 ∧ OwnRows (w6.setCell ⟨p, 2, none⟩ (.slice a6 (i + 1) c6)) lo hi0 (us0 ++ [(.slice (some ⟨oq, 0, none⟩) n co)]) (rows0 ++ [out0])) := src_grown (src_grown HSR5.out hg7 (fun k hk => .inr (by have := (HVO.out.has.lt k hk).1; have := HNUM.out; omega))) (Cursor.grown_setCell w6 p 2 _) (fun k hk => .inr (by cases hk; have := HNUM.out; omega))
            have hg8 := grown_more HG5.out hg7 (fun k hk => .inr (by have := (HVO.out.has.lt k hk).1; have := HNUM.out; omega))
            have HG8 : Hid (w.grownBy (w6.setCell ⟨p, 2, none⟩ (.slice a6 (i + 1) c6)) (some c)) := grown_set hg8 (by have := HNUM.out; omega) _
            have hs8 := HS5.out.other hg7 (fun k hk => by have := (HVO.out.has.lt k hk).1; have := HNUM.out; omega)
            have HS8 : Hid (Stands W (w6.setCell ⟨p, 2, none⟩ (.slice a6 (i + 1) c6)) c a len cap) := hs8.other (Cursor.grown_setCell w6 p 2 _) (fun k hk => by cases hk; have := HNUM.out; omega)
            have HL8 : Hid ((rows ++ [r]).length = i + 1 ∧ (out ++ [y]).length = i + 1 ∧ ∀ q ∈ rows ++ [r], q.length = b) := by
              refine ⟨by rw [List.length_append, hL.out.1]; rfl, by rw [List.length_append, hL.out.2.1]; rfl, fun q hq => ?_⟩
              rcases List.mem_append.1 hq with h1 | h1
              · exact hL.out.2.2 q h1
              · rw [List.mem_singleton.1 h1]; exact hRL.out
            clear ho6 hb6 hg6 hg7 hc7 r1 r3 d1 d2 y1 b2 hpl HM5 HVO HNO HNZ HNC HZ5 HC5 HSR5 HG5 HS5 hg8 hs8 htm hjn hj0 hjn2
            go_wp2
            go_roundw
            case rel => exact ⟨i + 1, _, _, _, _, _, w6.heap.size, by omega, by go_num, HL8, HM8, HZ8, HC8, HSR8, HG8, HS8⟩
            case measure => simp [intOf]; omega
end Cursor
end Go.Proofs.Ytpndclpmhelikaa
/- The drawing of two sequences. No conditions beyond those that each states. -/
namespace Go.Proofs.Ytpndclpmhelikaa
open Go.ChangeShapes Go.WideShapes Go.ChangeAt Go.RowKit
open Go.PlainAid Plain
set_option linter.unusedVariables false
namespace Cursor
open Ints Digits
theorem blownS (W w : World) (c : Nat) (a : Option Addr) (len cap lo hi0 : Nat) (b : Int) (an ao : Option Addr) (cn co : Nat) (rows : List (List Int)) (out : List Int) (h : OwnS w lo hi0 (.agg #[.int .i64 b, .slice an rows.length cn, .slice ao out.length co]) b rows out) (hq : seqB b rows out = true) (hlo : c < lo) (hlen : len ≤ 1048576) (hcode : CodeIs W W.heap.size a len) (hs : Stands W w c a len cap) :
    Calls Try.prog 62 #[.pointer (some ⟨c, 0, none⟩), .agg #[.int .i64 b, .slice an rows.length cn, .slice ao out.length co]] w (FewSeq w (fun w' => w.grownBy w' (some c) ∧ CurIs w' c a len cap)) := by
  obtain ⟨h1, h2, h3, h4, h5, h6, _⟩ := seqB_out hq
  obtain ⟨bn, rfl⟩ := Int.eq_ofNat_of_zero_le (show 0 ≤ b by omega)
  obtain ⟨vn, vo, us, hv, hr, ho⟩ := h
  simp at hv
  obtain ⟨rfl, rfl⟩ := hv
  obtain ⟨tq, ts, rfl⟩ := src_an hr (by rw [hr.rows.len]; omega)
  obtain ⟨g, cc, hg, _, _⟩ := own_at ho.last.has (by omega)
  injection hg with e1 _ e3
  subst e1; subst e3
  obtain ⟨n, hn⟩ : ∃ n, n = rows.length := ⟨_, rfl⟩
  rw [h5] at ho ⊢
  rw [← hn] at ho hr h3 h4 h5 ⊢
  exact blown W w c a len cap bn n lo hi0 tq ts g cn co us rows out (by omega) (by omega) hn.symm h3 h4 (fun r hr => by have := (h6 r hr).1; omega) h5 hr ho hlo hlen hcode hs
/-- Two sequences of few states, each the call's own. -/
def TwoSeq (w : World) (e : Ending) (w' : World) : Prop := ∃ v1 b1 rows1 out1 v2 b2 rows2 out2, SeqFew rows1 out1 ∧ SeqFew rows2 out2 ∧ e = .returned (.tuple #[v1, v2]) ∧ OwnS w' w.heap.size w'.heap.size v1 b1 rows1 out1 ∧ OwnS w' w.heap.size w'.heap.size v2 b2 rows2 out2 ∧ Below w.heap.size w w'
theorem SomeSeq.few {w : World} {Q : World → Prop} {e : Ending} {w' : World} (h : SomeSeq w Q e w') : FewSeq w Q e w' := by
  obtain ⟨v, b, rows, out, hok, r⟩ := h
  exact ⟨v, b, rows, out, hok.few, r⟩
set_option maxHeartbeats 2000000 in
theorem two (w : World) (a : Option Addr) (len cap : Nat) (hlen : len ≤ 1048576) (hcode : CodeIs w w.heap.size a len) :
    Calls Try.prog 38 #[.slice a len cap] w (TwoSeq w) := by
  have hb1 : Below w.heap.size w ((w.alloc (Obj.cells #[Value.int .i64 0, Value.slice none 0 0, Value.slice none 0 0] 27)).alloc (Obj.cells #[Value.int .i64 0, Value.slice none 0 0, Value.slice none 0 0] 27)) := ((Below.refl _ _).alloc (Nat.le_refl _) _).alloc (by simp only [size_alloc'] <;> omega) _
  have HN := Lib.hid (new w ((w.alloc (Obj.cells #[Value.int .i64 0, Value.slice none 0 0, Value.slice none 0 0] 27)).alloc (Obj.cells #[Value.int .i64 0, Value.slice none 0 0, Value.slice none 0 0] 27)) a len cap hlen hcode hb1)
  have HO := Lib.hid (fun (W : World) (c : Nat) (hs : Stands w W c a len cap) => once w W c a len cap 2 (by decide) (by decide) hlen hcode hs)
  have HA := Lib.hid (fun (W : World) (c : Nat) (hs : Stands w W c a len cap) => any3 w W c a len cap hlen hcode hs)
  have HBL := Lib.hid (fun (W : World) (c lo hi0 : Nat) (b : Int) (an ao : Option Addr) (cn co : Nat) (rows : List (List Int)) (out : List Int) (h : OwnS W lo hi0 (.agg #[.int .i64 b, .slice an rows.length cn, .slice ao out.length co]) b rows out) (hq : seqB b rows out = true) (hlo : c < lo) (hs : Stands w W c a len cap) => blownS w W c a len cap lo hi0 b an ao cn co rows out h hq hlo hlen hcode hs)
  have HB1 := Lib.hid hb1
  have HY1 := Lib.hid ((Cells3.new w 27 (.int .i64 0) (.slice none 0 0) (.slice none 0 0)).alloc (Obj.cells #[Value.int .i64 0, Value.slice none 0 0, Value.slice none 0 0] 27))
  have hz1 := Cells3.new (w.alloc (Obj.cells #[Value.int .i64 0, Value.slice none 0 0, Value.slice none 0 0] 27)) 27 (.int .i64 0) (.slice none 0 0) (.slice none 0 0)
  rw [size_alloc'] at hz1
  have HZ1 := Lib.hid hz1
  clear hcode hb1 hz1
  go_enter Try.func38, Try.ntmps38
  go_wp2_with fail
  refine HN.out.mono ?_
  rintro e w1 ⟨c, rfl, hc, g1, c1⟩
  rw [size_alloc', size_alloc'] at hc
  have HS1 : Hid (Stands w w1 c a len cap) := ⟨HB1.out.trans ((Below.refl _ _).grown g1 (Nat.le_refl _) (fun k hk => by cases hk) |>.mono HB1.out.size), by omega, c1⟩
  have HY2 := Lib.hid (HY1.out.grown g1 (by simp))
  have HZ2 := Lib.hid (HZ1.out.grown g1 (by simp))
  have hcw : w.heap.size + 2 ≤ c := hc
  clear HN HB1 HZ1 HY1 g1 c1 hc
  go_wp2_with fail
  refine (HA.out _ _ HS1.out).mono ?_
  rintro e w2 ⟨v, b, rows, out, hok, rfl, hv, g2, c2⟩
  obtain ⟨an, cn, ao, co, rfl⟩ := hv.form
  have HOK := Lib.hid hok.few
  have HC1 := Lib.hid HS1.out.lt
  have HV := Lib.hid (hv.below ((Below.refl w2.heap.size w2).alloc (Nat.le_refl _) (Obj.cells #[Value.int .i64 b, .slice an rows.length cn, .slice ao out.length co] 27)))
  have HX := Lib.hid (Cells3.new w2 27 (.int .i64 b) (.slice an rows.length cn) (.slice ao out.length co))
  have HS2 := Lib.hid ((HS1.out.next g2 c2).alloc (Obj.cells #[Value.int .i64 b, .slice an rows.length cn, .slice ao out.length co] 27))
  have HY3 := Lib.hid ((HY2.out.grown g2 (by simp; omega)).alloc (Obj.cells #[Value.int .i64 b, .slice an rows.length cn, .slice ao out.length co] 27))
  have HZ3 := Lib.hid ((HZ2.out.grown g2 (by simp; omega)).alloc (Obj.cells #[Value.int .i64 b, .slice an rows.length cn, .slice ao out.length co] 27))
  have HCQ := Lib.hid (show c < w2.heap.size from (HS1.out.next g2 c2).lt)
  clear HS1 HY2 HZ2 g2 c2 hok hv
  have x0 := HX.out.c0
  have x1 := HX.out.c1
  have x2 := HX.out.c2
  obtain ⟨q, hq⟩ : ∃ q, q = w2.heap.size := ⟨_, rfl⟩
  obtain ⟨W3, hW3⟩ : ∃ W, W = w2.alloc (Obj.cells #[Value.int .i64 b, .slice an rows.length cn, .slice ao out.length co] 27) := ⟨_, rfl⟩
  go_wp2_with fail
  rw [← hW3] at HV HX HS2 HY3 HZ3 x0 x1 x2 ⊢
  rw [← hq] at HX HCQ x0 x1 x2 HV ⊢
  clear hW3 hq
  refine (Seqs.spec_is _ b rows out _ HV.out.lies).mono ?_
  rintro e W4 ⟨rfl, b4⟩
  have HV4 := Lib.hid (HV.out.below b4)
  have HX4 := Lib.hid (HX.out.below b4)
  have HS4 := Lib.hid (HS2.out.other (grown_of_below b4) (fun k hk => by cases hk))
  have HY4 := Lib.hid (HY3.out.below b4)
  have HZ4 := Lib.hid (HZ3.out.below b4)
  clear HV HX HS2 HY3 HZ3 b4 x0 x1 x2
  obtain ⟨t0, ht0⟩ : ∃ t, t = seqB b rows out := ⟨_, rfl⟩
  have HT0 := Lib.hid ht0
  rw [← ht0]
  clear ht0
  cases t0 with
  | false =>
    have x0 := HX4.out.c0
    have x1 := HX4.out.c1
    have x2 := HX4.out.c2
    have y0 := HY4.out.c0
    have y1 := HY4.out.c1
    have y2 := HY4.out.c2
    have y3 := HY4.out.f
    have z0 := HZ4.out.c0
    have z1 := HZ4.out.c1
    have z2 := HZ4.out.c2
    have z3 := HZ4.out.f
    have hyc : c ≠ w.heap.size := by omega
    have hzc : c ≠ w.heap.size + 1 := by omega
    have hqc : c ≠ q := by have := HCQ.out; omega
    go_wp2_with fail
    go_region_law (first
      | (go_simp; go_at_call 45; (refine (HA.out _ _ HS4.out.drew).mono ?_); rintro e W5 hfew; obtain ⟨v5, b5, rows5, out5, hok5, rfl, hv5, g5, c5⟩ := hfew.few; obtain ⟨an5, cn5, ao5, co5, rfl⟩ := hv5.form; have G5 := Lib.hid (Plain.grown_drew g5); have HX5 := Lib.hid (HX4.out.grown G5.out (fun e => hqc (Option.some.inj e))); have HY5 := Lib.hid (HY4.out.grown G5.out (fun e => hyc (Option.some.inj e))); have HZ5 := Lib.hid (HZ4.out.grown G5.out (fun e => hzc (Option.some.inj e))); have x5 := HX5.out.c0; have x6 := HX5.out.c1; have x7 := HX5.out.c2; have y5 := HY5.out.c0; have y6 := HY5.out.c1; have y7 := HY5.out.c2; have y8 := HY5.out.f; have z5 := HZ5.out.c0; have z6 := HZ5.out.c1; have z7 := HZ5.out.c2; have z8 := HZ5.out.f))
    all_goals
      have HV5 := Lib.hid (own_moved HV4.out G5.out HC1.out)
      have HW5 := Lib.hid hv5
      have HOK5 := Lib.hid hok5
      have HS5 := Lib.hid (HS4.out.drew.next g5 c5)
      have hl1 : w.heap.size + 2 ≤ w1.heap.size := by have := HC1.out; omega
      have hl4 : w.heap.size + 2 ≤ W4.heap.size := HZ4.out.lt
      have hn1 : w.heap.size ≠ w.heap.size + 1 := by omega
      have hn2 : w.heap.size + 1 ≠ w.heap.size := by omega
      have HY6 := Lib.hid ((((((HY5.out.set0 (.int .i64 b)).set1 (.slice an rows.length cn)).set2 (.slice ao out.length co)).other (a := ⟨w.heap.size + 1, 0, none⟩) hn2 (.int .i64 b5)).other (a := ⟨w.heap.size + 1, 1, none⟩) hn2 (.slice an5 rows5.length cn5)).other (a := ⟨w.heap.size + 1, 2, none⟩) hn2 (.slice ao5 out5.length co5))
      have HZ6 := Lib.hid ((((((HZ5.out.other (a := ⟨w.heap.size, 0, none⟩) hn1 (.int .i64 b)).other (a := ⟨w.heap.size, 1, none⟩) hn1 (.slice an rows.length cn)).other (a := ⟨w.heap.size, 2, none⟩) hn1 (.slice ao out.length co)).set0 (.int .i64 b5)).set1 (.slice an5 rows5.length cn5)).set2 (.slice ao5 out5.length co5))
      have T0 := Lib.hid ((((((Plain.Touch.of_set (lo := w.heap.size) (hi := w.heap.size + 2) (w := W5) (a := ⟨w.heap.size, 0, none⟩) (.int .i64 b) (by show w.heap.size ≤ w.heap.size; exact Nat.le_refl _) (by show w.heap.size < w.heap.size + 2; omega)).trans (Plain.Touch.of_set (a := ⟨w.heap.size, 1, none⟩) (.slice an rows.length cn) (by show w.heap.size ≤ w.heap.size; exact Nat.le_refl _) (by show w.heap.size < w.heap.size + 2; omega))).trans (Plain.Touch.of_set (a := ⟨w.heap.size, 2, none⟩) (.slice ao out.length co) (by show w.heap.size ≤ w.heap.size; exact Nat.le_refl _) (by show w.heap.size < w.heap.size + 2; omega))).trans (Plain.Touch.of_set (a := ⟨w.heap.size + 1, 0, none⟩) (.int .i64 b5) (by show w.heap.size ≤ w.heap.size + 1; omega) (by show w.heap.size + 1 < w.heap.size + 2; omega))).trans (Plain.Touch.of_set (a := ⟨w.heap.size + 1, 1, none⟩) (.slice an5 rows5.length cn5) (by show w.heap.size ≤ w.heap.size + 1; omega) (by show w.heap.size + 1 < w.heap.size + 2; omega))).trans (Plain.Touch.of_set (a := ⟨w.heap.size + 1, 2, none⟩) (.slice ao5 out5.length co5) (by show w.heap.size ≤ w.heap.size + 1; omega) (by show w.heap.size + 1 < w.heap.size + 2; omega)))
      have h0 := HY6.out.c0
      have h1 := HY6.out.c1
      have h2 := HY6.out.c2
      have h3 := HZ6.out.c0
      have h4 := HZ6.out.c1
      have h5 := HZ6.out.c2
      clear hok5 hv5 x0 x1 x2 x5 x6 x7 y0 y1 y2 y3 y5 y6 y7 y8 z0 z1 z2 z3 z5 z6 z7 z8 g5 c5
      go_wp2
      refine bodyPost_ret (v := .tuple #[.agg #[.int .i64 b, .slice an rows.length cn, .slice ao out.length co], .agg #[.int .i64 b5, .slice an5 rows5.length cn5, .slice ao5 out5.length co5]]) (by simp [results, Try.results38, go_sem, h0, h1, h2, h3, h4, h5]) rfl ⟨_, b, _, _, _, b5, _, _, HOK.out, HOK5.out, rfl, (own_within (HV5.out.touch T0.out (.inr hl1)) (by simp only [size_setCell']; exact HV5.out.le) (Nat.le_refl _)).lower (by omega), (own_within (HW5.out.touch T0.out (.inr hl4)) (by simp only [size_setCell']; exact Nat.le_refl _) (Nat.le_refl _)).lower (by show w.heap.size ≤ W4.heap.size; omega), ?_⟩
      exact (((((HS5.out.below.setCell (Nat.le_refl _) _).setCell (Nat.le_refl _) _).setCell (Nat.le_refl _) _).setCell (Nat.le_succ _) _).setCell (Nat.le_succ _) _).setCell (Nat.le_succ _) _
  | true =>
    go_wp2_with fail
    refine (HO.out _ _ HS4.out).mono ?_
    rintro e W6 ⟨t, rfl, g6, c6⟩
    have hyc : c ≠ w.heap.size := by omega
    have hzc : c ≠ w.heap.size + 1 := by omega
    have hqc : c ≠ q := by have := HCQ.out; omega
    have hv6 := own_moved HV4.out g6 HC1.out
    have hx6 := HX4.out.grown g6 (fun e => hqc (Option.some.inj e))
    have hy6 := HY4.out.grown g6 (fun e => hyc (Option.some.inj e))
    have hz6 := HZ4.out.grown g6 (fun e => hzc (Option.some.inj e))
    have hs6 := HS4.out.next g6 c6
    clear HV4 HX4 HS4 HY4 HZ4 g6 c6 hyc hzc hqc
    have HV4 := Lib.hid hv6
    have HX4 := Lib.hid hx6
    have HY4 := Lib.hid hy6
    have HZ4 := Lib.hid hz6
    have HS4 := Lib.hid hs6
    clear hv6 hx6 hy6 hz6 hs6
    obtain ⟨W4, rfl⟩ : ∃ W, W = W6 := ⟨_, rfl⟩
    cases t with
    | false =>
      have x0 := HX4.out.c0
      have x1 := HX4.out.c1
      have x2 := HX4.out.c2
      have y0 := HY4.out.c0
      have y1 := HY4.out.c1
      have y2 := HY4.out.c2
      have y3 := HY4.out.f
      have z0 := HZ4.out.c0
      have z1 := HZ4.out.c1
      have z2 := HZ4.out.c2
      have z3 := HZ4.out.f
      have hyc : c ≠ w.heap.size := by omega
      have hzc : c ≠ w.heap.size + 1 := by omega
      have hqc : c ≠ q := by have := HCQ.out; omega
      go_wp2_with fail
      go_region_law (first
        | (go_simp; go_at_call 45; (refine (HA.out _ _ HS4.out.drew).mono ?_); rintro e W5 hfew; obtain ⟨v5, b5, rows5, out5, hok5, rfl, hv5, g5, c5⟩ := hfew.few; obtain ⟨an5, cn5, ao5, co5, rfl⟩ := hv5.form; have G5 := Lib.hid (Plain.grown_drew g5); have HX5 := Lib.hid (HX4.out.grown G5.out (fun e => hqc (Option.some.inj e))); have HY5 := Lib.hid (HY4.out.grown G5.out (fun e => hyc (Option.some.inj e))); have HZ5 := Lib.hid (HZ4.out.grown G5.out (fun e => hzc (Option.some.inj e))); have x5 := HX5.out.c0; have x6 := HX5.out.c1; have x7 := HX5.out.c2; have y5 := HY5.out.c0; have y6 := HY5.out.c1; have y7 := HY5.out.c2; have y8 := HY5.out.f; have z5 := HZ5.out.c0; have z6 := HZ5.out.c1; have z7 := HZ5.out.c2; have z8 := HZ5.out.f))
      all_goals
        have HV5 := Lib.hid (own_moved HV4.out G5.out HC1.out)
        have HW5 := Lib.hid hv5
        have HOK5 := Lib.hid hok5
        have HS5 := Lib.hid (HS4.out.drew.next g5 c5)
        have hl1 : w.heap.size + 2 ≤ w1.heap.size := by have := HC1.out; omega
        have hl4 : w.heap.size + 2 ≤ W4.heap.size := HZ4.out.lt
        have hn1 : w.heap.size ≠ w.heap.size + 1 := by omega
        have hn2 : w.heap.size + 1 ≠ w.heap.size := by omega
        have HY6 := Lib.hid ((((((HY5.out.set0 (.int .i64 b)).set1 (.slice an rows.length cn)).set2 (.slice ao out.length co)).other (a := ⟨w.heap.size + 1, 0, none⟩) hn2 (.int .i64 b5)).other (a := ⟨w.heap.size + 1, 1, none⟩) hn2 (.slice an5 rows5.length cn5)).other (a := ⟨w.heap.size + 1, 2, none⟩) hn2 (.slice ao5 out5.length co5))
        have HZ6 := Lib.hid ((((((HZ5.out.other (a := ⟨w.heap.size, 0, none⟩) hn1 (.int .i64 b)).other (a := ⟨w.heap.size, 1, none⟩) hn1 (.slice an rows.length cn)).other (a := ⟨w.heap.size, 2, none⟩) hn1 (.slice ao out.length co)).set0 (.int .i64 b5)).set1 (.slice an5 rows5.length cn5)).set2 (.slice ao5 out5.length co5))
        have T0 := Lib.hid ((((((Plain.Touch.of_set (lo := w.heap.size) (hi := w.heap.size + 2) (w := W5) (a := ⟨w.heap.size, 0, none⟩) (.int .i64 b) (by show w.heap.size ≤ w.heap.size; exact Nat.le_refl _) (by show w.heap.size < w.heap.size + 2; omega)).trans (Plain.Touch.of_set (a := ⟨w.heap.size, 1, none⟩) (.slice an rows.length cn) (by show w.heap.size ≤ w.heap.size; exact Nat.le_refl _) (by show w.heap.size < w.heap.size + 2; omega))).trans (Plain.Touch.of_set (a := ⟨w.heap.size, 2, none⟩) (.slice ao out.length co) (by show w.heap.size ≤ w.heap.size; exact Nat.le_refl _) (by show w.heap.size < w.heap.size + 2; omega))).trans (Plain.Touch.of_set (a := ⟨w.heap.size + 1, 0, none⟩) (.int .i64 b5) (by show w.heap.size ≤ w.heap.size + 1; omega) (by show w.heap.size + 1 < w.heap.size + 2; omega))).trans (Plain.Touch.of_set (a := ⟨w.heap.size + 1, 1, none⟩) (.slice an5 rows5.length cn5) (by show w.heap.size ≤ w.heap.size + 1; omega) (by show w.heap.size + 1 < w.heap.size + 2; omega))).trans (Plain.Touch.of_set (a := ⟨w.heap.size + 1, 2, none⟩) (.slice ao5 out5.length co5) (by show w.heap.size ≤ w.heap.size + 1; omega) (by show w.heap.size + 1 < w.heap.size + 2; omega)))
        have h0 := HY6.out.c0
        have h1 := HY6.out.c1
        have h2 := HY6.out.c2
        have h3 := HZ6.out.c0
        have h4 := HZ6.out.c1
        have h5 := HZ6.out.c2
        clear hok5 hv5 x0 x1 x2 x5 x6 x7 y0 y1 y2 y3 y5 y6 y7 y8 z0 z1 z2 z3 z5 z6 z7 z8 g5 c5
        go_wp2
        refine bodyPost_ret (v := .tuple #[.agg #[.int .i64 b, .slice an rows.length cn, .slice ao out.length co], .agg #[.int .i64 b5, .slice an5 rows5.length cn5, .slice ao5 out5.length co5]]) (by simp [results, Try.results38, go_sem, h0, h1, h2, h3, h4, h5]) rfl ⟨_, b, _, _, _, b5, _, _, HOK.out, HOK5.out, rfl, (own_within (HV5.out.touch T0.out (.inr hl1)) (by simp only [size_setCell']; exact HV5.out.le) (Nat.le_refl _)).lower (by omega), (own_within (HW5.out.touch T0.out (.inr hl4)) (by simp only [size_setCell']; exact Nat.le_refl _) (Nat.le_refl _)).lower (by show w.heap.size ≤ W4.heap.size; omega), ?_⟩
        exact (((((HS5.out.below.setCell (Nat.le_refl _) _).setCell (Nat.le_refl _) _).setCell (Nat.le_refl _) _).setCell (Nat.le_succ _) _).setCell (Nat.le_succ _) _).setCell (Nat.le_succ _) _
    | true =>
      have HVD := Lib.hid (HV4.out.below (below_drew' W4))
      have x0 := HX4.out.c0
      have x1 := HX4.out.c1
      have x2 := HX4.out.c2
      have y0 := HY4.out.c0
      have y1 := HY4.out.c1
      have y2 := HY4.out.c2
      have y3 := HY4.out.f
      have z0 := HZ4.out.c0
      have z1 := HZ4.out.c1
      have z2 := HZ4.out.c2
      have z3 := HZ4.out.f
      have hyc : c ≠ w.heap.size := by omega
      have hzc : c ≠ w.heap.size + 1 := by omega
      have hqc : c ≠ q := by have := HCQ.out; omega
      go_wp2_with fail
      go_region_law (first
        | (go_simp; go_at_call 62; (refine (HBL.out _ _ w1.heap.size q b an ao cn co rows out HVD.out HT0.out.symm HC1.out HS4.out.drew).mono ?_); rintro e W5 hfew; obtain ⟨v5, b5, rows5, out5, hok5, rfl, hv5, g5, c5⟩ := hfew; obtain ⟨an5, cn5, ao5, co5, rfl⟩ := hv5.form; have G5 := Lib.hid (Plain.grown_drew g5); have HX5 := Lib.hid (HX4.out.grown G5.out (fun e => hqc (Option.some.inj e))); have HY5 := Lib.hid (HY4.out.grown G5.out (fun e => hyc (Option.some.inj e))); have HZ5 := Lib.hid (HZ4.out.grown G5.out (fun e => hzc (Option.some.inj e))); have x5 := HX5.out.c0; have x6 := HX5.out.c1; have x7 := HX5.out.c2; have y5 := HY5.out.c0; have y6 := HY5.out.c1; have y7 := HY5.out.c2; have y8 := HY5.out.f; have z5 := HZ5.out.c0; have z6 := HZ5.out.c1; have z7 := HZ5.out.c2; have z8 := HZ5.out.f))
      all_goals
        have HV5 := Lib.hid (own_moved HV4.out G5.out HC1.out)
        have HW5 := Lib.hid hv5
        have HOK5 := Lib.hid hok5
        have HS5 := Lib.hid (HS4.out.drew.next g5 c5)
        have hl1 : w.heap.size + 2 ≤ w1.heap.size := by have := HC1.out; omega
        have hl4 : w.heap.size + 2 ≤ W4.heap.size := HZ4.out.lt
        have hn1 : w.heap.size ≠ w.heap.size + 1 := by omega
        have hn2 : w.heap.size + 1 ≠ w.heap.size := by omega
        have HY6 := Lib.hid ((((((HY5.out.set0 (.int .i64 b)).set1 (.slice an rows.length cn)).set2 (.slice ao out.length co)).other (a := ⟨w.heap.size + 1, 0, none⟩) hn2 (.int .i64 b5)).other (a := ⟨w.heap.size + 1, 1, none⟩) hn2 (.slice an5 rows5.length cn5)).other (a := ⟨w.heap.size + 1, 2, none⟩) hn2 (.slice ao5 out5.length co5))
        have HZ6 := Lib.hid ((((((HZ5.out.other (a := ⟨w.heap.size, 0, none⟩) hn1 (.int .i64 b)).other (a := ⟨w.heap.size, 1, none⟩) hn1 (.slice an rows.length cn)).other (a := ⟨w.heap.size, 2, none⟩) hn1 (.slice ao out.length co)).set0 (.int .i64 b5)).set1 (.slice an5 rows5.length cn5)).set2 (.slice ao5 out5.length co5))
        have T0 := Lib.hid ((((((Plain.Touch.of_set (lo := w.heap.size) (hi := w.heap.size + 2) (w := W5) (a := ⟨w.heap.size, 0, none⟩) (.int .i64 b) (by show w.heap.size ≤ w.heap.size; exact Nat.le_refl _) (by show w.heap.size < w.heap.size + 2; omega)).trans (Plain.Touch.of_set (a := ⟨w.heap.size, 1, none⟩) (.slice an rows.length cn) (by show w.heap.size ≤ w.heap.size; exact Nat.le_refl _) (by show w.heap.size < w.heap.size + 2; omega))).trans (Plain.Touch.of_set (a := ⟨w.heap.size, 2, none⟩) (.slice ao out.length co) (by show w.heap.size ≤ w.heap.size; exact Nat.le_refl _) (by show w.heap.size < w.heap.size + 2; omega))).trans (Plain.Touch.of_set (a := ⟨w.heap.size + 1, 0, none⟩) (.int .i64 b5) (by show w.heap.size ≤ w.heap.size + 1; omega) (by show w.heap.size + 1 < w.heap.size + 2; omega))).trans (Plain.Touch.of_set (a := ⟨w.heap.size + 1, 1, none⟩) (.slice an5 rows5.length cn5) (by show w.heap.size ≤ w.heap.size + 1; omega) (by show w.heap.size + 1 < w.heap.size + 2; omega))).trans (Plain.Touch.of_set (a := ⟨w.heap.size + 1, 2, none⟩) (.slice ao5 out5.length co5) (by show w.heap.size ≤ w.heap.size + 1; omega) (by show w.heap.size + 1 < w.heap.size + 2; omega)))
        have h0 := HY6.out.c0
        have h1 := HY6.out.c1
        have h2 := HY6.out.c2
        have h3 := HZ6.out.c0
        have h4 := HZ6.out.c1
        have h5 := HZ6.out.c2
        clear hok5 hv5 x0 x1 x2 x5 x6 x7 y0 y1 y2 y3 y5 y6 y7 y8 z0 z1 z2 z3 z5 z6 z7 z8 g5 c5
        go_wp2
        refine bodyPost_ret (v := .tuple #[.agg #[.int .i64 b, .slice an rows.length cn, .slice ao out.length co], .agg #[.int .i64 b5, .slice an5 rows5.length cn5, .slice ao5 out5.length co5]]) (by simp [results, Try.results38, go_sem, h0, h1, h2, h3, h4, h5]) rfl ⟨_, b, _, _, _, b5, _, _, HOK.out, HOK5.out, rfl, (own_within (HV5.out.touch T0.out (.inr hl1)) (by simp only [size_setCell']; exact HV5.out.le) (Nat.le_refl _)).lower (by omega), (own_within (HW5.out.touch T0.out (.inr hl4)) (by simp only [size_setCell']; exact Nat.le_refl _) (Nat.le_refl _)).lower (by show w.heap.size ≤ W4.heap.size; omega), ?_⟩
        exact (((((HS5.out.below.setCell (Nat.le_refl _) _).setCell (Nat.le_refl _) _).setCell (Nat.le_refl _) _).setCell (Nat.le_succ _) _).setCell (Nat.le_succ _) _).setCell (Nat.le_succ _) _
end Cursor
end Go.Proofs.Ytpndclpmhelikaa
/- The drawing of two sequences for the law. No conditions beyond those that each states. -/
namespace Go.Proofs.Ytpndclpmhelikaa
open Go.ChangeShapes Go.WideShapes Go.ChangeAt Go.RowKit
open Go.PlainAid Plain
set_option linter.unusedVariables false
namespace Cursor
open Ints Digits
set_option maxHeartbeats 2000000 in
theorem drawTwo (w : World) (a : Option Addr) (len cap : Nat) (hlen : len ≤ 1048576) (hcode : CodeIs w w.heap.size a len) :
    Calls Try.prog 18 #[.slice a len cap] w (TwoSeq w) := by
  have hb1 : Below w.heap.size w ((w.alloc (Obj.cells #[Value.int .i64 0, Value.slice none 0 0, Value.slice none 0 0] 27)).alloc (Obj.cells #[Value.int .i64 0, Value.slice none 0 0, Value.slice none 0 0] 27)) := ((Below.refl _ _).alloc (Nat.le_refl _) _).alloc (by simp only [size_alloc'] <;> omega) _
  have HN := Lib.hid (two ((w.alloc (Obj.cells #[Value.int .i64 0, Value.slice none 0 0, Value.slice none 0 0] 27)).alloc (Obj.cells #[Value.int .i64 0, Value.slice none 0 0, Value.slice none 0 0] 27)) a len cap hlen (code_next hcode hb1))
  have HB1 := Lib.hid hb1
  have HY1 := Lib.hid ((Cells3.new w 27 (.int .i64 0) (.slice none 0 0) (.slice none 0 0)).alloc (Obj.cells #[Value.int .i64 0, Value.slice none 0 0, Value.slice none 0 0] 27))
  have hz1 := Cells3.new (w.alloc (Obj.cells #[Value.int .i64 0, Value.slice none 0 0, Value.slice none 0 0] 27)) 27 (.int .i64 0) (.slice none 0 0) (.slice none 0 0)
  rw [size_alloc'] at hz1
  have HZ1 := Lib.hid hz1
  clear hcode hb1 hz1
  go_enter Try.func18, Try.ntmps18
  go_wp2_with fail
  refine HN.out.mono ?_
  rintro e w1 ⟨v1, b1, rows1, out1, v2, b2, rows2, out2, hf1, hf2, rfl, hv1, hv2, b3⟩
  obtain ⟨an1, cn1, ao1, co1, rfl⟩ := hv1.form
  obtain ⟨an2, cn2, ao2, co2, rfl⟩ := hv2.form
  rw [size_alloc', size_alloc'] at hv1 hv2
  have HZ1s : Hid (w.heap.size + 2 ≤ w1.heap.size) := by have := b3.size; rw [size_alloc', size_alloc'] at this; exact this
  have HF1 := Lib.hid hf1
  have HF2 := Lib.hid hf2
  have hbx : Below w1.heap.size w1 ((w1.alloc (Obj.cells #[Value.int .i64 b1, .slice an1 rows1.length cn1, .slice ao1 out1.length co1] 27)).alloc (Obj.cells #[Value.int .i64 b2, .slice an2 rows2.length cn2, .slice ao2 out2.length co2] 27)) := ((Below.refl _ _).alloc (Nat.le_refl _) _).alloc (by simp only [size_alloc'] <;> omega) _
  have HV1 := Lib.hid (hv1.below hbx)
  have HV2 := Lib.hid (hv2.below hbx)
  have HX1 := Lib.hid ((Cells3.new w1 27 (.int .i64 b1) (.slice an1 rows1.length cn1) (.slice ao1 out1.length co1)).alloc (Obj.cells #[Value.int .i64 b2, .slice an2 rows2.length cn2, .slice ao2 out2.length co2] 27))
  have hx2 := Cells3.new (w1.alloc (Obj.cells #[Value.int .i64 b1, .slice an1 rows1.length cn1, .slice ao1 out1.length co1] 27)) 27 (.int .i64 b2) (.slice an2 rows2.length cn2) (.slice ao2 out2.length co2)
  rw [size_alloc'] at hx2
  have HX2 := Lib.hid hx2
  have HY3 := Lib.hid ((HY1.out.below b3).below hbx)
  have HZ3 := Lib.hid ((HZ1.out.below b3).below hbx)
  have HBW := Lib.hid ((HB1.out.trans (b3.mono HB1.out.size)).trans (hbx.mono (Nat.le_trans HB1.out.size b3.size)))
  clear HN HB1 HY1 HZ1 hf1 hf2 b3 hx2 hbx hv1 hv2
  have x0 := HX1.out.c0
  have x1 := HX1.out.c1
  have x2 := HX1.out.c2
  have x3 := HX2.out.c0
  have x4 := HX2.out.c1
  have x5 := HX2.out.c2
  have y0 := HY3.out.c0
  have y1 := HY3.out.c1
  have y2 := HY3.out.c2
  have y3 := HY3.out.f
  have z0 := HZ3.out.c0
  have z1 := HZ3.out.c1
  have z2 := HZ3.out.c2
  have z3 := HZ3.out.f
  have hle := HZ1s.out
  have hle1 : w.heap.size + 2 ≤ w1.heap.size := hle
  obtain ⟨q, hq⟩ : ∃ q, q = w1.heap.size := ⟨_, rfl⟩
  obtain ⟨W2, hW2⟩ : ∃ W, W = (w1.alloc (Obj.cells #[Value.int .i64 b1, .slice an1 rows1.length cn1, .slice ao1 out1.length co1] 27)).alloc (Obj.cells #[Value.int .i64 b2, .slice an2 rows2.length cn2, .slice ao2 out2.length co2] 27) := ⟨_, rfl⟩
  have HSZ := Lib.hid (show W2.heap.size = q + 2 from by rw [hW2, size_alloc', size_alloc', hq])
  go_wp2_with fail
  rw [← hW2] at HV1 HV2 HX1 HX2 HY3 HZ3 HBW x0 x1 x2 x3 x4 x5 y0 y1 y2 y3 z0 z1 z2 z3 ⊢
  rw [← hq] at HX1 HX2 x0 x1 x2 x3 x4 x5 hle1 HV1 HV2 ⊢
  clear hW2 hq hle HZ1s
  have hn1 : w.heap.size ≠ w.heap.size + 1 := by omega
  have hn2 : w.heap.size + 1 ≠ w.heap.size := by omega
  have m1 : q ≠ w.heap.size := by omega
  have m2 : q ≠ w.heap.size + 1 := by omega
  have m3 : q + 1 ≠ w.heap.size := by omega
  have m4 : q + 1 ≠ w.heap.size + 1 := by omega
  have u0 := ((HX2.out.other (a := ⟨w.heap.size, 0, none⟩) (Ne.symm m3) (.int .i64 b1)).other (a := ⟨w.heap.size, 1, none⟩) (Ne.symm m3) (.slice an1 rows1.length cn1)).other (a := ⟨w.heap.size, 2, none⟩) (Ne.symm m3) (.slice ao1 out1.length co1)
  have s0 := u0.c0
  have s1 := u0.c1
  have s2 := u0.c2
  go_region_law (fail)
  all_goals
    have HY6 := Lib.hid ((((((HY3.out.set0 (.int .i64 b1)).set1 (.slice an1 rows1.length cn1)).set2 (.slice ao1 out1.length co1)).other (a := ⟨w.heap.size + 1, 0, none⟩) hn2 (.int .i64 b2)).other (a := ⟨w.heap.size + 1, 1, none⟩) hn2 (.slice an2 rows2.length cn2)).other (a := ⟨w.heap.size + 1, 2, none⟩) hn2 (.slice ao2 out2.length co2))
    have HZ6 := Lib.hid ((((((HZ3.out.other (a := ⟨w.heap.size, 0, none⟩) hn1 (.int .i64 b1)).other (a := ⟨w.heap.size, 1, none⟩) hn1 (.slice an1 rows1.length cn1)).other (a := ⟨w.heap.size, 2, none⟩) hn1 (.slice ao1 out1.length co1)).set0 (.int .i64 b2)).set1 (.slice an2 rows2.length cn2)).set2 (.slice ao2 out2.length co2))
    have T0 := Lib.hid ((((((Plain.Touch.of_set (lo := w.heap.size) (hi := w.heap.size + 2) (w := W2) (a := ⟨w.heap.size, 0, none⟩) (.int .i64 b1) (by show w.heap.size ≤ w.heap.size; exact Nat.le_refl _) (by show w.heap.size < w.heap.size + 2; omega)).trans (Plain.Touch.of_set (a := ⟨w.heap.size, 1, none⟩) (.slice an1 rows1.length cn1) (by show w.heap.size ≤ w.heap.size; exact Nat.le_refl _) (by show w.heap.size < w.heap.size + 2; omega))).trans (Plain.Touch.of_set (a := ⟨w.heap.size, 2, none⟩) (.slice ao1 out1.length co1) (by show w.heap.size ≤ w.heap.size; exact Nat.le_refl _) (by show w.heap.size < w.heap.size + 2; omega))).trans (Plain.Touch.of_set (a := ⟨w.heap.size + 1, 0, none⟩) (.int .i64 b2) (by show w.heap.size ≤ w.heap.size + 1; omega) (by show w.heap.size + 1 < w.heap.size + 2; omega))).trans (Plain.Touch.of_set (a := ⟨w.heap.size + 1, 1, none⟩) (.slice an2 rows2.length cn2) (by show w.heap.size ≤ w.heap.size + 1; omega) (by show w.heap.size + 1 < w.heap.size + 2; omega))).trans (Plain.Touch.of_set (a := ⟨w.heap.size + 1, 2, none⟩) (.slice ao2 out2.length co2) (by show w.heap.size ≤ w.heap.size + 1; omega) (by show w.heap.size + 1 < w.heap.size + 2; omega)))
    have h0 := HY6.out.c0
    have h1 := HY6.out.c1
    have h2 := HY6.out.c2
    have h3 := HZ6.out.c0
    have h4 := HZ6.out.c1
    have h5 := HZ6.out.c2
    clear x0 x1 x2 x3 x4 x5 y0 y1 y2 y3 z0 z1 z2 z3 s0 s1 s2 u0
    go_wp2
    have HBF := (((((HBW.out.setCell (Nat.le_refl _) (.int .i64 b1) (p := ⟨w.heap.size, 0, none⟩)).setCell (p := ⟨w.heap.size, 1, none⟩) (Nat.le_refl _) (.slice an1 rows1.length cn1)).setCell (p := ⟨w.heap.size, 2, none⟩) (Nat.le_refl _) (.slice ao1 out1.length co1)).setCell (p := ⟨w.heap.size + 1, 0, none⟩) (Nat.le_succ _) (.int .i64 b2)).setCell (p := ⟨w.heap.size + 1, 1, none⟩) (Nat.le_succ _) (.slice an2 rows2.length cn2)).setCell (p := ⟨w.heap.size + 1, 2, none⟩) (Nat.le_succ _) (.slice ao2 out2.length co2)
    have e1 := (HV1.out.touch T0.out (.inr (Nat.le_refl _))).below (below_drew' _)
    have e2 := (HV2.out.touch T0.out (.inr (Nat.le_refl _))).below (below_drew' _)
    have hk0 := (HY6.out.below (below_drew' _)).c0
    have hk1 := (HY6.out.below (below_drew' _)).c1
    have hk2 := (HY6.out.below (below_drew' _)).c2
    have hk3 := (HZ6.out.below (below_drew' _)).c0
    have hk4 := (HZ6.out.below (below_drew' _)).c1
    have hk5 := (HZ6.out.below (below_drew' _)).c2
    refine bodyPost_ret (v := .tuple #[.agg #[.int .i64 b1, .slice an1 rows1.length cn1, .slice ao1 out1.length co1], .agg #[.int .i64 b2, .slice an2 rows2.length cn2, .slice ao2 out2.length co2]]) (by simp [results, Try.results18, go_sem, h0, h1, h2, h3, h4, h5]) rfl ⟨_, b1, _, _, _, b2, _, _, HF1.out, HF2.out, rfl, ?_, ?_, HBF.trans ((below_drew' _).mono HBF.size)⟩
    · exact (own_within e1 (Nat.le_trans (by simp only [size_setCell']; have := HSZ.out; omega) (below_drew' _).size) (Nat.le_refl _)).lower (by omega)
    · exact (own_within e2 (Nat.le_trans (by simp only [size_setCell']; have := HSZ.out; omega) (below_drew' _).size) (Nat.le_refl _)).lower (by omega)
end Cursor
end Go.Proofs.Ytpndclpmhelikaa
/- Contracts of IsSequence, of the program. No conditions beyond those that each states. -/
namespace Go.Proofs.Ytpndclpmhelikaa
open Go.ChangeShapes Go.WideShapes Go.ChangeAt Go.RowKit
open Go.PlainAid Plain
set_option linter.unusedVariables false
namespace Seqs
theorem term_yes (x : Int) (w : World) (h1 : 0 ≤ x) (h2 : x ≤ 3) :
    Calls Try.prog 68 #[.int .i64 x] w fun e w' => e = .returned (.bool true) ∧ w = w' := by
  go_enter Try.func68, Try.ntmps68
  go_wp2
  go_ret
  exact ⟨rfl, rfl⟩
theorem term_no (x : Int) (w : World) (h : x < 0 ∨ 3 < x) :
    Calls Try.prog 68 #[.int .i64 x] w fun e w' => e = .returned (.bool false) ∧ w = w' := by
  by_cases h3 : 0 ≤ x
  · have h4 : decide (x ≤ 3) = false := decide_eq_false (by omega)
    clear h
    go_enter Try.func68, Try.ntmps68
    go_wp2
    go_ret
    exact ⟨rfl, rfl⟩
  · clear h
    go_enter Try.func68, Try.ntmps68
    go_wp2
    go_ret
    exact ⟨rfl, rfl⟩
theorem term_q {x : Int} {w : World} {n : Nat} {c : Bool} (hc : decide (0 ≤ x ∧ x ≤ 3) = c) :
    Calls Try.prog 68 #[.int .i64 x] (w.drewN n) fun e w' => e = .returned (.bool c) ∧ ∃ m, w' = w.drewN m := by
  cases c with
  | true =>
    have h := of_decide_eq_true hc
    exact (term_yes x _ h.1 h.2).mono fun _ _ ⟨he, hw⟩ => ⟨he, n, hw.symm⟩
  | false =>
    have h := of_decide_eq_false hc
    exact (term_no x _ (by omega)).mono fun _ _ ⟨he, hw⟩ => ⟨he, n, hw.symm⟩
set_option maxHeartbeats 1000000 in
theorem impl_row (v : Value) (b : Int) (rows : List (List Int)) (out : List Int) (w : World) (h : LiesS w v b rows out) (i : Nat) (r : List Int) (x : Int) (hr : rows[i]? = some r) (hx : out[i]? = some x) :
    Calls Try.prog 54 #[v, .int .i64 i] w fun e w' => e = .returned (.bool (rowB b rows.length r x)) ∧ Below w.heap.size w w' := by
  obtain ⟨vn, vo, rfl, hn, ho⟩ := h
  have hB : Below w.heap.size w (w.alloc (Obj.cells #[Value.int .i64 b, vn, vo] 27)) := (Below.refl _ _).alloc (Nat.le_refl _) _
  have hC := Cells3.new w 27 (.int .i64 b) vn vo
  have hir := (List.getElem?_eq_some_iff.1 hr).1
  have hio := (List.getElem?_eq_some_iff.1 hx).1
  go_enter Try.func54, Try.ntmps54
  go_wp2_with fail
  obtain ⟨W, hW⟩ : ∃ W, W = w.alloc (Obj.cells #[Value.int .i64 b, vn, vo] 27) := ⟨_, rfl⟩
  rw [← hW] at hB hC ⊢
  obtain ⟨a, ca, rfl, hl, hc⟩ := (hn.below hB).row
  obtain ⟨hlo, ao, co, rfl, _, hco⟩ := ho.below hB
  obtain ⟨p, o, u, rfl, hcu, hlu⟩ := hc i r hr
  obtain ⟨hrl, a', ca', rfl, _, hcr⟩ := hlu
  obtain ⟨q, s, rfl, hcx⟩ := hco i x hx
  have HX := Lib.hid hcr
  have HB : Hid (∀ n, Below w.heap.size w (W.drewN n)) := fun n => below_drewN hB n
  have k0 := hC.c0
  have k1 := hC.c1
  have k2 := hC.c2
  clear hc hco hB hC hW hn ho hcr hr hx
  obtain ⟨z, hz⟩ : ∃ z, z = w.heap.size := ⟨_, rfl⟩
  rw [← hz] at k0 k1 k2 ⊢
  clear hz
  by_cases hb : (r.length : Int) = b
  · have HBE := Lib.hid hb
    have hd0 : ((r.length : Int) != b) = false := by rw [hb]; simp
    clear hb
    by_cases hx03 : 0 ≤ x ∧ x ≤ 3
    case neg =>
      have HE := Lib.hid (rowB_out (b := b) (n := rows.length) (r := r) (o := x) (by omega))
      have HNO := Lib.hid (show decide (0 ≤ x ∧ x ≤ 3) = false from decide_eq_false hx03)
      clear hx03
      go_quiet ((go_at_call 68; exact term_q HNO.out))
      go_wp2
      go_ret
      exact ⟨ret_b HE.out.symm, ends HB.out⟩
    case pos =>
        have HYES := Lib.hid (show decide (0 ≤ x ∧ x ≤ 3) = true from decide_eq_true hx03)
        obtain ⟨hx0, hx3⟩ := hx03
        go_quiet ((go_at_call 68; exact term_q HYES.out))
        go_wp2
        go_loopw [31] (fun k' wr => ∃ k : Nat, k ≤ r.length ∧ k' = .int .i64 k ∧ Hid (∀ (j : Nat) (x : Int), j < k → r[j]? = some x → 0 ≤ x ∧ x < (rows.length : Int)) ∧ ∃ n, wr = W.drewN n) (fun k' _ => r.length - (intOf k').toNat)
        case atStart => exact ⟨0, Nat.zero_le _, rfl, fun j x h => by omega, _, rfl⟩
        case round =>
          obtain ⟨k, hk, rfl, HK, m, rfl⟩ := hrel
          by_cases hlk : k < r.length
          · obtain ⟨y, hry⟩ : ∃ x, r[k]? = some x := ⟨_, List.getElem?_eq_getElem hlk⟩
            obtain ⟨g, t, rfl, hcy⟩ := HX.out k y hry
            have HY := Lib.hid hry
            clear hry
            by_cases hy0 : y < 0
            · have hd3 := decide_eq_true hy0
              have HE := Lib.hid (rowB_cell (b := b) (n := rows.length) (o := x) HY.out (.inl hy0))
              go_wp2
              go_ret
              exact ⟨ret_b HE.out.symm, ends HB.out⟩
            · by_cases hy1 : (rows.length : Int) ≤ y
              · have hd3 := decide_eq_false hy0
                have hd4 := decide_eq_true hy1
                have HE := Lib.hid (rowB_cell (b := b) (n := rows.length) (o := x) HY.out (.inr hy1))
                go_wp2
                go_ret
                exact ⟨ret_b HE.out.symm, ends HB.out⟩
              · have hd3 := decide_eq_false hy0
                have hd4 := decide_eq_false hy1
                have HN : Hid (∀ (j : Nat) (x : Int), j < k + 1 → r[j]? = some x → 0 ≤ x ∧ x < (rows.length : Int)) := fun j z hj hz => by
                  by_cases e : j = k
                  · subst e
                    obtain rfl := Option.some.inj (HY.out.symm.trans hz)
                    omega
                  · exact HK.out j z (by omega) hz
                go_wp2
                go_roundw
                case rel => exact ⟨k + 1, by omega, by go_num, HN, _, rfl⟩
                case measure => simp [intOf]; omega
          · have HE := Lib.hid (rowB_yes (n := rows.length) HBE.out (fun k' x hx => HK.out k' x (by have := (List.getElem?_eq_some_iff.1 hx).1; omega) hx) (show 0 ≤ x by omega) (by omega))
            go_wp2
            go_ret
            exact ⟨ret_b HE.out.symm, ends HB.out⟩
  · have HE := Lib.hid (rowB_len (n := rows.length) (o := x) hb)
    have hd0 : ((r.length : Int) != b) = true := by simpa using hb
    clear hb
    go_quiet (fail)
    go_wp2
    go_ret
    exact ⟨ret_b HE.out.symm, ends HB.out⟩
theorem impl_is_no (v : Value) (b : Int) (rows : List (List Int)) (out : List Int) (w : World) (h : LiesS w v b rows out) (hno : ¬ (2 ≤ b ∧ b ≤ 4 ∧ 1 ≤ rows.length ∧ rows.length ≤ 16 ∧ out.length = rows.length)) :
    Calls Try.prog 30 #[v] w fun e w' => e = .returned (.bool false) ∧ Below w.heap.size w w' := by
  obtain ⟨vn, vo, rfl, hn, ho⟩ := h
  obtain ⟨a, ca, rfl, hl, hc⟩ := hn.row
  obtain ⟨hlo, ao, co, rfl, _, hco⟩ := ho
  clear hc hco hn
  by_cases hb : 2 ≤ b ∧ b ≤ 4
  · obtain ⟨hb1, hb2⟩ := hb
    by_cases h1 : 1 ≤ rows.length
    · have hd1 := decide_eq_false (show ¬ (rows.length : Int) < 1 by omega)
      by_cases h2 : rows.length ≤ 16
      · have hd2 := decide_eq_false (show ¬ (rows.length : Int) > 16 by omega)
        have hd3 : ((out.length : Int) != (rows.length : Int)) = true := by simp; omega
        clear hno
        go_enter Try.func30, Try.ntmps30
        go_wp2_with fail
        refine (Digits.base_yes _ _ hb1 hb2).mono ?_
        rintro e w' ⟨rfl, rfl⟩
        go_wp2
        go_ret
        exact ⟨rfl, (Below.refl _ _).alloc (Nat.le_refl _) _⟩
      · have hd2 := decide_eq_true (show (rows.length : Int) > 16 by omega)
        clear hno
        go_enter Try.func30, Try.ntmps30
        go_wp2_with fail
        refine (Digits.base_yes _ _ hb1 hb2).mono ?_
        rintro e w' ⟨rfl, rfl⟩
        go_wp2
        go_ret
        exact ⟨rfl, (Below.refl _ _).alloc (Nat.le_refl _) _⟩
    · have hd1 := decide_eq_true (show (rows.length : Int) < 1 by omega)
      clear hno
      go_enter Try.func30, Try.ntmps30
      go_wp2_with fail
      refine (Digits.base_yes _ _ hb1 hb2).mono ?_
      rintro e w' ⟨rfl, rfl⟩
      go_wp2
      go_ret
      exact ⟨rfl, (Below.refl _ _).alloc (Nat.le_refl _) _⟩
  · have hno' : b < 2 ∨ 4 < b := by omega
    clear hno hb
    have HNO := Lib.hid hno'
    clear hno'
    go_enter Try.func30, Try.ntmps30
    go_wp2_with fail
    refine (Digits.base_no _ _ HNO.out).mono ?_
    rintro e w' ⟨rfl, rfl⟩
    go_wp2
    go_ret
    exact ⟨rfl, (Below.refl _ _).alloc (Nat.le_refl _) _⟩
set_option maxHeartbeats 1000000 in
theorem impl_is (v : Value) (b : Int) (rows : List (List Int)) (out : List Int) (w : World) (h : LiesS w v b rows out) :
    Calls Try.prog 30 #[v] w fun e w' => e = .returned (.bool (seqB b rows out)) ∧ Below w.heap.size w w' := by
  by_cases hp : 2 ≤ b ∧ b ≤ 4 ∧ 1 ≤ rows.length ∧ rows.length ≤ 16 ∧ out.length = rows.length
  · obtain ⟨hb1, hb2, h1, h2, h3⟩ := hp
    have HS := Lib.hid h
    obtain ⟨vn, vo, rfl, hn, ho⟩ := h
    have hB : Below w.heap.size w (w.alloc (Obj.cells #[Value.int .i64 b, vn, vo] 27)) := (Below.refl _ _).alloc (Nat.le_refl _) _
    have hC := Cells3.new w 27 (.int .i64 b) vn vo
    obtain ⟨a, ca, rfl, hl, hc⟩ := hn.row
    obtain ⟨hlo, ao, co, rfl, _, hco⟩ := ho
    have hd1 := decide_eq_false (show ¬ (rows.length : Int) < 1 by omega)
    have hd2 := decide_eq_false (show ¬ (rows.length : Int) > 16 by omega)
    have hd3 : ((out.length : Int) != (rows.length : Int)) = false := by rw [h3]; simp
    have H3 := Lib.hid h3
    have HB := Lib.hid hB
    have HC := Lib.hid hC
    clear hc hco hn h3 hB hC
    go_enter Try.func30, Try.ntmps30
    go_wp2_with fail
    refine (Digits.base_yes _ _ hb1 hb2).mono ?_
    rintro e w' ⟨rfl, rfl⟩
    go_wp2_with fail
    obtain ⟨z, hz⟩ : ∃ z, z = w.heap.size := ⟨_, rfl⟩
    rw [← hz] at HC ⊢
    have HZ := Lib.hid hz
    clear hz
    go_loopw [28] (fun i' wr => ∃ i : Nat, i ≤ rows.length ∧ i' = .int .i64 i ∧ Hid (∀ (j : Nat) (r : List Int) (o : Int), j < i → rows[j]? = some r → out[j]? = some o → rowB b rows.length r o = true) ∧ Hid (Cells3 wr z 27 (.int .i64 b) (.slice a rows.length ca) (.slice ao out.length co)) ∧ Hid (Below w.heap.size w wr)) (fun i' _ => rows.length - (intOf i').toNat)
    case atStart => exact ⟨0, Nat.zero_le _, rfl, fun j r o h => by omega, HC, HB⟩
    case round =>
      obtain ⟨i, hi, rfl, HI, HCi, HBi⟩ := hrel
      by_cases hlt : i < rows.length
      · obtain ⟨r, hr⟩ : ∃ r, rows[i]? = some r := ⟨_, List.getElem?_eq_getElem hlt⟩
        obtain ⟨x, hx⟩ : ∃ x, out[i]? = some x := ⟨_, List.getElem?_eq_getElem (by have := H3.out; omega)⟩
        have k0 := HCi.out.c0
        have k1 := HCi.out.c1
        have k2 := HCi.out.c2
        have HR := Lib.hid hr
        have HX := Lib.hid hx
        clear hr hx
        cases hrb : rowB b rows.length r x with
        | false =>
          have HF := Lib.hid (rowB_seq HR.out HX.out hrb)
          have HRB := Lib.hid hrb
          clear hrb
          go_wp2_with fail
          refine (impl_row _ b rows out _ (HS.out.below HBi.out) i r x HR.out HX.out).mono ?_
          rintro e W1 ⟨rfl, hb⟩
          have HB1 := Lib.hid (HBi.out.trans (hb.mono HBi.out.size))
          rw [HRB.out]
          clear hb
          go_wp2
          go_ret
          exact ⟨ret_b HF.out.symm, HB1.out⟩
        | true =>
          have HRB := Lib.hid hrb
          have HN : Hid (∀ (j : Nat) (r : List Int) (o : Int), j < i + 1 → rows[j]? = some r → out[j]? = some o → rowB b rows.length r o = true) := fun j r' o' hj hr' ho' => by
            by_cases e : j = i
            · subst e
              obtain rfl := Option.some.inj (HR.out.symm.trans hr')
              obtain rfl := Option.some.inj (HX.out.symm.trans ho')
              exact HRB.out
            · exact HI.out j r' o' (by omega) hr' ho'
          clear hrb
          go_wp2_with fail
          refine (impl_row _ b rows out _ (HS.out.below HBi.out) i r x HR.out HX.out).mono ?_
          rintro e W1 ⟨rfl, hb⟩
          have HB1 := Lib.hid (HBi.out.trans (hb.mono HBi.out.size))
          have HC1 := Lib.hid (HCi.out.below hb)
          rw [HRB.out]
          clear hb k0 k1 k2
          go_wp2
          go_roundw
          case rel => exact ⟨i + 1, by omega, by go_num, HN, HC1, HB1⟩
          case measure => simp [intOf]; omega
      · have HE := Lib.hid (seq_rows hb1 hb2 h1 h2 H3.out (fun j r o hr ho => HI.out j r o (by have := (List.getElem?_eq_some_iff.1 hr).1; omega) hr ho))
        go_wp2
        go_ret
        exact ⟨ret_b HE.out.symm, HBi.out⟩
  · rw [seqB_no fun hs => hp ⟨hs.1, hs.2.1, hs.2.2.1, hs.2.2.2.1, hs.2.2.2.2.1⟩]
    exact impl_is_no v b rows out w h hp
end Seqs
end Go.Proofs.Ytpndclpmhelikaa
/- Contracts of the exact laws' own helpers on sequences, third part: comparing two that are equal. No conditions beyond those that each states. -/
namespace Go.Proofs.Ytpndclpmhelikaa
open Go.ChangeShapes Go.WideShapes Go.ChangeAt Go.RowKit
open Go.PlainAid Plain
set_option linter.unusedVariables false
namespace Seqs
theorem quiet_more {P : Program} {f : FuncId} {args : Array Value} {w : World} {a n : Nat} {v : Value}
    (h : Calls P f args (w.drewN (a + n)) fun e w' => e = .returned v ∧ ∃ m, w' = (w.drewN (a + n)).drewN m) :
    Calls P f args (w.drewN (a + n)) fun e w'' => e = .returned v ∧ ∃ m, w'' = w.drewN (a + m) :=
  h.mono fun _ _ ⟨he, m, hm⟩ => ⟨he, n + m, by rw [hm, World.drewN_drewN, Nat.add_assoc]⟩
theorem Lies_drewN {v : Value} {xs : List Int} {w : World} (h : Lies (Value.int .i64) w v xs) (n : Nat) : Lies (Value.int .i64) (w.drewN n) v xs := h.below (below_drewN (Below.refl _ _) n)
end Seqs
end Go.Proofs.Ytpndclpmhelikaa
/- Contracts of DigitSum, AreDigits, ValueOf, PadDigits and ReverseDigits, of the program and of the model. No conditions beyond those that each states. -/
namespace Go.Proofs.Ytpndclpmhelikaa
open Go.ChangeShapes Go.WideShapes Go.ChangeAt Go.RowKit
open Go.PlainAid Plain
set_option linter.unusedVariables false
namespace Digits
open Ints

theorem ret_b {a b : Bool} (h : a = b) : Ending.returned (.bool a) = Ending.returned (.bool b) := by rw [h]
theorem spec_are (v : Value) (xs : List Int) (b : Int) (w : World) (h : Lies (Value.int .i64) w v xs) :
    Calls Try.prog 71 #[v, .int .i64 b] w fun e w' => e = .returned (.bool (areD b xs)) ∧ w = w' := by
  obtain ⟨hl, a, ca, rfl, _, hc⟩ := h
  have HC := Lib.hid hc
  clear hc
  go_enter Try.func71, Try.ntmps71
  go_wp2
  go_loop [5] (fun i' => ∃ i : Nat, i ≤ xs.length ∧ i' = .int .i64 i ∧ Hid (∀ j, (hj : j < xs.length) → j < i → 0 ≤ xs[j] ∧ xs[j] < b)) (fun i' => xs.length - (intOf i').toNat)
  case atStart => exact ⟨0, Nat.zero_le _, rfl, fun j hj h => by omega⟩
  case round =>
    obtain ⟨i, hi, rfl, HI⟩ := hrel
    by_cases hlt : i < xs.length
    · obtain ⟨q, r, rfl, hc2⟩ := HC.out i _ (List.getElem?_eq_getElem hlt)
      obtain ⟨x, hx⟩ : ∃ x, x = xs[i] := ⟨_, rfl⟩
      have HX := Lib.hid hx
      rw [← hx] at hc2
      clear hx
      by_cases h0 : x < 0
      · have HE := Lib.hid (areD_at (b := b) i hlt (by rw [← HX.out]; exact .inl h0))
        have hd := decide_eq_true h0
        go_wp2
        go_ret
        exact ⟨ret_b HE.out.symm, rfl⟩
      · by_cases h1 : b ≤ x
        · have HE := Lib.hid (areD_at (b := b) i hlt (by rw [← HX.out]; exact .inr h1))
          have hd := decide_eq_false h0
          have hd1 := decide_eq_true h1
          go_wp2
          go_ret
          exact ⟨ret_b HE.out.symm, rfl⟩
        · have HN : Hid (∀ j, (hj : j < xs.length) → j < i + 1 → 0 ≤ xs[j] ∧ xs[j] < b) := fun j hj h => by
            by_cases e : j = i
            · subst e; rw [← HX.out]; omega
            · exact HI.out j hj (by omega)
          have hd := decide_eq_false h0
          have hd1 := decide_eq_false h1
          go_wp2
          go_round
          case rel => exact ⟨i + 1, by omega, by go_num, HN⟩
          case measure => simp [intOf]; omega
    · by_cases hb : 2 ≤ b ∧ b ≤ 4
      · obtain ⟨hb1, hb2⟩ := hb
        by_cases h16 : xs.length ≤ 16
        · have HE := Lib.hid (areD_yes hb1 hb2 h16 (mem_of_all (fun j hj => HI.out j hj (by omega))))
          have hd := decide_eq_true (show (xs.length : Int) ≤ 16 by omega)
          go_wp2_with (go_at_call 55; refine (l1In_yes _ _ _ _ hb1 hb2).mono ?_; rintro e w' ⟨rfl, rfl⟩)
          go_ret
          exact ⟨ret_b HE.out.symm, rfl⟩
        · have HE := Lib.hid (areD_long (b := b) (xs := xs) (by omega))
          have hd := decide_eq_false (show ¬ (xs.length : Int) ≤ 16 by omega)
          go_wp2_with (go_at_call 55; refine (l1In_yes _ _ _ _ hb1 hb2).mono ?_; rintro e w' ⟨rfl, rfl⟩)
          go_ret
          exact ⟨ret_b HE.out.symm, rfl⟩
      · have hb3 : b < 2 ∨ 4 < b := by omega
        have HE := Lib.hid (areD_base xs hb3)
        have HB := Lib.hid hb3
        clear hb hb3
        go_wp2_with (go_at_call 55; refine (l1In_no _ _ _ _ HB.out).mono ?_; rintro e w' ⟨rfl, rfl⟩)
        go_ret
        exact ⟨ret_b HE.out.symm, rfl⟩
/-- The number of some digits, -1 where they are none. -/
def valV (b : Int) (xs : List Int) : Int := if areD b xs = true then valD b.toNat xs else -1
theorem valV_yes {b : Nat} {xs : List Int} (h : areD b xs = true) : valV b xs = valD b xs := by rw [valV, if_pos h]; rfl
theorem valV_no {b : Int} {xs : List Int} (h : areD b xs = false) : valV b xs = -1 := by rw [valV, if_neg (by simp [h])]
theorem val_bounds {b : Nat} {xs : List Int} (h : areD b xs = true) (i : Nat) (hi : i < xs.length) : (0 ≤ valD b (xs.take i) ∧ valD b (xs.take i) ≤ 4294967296) ∧ (0 ≤ valD b (xs.take i) * (b : Int) ∧ valD b (xs.take i) * (b : Int) ≤ 4294967296) ∧ 0 ≤ xs[i] ∧ xs[i] ≤ 4 := by
  obtain ⟨h1, h2, h3, h4⟩ := areD_out h
  have ha := valD_bd b (by omega) i xs (by omega) h4
  have hp := pow_bd b i (by omega) (by omega) (by omega)
  have hb := valD_bd b (by omega) (i + 1) xs (by omega) h4
  have hq := pow_bd b (i + 1) (by omega) (by omega) (by omega)
  have hx := h4 xs[i] (List.getElem_mem _)
  rw [List.take_succ_eq_append_getElem hi, valD_snoc] at hb
  have : 0 ≤ valD b (xs.take i) * (b : Int) := Int.mul_nonneg ha.1 (by omega)
  omega
end Digits
end Go.Proofs.Ytpndclpmhelikaa
/- Contracts of IsSteady, StateAfter and TermAt, of the program and of the model. No conditions beyond those that each states. -/
namespace Go.Proofs.Ytpndclpmhelikaa
open Go.ChangeShapes Go.WideShapes Go.ChangeAt Go.RowKit
open Go.PlainAid Plain
set_option linter.unusedVariables false
namespace Seqs
theorem IsSeq.first {b : Int} {rows : List (List Int)} {out : List Int} (h : IsSeq b rows out) : ∃ r, rows[0]? = some r ∧ r[0]? = some (nextS rows 0 0) := by
  obtain ⟨r, h1, h2, _⟩ := h.next (s := 0) (d := 0) (Int.le_refl _) (by have := h.2.2.1; omega) (Int.le_refl _) (by have := h.1; omega)
  exact ⟨r, h1, h2⟩
theorem spec_steady (v : Value) (b : Int) (rows : List (List Int)) (out : List Int) (w : World) (h : LiesS w v b rows out) :
    Calls Try.prog 51 #[v] w fun e w' => e = .returned (.bool (steadyB b rows out)) ∧ Below w.heap.size w w' := by
  have HS := Lib.hid h
  obtain ⟨an, cn, ao, co, rfl⟩ := h.form
  clear h
  have hB : Below w.heap.size w (w.alloc (Obj.cells #[Value.int .i64 b, Value.slice an rows.length cn, Value.slice ao out.length co] 27)) := (Below.refl _ _).alloc (Nat.le_refl _) _
  have HC := Lib.hid (Cells3.new w 27 (.int .i64 b) (.slice an rows.length cn) (.slice ao out.length co))
  have HB := Lib.hid hB
  clear hB
  cases hs : seqB b rows out with
  | false =>
    have HQ := Lib.hid hs
    have HE : Hid (steadyB b rows out = false) := by show _ = _; rw [steadyB, hs]; rfl
    clear hs
    go_enter Try.func51, Try.ntmps51
    go_wp2_with fail
    refine (spec_is _ b rows out _ (HS.out.below HB.out)).mono ?_
    rintro e W1 ⟨rfl, b1⟩
    have HB1 := Lib.hid (HB.out.trans (b1.mono HB.out.size))
    rw [HQ.out]
    clear b1
    go_wp2
    go_ret
    exact ⟨ret_b HE.out.symm, HB1.out⟩
  | true =>
    have HQ := Lib.hid hs
    obtain ⟨x, hx⟩ : ∃ x, x = nextS rows 0 0 := ⟨_, rfl⟩
    have HE : Hid (steadyB b rows out = (x == 0)) := by show _ = _; rw [steadyB, hs, hx]; rfl
    obtain ⟨r, hr, hr0⟩ := IsSeq.first (seqB_out hs)
    rw [← hx] at hr0
    have HR := Lib.hid hr
    have HR0 := Lib.hid hr0
    clear hs hx hr hr0
    go_enter Try.func51, Try.ntmps51
    go_wp2_with fail
    refine (spec_is _ b rows out _ (HS.out.below HB.out)).mono ?_
    rintro e W1 ⟨rfl, b1⟩
    have HB1 := Lib.hid (HB.out.trans (b1.mono HB.out.size))
    have HC1 := Lib.hid (HC.out.below b1)
    rw [HQ.out]
    clear b1
    obtain ⟨hN, _⟩ := (HS.out.below HB1.out).cells
    obtain ⟨p, o, a', c', rfl, hcell, hrow⟩ := hN 0 r HR.out
    obtain ⟨q, s, rfl, hc0⟩ := hrow 0 x HR0.out
    have hrl : 0 < r.length := (List.getElem?_eq_some_iff.1 HR0.out).1
    have hrr : 0 < rows.length := (List.getElem?_eq_some_iff.1 HR.out).1
    rw [Nat.add_zero] at hcell hc0
    clear hN hrow
    have k0 := HC1.out.c0
    have k1 := HC1.out.c1
    have k2 := HC1.out.c2
    go_wp2
    go_ret
    exact ⟨ret_b HE.out.symm, HB1.out⟩
theorem impl_steady (v : Value) (b : Int) (rows : List (List Int)) (out : List Int) (w : World) (h : LiesS w v b rows out) :
    Calls Try.prog 46 #[v] w fun e w' => e = .returned (.bool (steadyB b rows out)) ∧ Below w.heap.size w w' := by
  have HS := Lib.hid h
  obtain ⟨an, cn, ao, co, rfl⟩ := h.form
  clear h
  have hB : Below w.heap.size w (w.alloc (Obj.cells #[Value.int .i64 b, Value.slice an rows.length cn, Value.slice ao out.length co] 27)) := (Below.refl _ _).alloc (Nat.le_refl _) _
  have HC := Lib.hid (Cells3.new w 27 (.int .i64 b) (.slice an rows.length cn) (.slice ao out.length co))
  have HB := Lib.hid hB
  clear hB
  cases hs : seqB b rows out with
  | false =>
    have HQ := Lib.hid hs
    have HE : Hid (steadyB b rows out = false) := by show _ = _; rw [steadyB, hs]; rfl
    clear hs
    go_enter Try.func46, Try.ntmps46
    go_wp2_with fail
    refine (impl_is _ b rows out _ (HS.out.below HB.out)).mono ?_
    rintro e W1 ⟨rfl, b1⟩
    have HB1 := Lib.hid (HB.out.trans (b1.mono HB.out.size))
    rw [HQ.out]
    clear b1
    go_wp2
    go_ret
    exact ⟨ret_b HE.out.symm, HB1.out⟩
  | true =>
    have HQ := Lib.hid hs
    obtain ⟨x, hx⟩ : ∃ x, x = nextS rows 0 0 := ⟨_, rfl⟩
    have HE : Hid (steadyB b rows out = (x == 0)) := by show _ = _; rw [steadyB, hs, hx]; rfl
    obtain ⟨r, hr, hr0⟩ := IsSeq.first (seqB_out hs)
    rw [← hx] at hr0
    have HR := Lib.hid hr
    have HR0 := Lib.hid hr0
    clear hs hx hr hr0
    go_enter Try.func46, Try.ntmps46
    go_wp2_with fail
    refine (impl_is _ b rows out _ (HS.out.below HB.out)).mono ?_
    rintro e W1 ⟨rfl, b1⟩
    have HB1 := Lib.hid (HB.out.trans (b1.mono HB.out.size))
    have HC1 := Lib.hid (HC.out.below b1)
    rw [HQ.out]
    clear b1
    obtain ⟨hN, _⟩ := (HS.out.below HB1.out).cells
    obtain ⟨p, o, a', c', rfl, hcell, hrow⟩ := hN 0 r HR.out
    obtain ⟨q, s, rfl, hc0⟩ := hrow 0 x HR0.out
    have hrl : 0 < r.length := (List.getElem?_eq_some_iff.1 HR0.out).1
    have hrr : 0 < rows.length := (List.getElem?_eq_some_iff.1 HR.out).1
    rw [Nat.add_zero] at hcell hc0
    clear hN hrow
    have k0 := HC1.out.c0
    have k1 := HC1.out.c1
    have k2 := HC1.out.c2
    go_wp2
    go_ret
    exact ⟨ret_b HE.out.symm, HB1.out⟩
end Seqs
end Go.Proofs.Ytpndclpmhelikaa
/- Contracts of StateAfter, of the program and of the model. No conditions beyond those that each states. -/
namespace Go.Proofs.Ytpndclpmhelikaa
open Go.ChangeShapes Go.WideShapes Go.ChangeAt Go.RowKit
open Go.PlainAid Plain
set_option linter.unusedVariables false
namespace Seqs
theorem spec_after_no (v : Value) (b : Int) (rows : List (List Int)) (out : List Int) (w : World) (h : LiesS w v b rows out) (u : Value) (ds : List Int) (hu : Lies (Value.int .i64) w u ds) (hno : seqB b rows out = false ∨ areD b ds = false) :
    Calls Try.prog 60 #[v, u] w fun e w' => e = .returned (.int .i64 (-1)) ∧ Below w.heap.size w w' := by
  have HS := Lib.hid h
  obtain ⟨an, cn, ao, co, rfl⟩ := h.form
  clear h
  have hB : Below w.heap.size w (w.alloc (Obj.cells #[Value.int .i64 b, Value.slice an rows.length cn, Value.slice ao out.length co] 27)) := (Below.refl _ _).alloc (Nat.le_refl _) _
  have HC := Lib.hid (Cells3.new w 27 (.int .i64 b) (.slice an rows.length cn) (.slice ao out.length co))
  have HB := Lib.hid hB
  clear hB
  have HU := Lib.hid hu
  obtain ⟨_, au, cu, rfl, _, _⟩ := hu
  cases hs : seqB b rows out with
  | false =>
    have HQ := Lib.hid hs
    clear hs hno
    go_enter Try.func60, Try.ntmps60
    go_wp2_with fail
    refine (spec_is _ b rows out _ (HS.out.below HB.out)).mono ?_
    rintro e W1 ⟨rfl, b1⟩
    have HB1 := Lib.hid (HB.out.trans (b1.mono HB.out.size))
    rw [HQ.out]
    clear b1
    go_wp2
    go_ret
    exact ⟨rfl, HB1.out⟩
  | true =>
    have HQ := Lib.hid hs
    have HA : Hid (areD b ds = false) := by
      rcases hno with h1 | h1
      · rw [hs] at h1; cases h1
      · exact h1
    clear hs hno
    go_enter Try.func60, Try.ntmps60
    go_wp2_with fail
    refine (spec_is _ b rows out _ (HS.out.below HB.out)).mono ?_
    rintro e W1 ⟨rfl, b1⟩
    have HB1 := Lib.hid (HB.out.trans (b1.mono HB.out.size))
    have HC1 := Lib.hid (HC.out.below b1)
    rw [HQ.out]
    clear b1
    have k0 := HC1.out.c0
    have k1 := HC1.out.c1
    have k2 := HC1.out.c2
    go_wp2_with fail
    refine (Digits.spec_are _ ds b _ (HU.out.below HB1.out)).mono ?_
    rintro e w' ⟨rfl, rfl⟩
    rw [HA.out]
    go_wp2
    go_ret
    exact ⟨rfl, HB1.out⟩
theorem spec_after_yes (v : Value) (b : Int) (rows : List (List Int)) (out : List Int) (w : World) (h : LiesS w v b rows out) (u : Value) (ds : List Int) (hu : Lies (Value.int .i64) w u ds) (hs : seqB b rows out = true) (ha : areD b ds = true) :
    Calls Try.prog 60 #[v, u] w fun e w' => e = .returned (.int .i64 (afterS rows ds)) ∧ Below w.heap.size w w' := by
  have HS := Lib.hid h
  obtain ⟨an, cn, ao, co, rfl⟩ := h.form
  clear h
  have hB : Below w.heap.size w (w.alloc (Obj.cells #[Value.int .i64 b, Value.slice an rows.length cn, Value.slice ao out.length co] 27)) := (Below.refl _ _).alloc (Nat.le_refl _) _
  have HC := Lib.hid (Cells3.new w 27 (.int .i64 b) (.slice an rows.length cn) (.slice ao out.length co))
  have HB := Lib.hid hB
  clear hB
  have HU := Lib.hid hu
  obtain ⟨hul, au, cu, rfl, _, _⟩ := hu
  have HQ := Lib.hid hs
  have HA := Lib.hid ha
  have HV := Lib.hid (seqB_out hs)
  have HD := Lib.hid (areD_out ha).2.2.2
  have HN0 := Lib.hid (seqB_out hs).2.2.1
  clear hs ha
  go_enter Try.func60, Try.ntmps60
  go_wp2_with fail
  refine (spec_is _ b rows out _ (HS.out.below HB.out)).mono ?_
  rintro e W1 ⟨rfl, b1⟩
  have HB1 := Lib.hid (HB.out.trans (b1.mono HB.out.size))
  have HC1 := Lib.hid (HC.out.below b1)
  rw [HQ.out]
  clear b1
  have k0 := HC1.out.c0
  have k1 := HC1.out.c1
  have k2 := HC1.out.c2
  go_wp2_with fail
  refine (Digits.spec_are _ ds b _ (HU.out.below HB1.out)).mono ?_
  rintro e w' ⟨rfl, rfl⟩
  rw [HA.out]
  obtain ⟨hN, _⟩ := (HS.out.below HB1.out).cells
  obtain ⟨_, au', cu', hua, _, huc⟩ := HU.out.below HB1.out
  injection hua with hua1 _ _
  subst hua1
  have HN := Lib.hid hN
  have HUC := Lib.hid huc
  have HBn : Hid (∀ n, Below w.heap.size w (W1.drewN n)) := fun n => below_drewN HB1.out n
  clear hN huc
  go_wp2
  go_loopw [5, 6] (fun s' i' wr => ∃ i sn : Nat, i ≤ ds.length ∧ i' = .int .i64 i ∧ s' = .int .i64 sn ∧ Hid ((sn : Int) = afterS rows (ds.take i)) ∧ ∃ n, wr = W1.drewN n) (fun _ i' _ => ds.length - (intOf i').toNat)
  case atStart => exact ⟨0, 0, Nat.zero_le _, rfl, rfl, rfl, 0, rfl⟩
  case round =>
    obtain ⟨i, sn, hi, rfl, rfl, HI, n, rfl⟩ := hrel
    by_cases hlt : i < ds.length
    · obtain ⟨dn, yn, hd, hsn, hyn, hy, r, hr, hry⟩ := HV.out.after_step HD.out hlt HI.out
      obtain ⟨g, t, rfl, hcd⟩ := HUC.out i _ hd
      obtain ⟨p, o, a', c', rfl, hcell, hrow⟩ := HN.out sn r hr
      obtain ⟨q, s, rfl, hcy⟩ := hrow dn _ hry
      have hdn := (List.getElem?_eq_some_iff.1 hry).1
      have HY := Lib.hid hy
      clear hd hy hr hry hrow
      go_wp2
      go_quiet (fail)
      go_wp2
      go_roundw
      case rel => exact ⟨i + 1, yn, by omega, by go_num, rfl, HY.out, _, rfl⟩
      case measure => simp [intOf]; omega
    · have HE : Hid ((sn : Int) = afterS rows ds) := by
        have := HI.out
        rw [List.take_of_length_le (by omega)] at this
        exact this
      go_wp2
      go_ret
      exact ⟨ret_i HE.out, HBn.out _⟩
theorem impl_walk (v : Value) (b : Int) (rows : List (List Int)) (out : List Int) (w : World) (h : LiesS w v b rows out) (u : Value) (ds : List Int) (hu : Lies (Value.int .i64) w u ds) (hv : IsSeq b rows out) (hd : ∀ d ∈ ds, 0 ≤ d ∧ d < b) :
    Calls Try.prog 57 #[v, u] w fun e w' => e = .returned (.int .i64 (afterS rows ds)) ∧ Below w.heap.size w w' := by
  have HS := Lib.hid h
  obtain ⟨an, cn, ao, co, rfl⟩ := h.form
  clear h
  have hB : Below w.heap.size w (w.alloc (Obj.cells #[Value.int .i64 b, Value.slice an rows.length cn, Value.slice ao out.length co] 27)) := (Below.refl _ _).alloc (Nat.le_refl _) _
  have HC := Lib.hid (Cells3.new w 27 (.int .i64 b) (.slice an rows.length cn) (.slice ao out.length co))
  have HB := Lib.hid hB
  clear hB
  have HU := Lib.hid hu
  obtain ⟨hul, au, cu, rfl, _, _⟩ := hu
  have HV := Lib.hid hv
  have HD := Lib.hid hd
  clear hv hd
  obtain ⟨W, hW⟩ : ∃ W, W = w.alloc (Obj.cells #[Value.int .i64 b, Value.slice an rows.length cn, Value.slice ao out.length co] 27) := ⟨_, rfl⟩
  obtain ⟨z, hz⟩ : ∃ z, z = w.heap.size := ⟨_, rfl⟩
  go_enter Try.func57, Try.ntmps57
  go_wp2
  rw [← hW] at HC HB ⊢
  obtain ⟨hN, _⟩ := (HS.out.below HB.out).cells
  obtain ⟨_, au', cu', hua, _, huc⟩ := HU.out.below HB.out
  injection hua with hua1 _ _
  subst hua1
  have HN := Lib.hid hN
  have HUC := Lib.hid huc
  have k1 := HC.out.c1
  rw [← hz] at k1 ⊢
  clear hN huc hW hz
  go_loop [5, 10] (fun s' i' => ∃ i sn : Nat, i ≤ ds.length ∧ i' = .int .i64 i ∧ s' = .int .i64 sn ∧ Hid ((sn : Int) = afterS rows (ds.take i))) (fun _ i' => ds.length - (intOf i').toNat)
  case atStart => exact ⟨0, 0, Nat.zero_le _, rfl, rfl, rfl⟩
  case round =>
    obtain ⟨i, sn, hi, rfl, rfl, HI⟩ := hrel
    by_cases hlt : i < ds.length
    · obtain ⟨dn, yn, hd, hsn, hyn, hy, r, hr, hry⟩ := HV.out.after_step HD.out hlt HI.out
      obtain ⟨g, t, rfl, hcd⟩ := HUC.out i _ hd
      obtain ⟨p, o, a', c', rfl, hcell, hrow⟩ := HN.out sn r hr
      obtain ⟨q, s, rfl, hcy⟩ := hrow dn _ hry
      have hdn := (List.getElem?_eq_some_iff.1 hry).1
      have HY := Lib.hid hy
      clear hd hy hr hry hrow
      go_wp2
      go_round
      case rel => exact ⟨i + 1, yn, by omega, by go_num, rfl, HY.out⟩
      case measure => simp [intOf]; omega
    · have HE : Hid ((sn : Int) = afterS rows ds) := by
        have := HI.out
        rw [List.take_of_length_le (by omega)] at this
        exact this
      go_wp2
      go_ret
      exact ⟨ret_i HE.out, HB.out⟩
theorem spec_after (v : Value) (b : Int) (rows : List (List Int)) (out : List Int) (w : World) (h : LiesS w v b rows out) (u : Value) (ds : List Int) (hu : Lies (Value.int .i64) w u ds) :
    Calls Try.prog 60 #[v, u] w fun e w' => e = .returned (.int .i64 (afterV b rows out (areD b ds) ds)) ∧ Below w.heap.size w w' := by
  cases hs : seqB b rows out with
  | false => rw [afterV, if_neg (by simp [hs])]; exact spec_after_no v b rows out w h u ds hu (.inl hs)
  | true =>
    cases ha : areD b ds with
    | false => rw [afterV, if_neg (by simp)]; exact spec_after_no v b rows out w h u ds hu (.inr ha)
    | true => rw [afterV, if_pos ⟨hs, rfl⟩]; exact spec_after_yes v b rows out w h u ds hu hs ha
end Seqs
end Go.Proofs.Ytpndclpmhelikaa
/- Contracts of TermAt, of the program and of the model. No conditions beyond those that each states. -/
namespace Go.Proofs.Ytpndclpmhelikaa
open Go.ChangeShapes Go.WideShapes Go.ChangeAt Go.RowKit
open Go.PlainAid Plain
set_option linter.unusedVariables false
namespace Seqs
theorem cell_below {w w' : World} {p : Addr} {x : Value} (h : w.cell? p = some x) (hb : Below w.heap.size w w') : w'.cell? p = some x := (hb.cell (World.block_lt_of_cell? w p h)).trans h
open Digits
/-- May the term be asked for? -/
def askB (b : Int) (rows : List (List Int)) (out : List Int) (n : Int) : Bool := seqB b rows out && decide (0 ≤ n) && decide (n < powV b 16)
/-- The term n, -1 where it may not be asked for. -/
def termV (b : Int) (rows : List (List Int)) (out : List Int) (n : Int) : Int := if askB b rows out n = true then out.getD (afterS rows (digV n b)).toNat 0 else -1
theorem dig_ok {b : Int} {rows : List (List Int)} {out : List Int} (h : IsSeq b rows out) (n : Int) : (∀ d ∈ digV n b, 0 ≤ d ∧ d < b) ∧ areD b (digV n b) = true := by
  have hm : ∀ d ∈ digV n b, 0 ≤ d ∧ d < b := by
    intro d hd
    unfold digV at hd
    split at hd
    · have := digs_mem n.toNat b.toNat (by have := h.1; omega) d hd
      have := h.1
      omega
    · cases hd
  exact ⟨hm, areD_yes h.1 h.2.1 (digV_len n b) hm⟩
set_option maxHeartbeats 1000000 in
theorem impl_term (v : Value) (b : Int) (rows : List (List Int)) (out : List Int) (w : World) (h : LiesS w v b rows out) (n : Int) (hv : IsSeq b rows out) :
    Calls Try.prog 36 #[v, .int .i64 n] w fun e w' => e = .returned (.int .i64 (out.getD (afterS rows (digV n b)).toNat 0)) ∧ Below w.heap.size w w' := by
  have HS := Lib.hid h
  obtain ⟨an, cn, ao, co, rfl⟩ := h.form
  clear h
  have hB : Below w.heap.size w (w.alloc (Obj.cells #[Value.int .i64 b, Value.slice an rows.length cn, Value.slice ao out.length co] 27)) := (Below.refl _ _).alloc (Nat.le_refl _) _
  have HC := Lib.hid (Cells3.new w 27 (.int .i64 b) (.slice an rows.length cn) (.slice ao out.length co))
  have HB := Lib.hid hB
  clear hB
  obtain ⟨hdm, hda⟩ := dig_ok hv n
  obtain ⟨sn, hsn, hsl, hso⟩ := hv.term_at hdm
  obtain ⟨t, ht⟩ : ∃ t, t = out.getD (afterS rows (digV n b)).toNat 0 := ⟨_, rfl⟩
  rw [← ht] at hso ⊢
  have HSN := Lib.hid hsn
  have HV := Lib.hid hv
  have HDM := Lib.hid hdm
  clear hv hda hsn ht hdm
  go_enter Try.func36, Try.ntmps36
  go_wp2_with fail
  obtain ⟨W1, hW⟩ : ∃ W, W = w.alloc (Obj.cells #[Value.int .i64 b, Value.slice an rows.length cn, Value.slice ao out.length co] 27) := ⟨_, rfl⟩
  rw [← hW] at HC HB ⊢
  have HC1 := Lib.hid HC.out
  have HB1 := Lib.hid HB.out
  obtain ⟨_, hO⟩ := (HS.out.below HB1.out).cells
  obtain ⟨q, s, rfl, hct⟩ := hO sn t hso
  clear hO hW HC HB hso
  have hs0 : (0 : Int) ≤ (sn : Int) := Int.natCast_nonneg _
  have hs1 : (sn : Int) < (out.length : Int) := by omega
  have bd := below_drew' W1
  have HCd := Lib.hid (HC1.out.below bd)
  have HBd := Lib.hid (HB1.out.trans (bd.mono HB1.out.size))
  have hcd := Lib.hid (cell_below hct bd)
  obtain ⟨Wd, hWd⟩ : ∃ W, W = W1.drew := ⟨_, rfl⟩
  rw [← hWd] at HCd HBd hcd
  clear bd hct
  go_region_held3 (fun w' => w'.cell? ⟨w.heap.size, 0, none⟩ = some (.int .i64 b) ∧ w'.cell? ⟨w.heap.size, 1, none⟩ = some (.slice an rows.length cn) ∧ w'.cell? ⟨w.heap.size, 2, none⟩ = some (.slice (some ⟨q, s, none⟩) out.length co) ∧ w'.cell? ⟨q, s + sn, none⟩ = some (.int .i64 t))
    (first | (rw [← hWd]; exact ⟨HCd.out.c0, HCd.out.c1, HCd.out.c2, hcd.out⟩) | exact ⟨(HCd.out.below bt).c0, (HCd.out.below bt).c1, (HCd.out.below bt).c2, cell_below hcd.out bt⟩ | exact ⟨((HCd.out.below bt).below bu).c0, ((HCd.out.below bt).below bu).c1, ((HCd.out.below bt).below bu).c2, cell_below (cell_below hcd.out bt) bu⟩)
    (first | (go_at_call 58; rw [← hWd]; refine (impl_digits_any n b _).mono ?_; rintro e Wt ⟨vt, rfl, ht, bt⟩) | (go_at_call 57; refine (impl_walk _ b rows out _ (HS.out.below (HBd.out.trans (bt.mono HBd.out.size))) _ (digV n b) ht.lies HV.out HDM.out).mono ?_; rintro e Wu ⟨rfl, bu⟩; rw [← HSN.out]))
  have HBe := Lib.hid ((HBd.out.trans (bt.mono HBd.out.size)).trans (bu.mono (HBd.out.trans (bt.mono HBd.out.size)).size))
  clear bt bu ht hWd HBd HCd hcd
  go_wp2
  go_ret
  exact ⟨rfl, HBe.out⟩
set_option maxHeartbeats 1000000 in
theorem spec_term_yes (v : Value) (b : Int) (rows : List (List Int)) (out : List Int) (w : World) (h : LiesS w v b rows out) (n : Int) (hq : seqB b rows out = true) (h0 : 0 ≤ n) (h1 : n < powV b 16) :
    Calls Try.prog 37 #[v, .int .i64 n] w fun e w' => e = .returned (.int .i64 (out.getD (afterS rows (digV n b)).toNat 0)) ∧ Below w.heap.size w w' := by
  have HS := Lib.hid h
  obtain ⟨an, cn, ao, co, rfl⟩ := h.form
  clear h
  have hB : Below w.heap.size w (w.alloc (Obj.cells #[Value.int .i64 b, Value.slice an rows.length cn, Value.slice ao out.length co] 27)) := (Below.refl _ _).alloc (Nat.le_refl _) _
  have HC := Lib.hid (Cells3.new w 27 (.int .i64 b) (.slice an rows.length cn) (.slice ao out.length co))
  have HB := Lib.hid hB
  clear hB
  have hv := seqB_out hq
  obtain ⟨hdm, hda⟩ := dig_ok hv n
  obtain ⟨sn, hsn, hsl, hso⟩ := hv.term_at hdm
  obtain ⟨t, ht⟩ : ∃ t, t = out.getD (afterS rows (digV n b)).toNat 0 := ⟨_, rfl⟩
  rw [← ht] at hso ⊢
  have HSN := Lib.hid hsn
  have HQ := Lib.hid hq
  have HDA := Lib.hid hda
  have HSO := Lib.hid hso
  have HP := Lib.hid (fun w => spec_pow_any b 16 w)
  obtain ⟨p, hp⟩ : ∃ p, p = powV b 16 := ⟨_, rfl⟩
  rw [← hp] at HP h1
  clear hv hda hsn ht hdm hq hso hp
  have hd0 := decide_eq_false (show ¬ n < 0 by omega)
  have hd1 := decide_eq_false (show ¬ p ≤ n by omega)
  go_enter Try.func37, Try.ntmps37
  go_wp2_with fail
  refine (spec_is _ b rows out _ (HS.out.below HB.out)).mono ?_
  rintro e W1 ⟨rfl, b1⟩
  have HB1 := Lib.hid (HB.out.trans (b1.mono HB.out.size))
  have HC1 := Lib.hid (HC.out.below b1)
  rw [HQ.out]
  clear b1 HB HC
  have k0 := HC1.out.c0
  have k1 := HC1.out.c1
  have k2 := HC1.out.c2
  go_wp2_with fail
  refine (HP.out _).mono ?_
  rintro e w' ⟨rfl, rfl⟩
  go_wp2_with fail
  obtain ⟨_, hO⟩ := (HS.out.below HB1.out).cells
  obtain ⟨q, s, rfl, hct⟩ := hO sn t HSO.out
  clear hO k0 k1 k2
  have hs0 : (0 : Int) ≤ (sn : Int) := Int.natCast_nonneg _
  have hs1 : (sn : Int) < (out.length : Int) := by omega
  have bd := below_drew' W1
  have HCd := Lib.hid (HC1.out.below bd)
  have HBd := Lib.hid (HB1.out.trans (bd.mono HB1.out.size))
  have hcd := Lib.hid (cell_below hct bd)
  obtain ⟨Wd, hWd⟩ : ∃ W, W = W1.drew := ⟨_, rfl⟩
  rw [← hWd] at HCd HBd hcd
  clear bd hct
  go_region_held3 (fun w' => w'.cell? ⟨w.heap.size, 0, none⟩ = some (.int .i64 b) ∧ w'.cell? ⟨w.heap.size, 1, none⟩ = some (.slice an rows.length cn) ∧ w'.cell? ⟨w.heap.size, 2, none⟩ = some (.slice (some ⟨q, s, none⟩) out.length co) ∧ w'.cell? ⟨q, s + sn, none⟩ = some (.int .i64 t))
    (first | (rw [← hWd]; exact ⟨HCd.out.c0, HCd.out.c1, HCd.out.c2, hcd.out⟩) | exact ⟨(HCd.out.below bt).c0, (HCd.out.below bt).c1, (HCd.out.below bt).c2, cell_below hcd.out bt⟩ | exact ⟨((HCd.out.below bt).below bu).c0, ((HCd.out.below bt).below bu).c1, ((HCd.out.below bt).below bu).c2, cell_below (cell_below hcd.out bt) bu⟩)
    (first | (go_at_call 61; rw [← hWd]; refine (spec_digits_any n b _).mono ?_; rintro e Wt ⟨vt, rfl, ht, bt⟩) | (go_at_call 60; refine (spec_after_yes _ b rows out _ (HS.out.below (HBd.out.trans (bt.mono HBd.out.size))) _ (digV n b) ht.lies HQ.out HDA.out).mono ?_; rintro e Wu ⟨rfl, bu⟩; rw [← HSN.out]))
  have HBe := Lib.hid ((HBd.out.trans (bt.mono HBd.out.size)).trans (bu.mono (HBd.out.trans (bt.mono HBd.out.size)).size))
  clear bt bu ht hWd HBd HCd hcd
  go_wp2
  go_ret
  exact ⟨rfl, HBe.out⟩
theorem impl_term_yes (v : Value) (b : Int) (rows : List (List Int)) (out : List Int) (w : World) (h : LiesS w v b rows out) (n : Int) (hq : seqB b rows out = true) (h0 : 0 ≤ n) (h1 : n < powV b 16) :
    Calls Try.prog 23 #[v, .int .i64 n] w fun e w' => e = .returned (.int .i64 (out.getD (afterS rows (digV n b)).toNat 0)) ∧ Below w.heap.size w w' := by
  have HS := Lib.hid h
  obtain ⟨an, cn, ao, co, rfl⟩ := h.form
  clear h
  have hB : Below w.heap.size w (w.alloc (Obj.cells #[Value.int .i64 b, Value.slice an rows.length cn, Value.slice ao out.length co] 27)) := (Below.refl _ _).alloc (Nat.le_refl _) _
  have HC := Lib.hid (Cells3.new w 27 (.int .i64 b) (.slice an rows.length cn) (.slice ao out.length co))
  have HB := Lib.hid hB
  clear hB
  have HV := Lib.hid (seqB_out hq)
  have HQ := Lib.hid hq
  have HP := Lib.hid (fun w => impl_pow_any b 16 w)
  obtain ⟨p, hp⟩ : ∃ p, p = powV b 16 := ⟨_, rfl⟩
  rw [← hp] at HP h1
  obtain ⟨t, ht⟩ : ∃ t, t = out.getD (afterS rows (digV n b)).toNat 0 := ⟨_, rfl⟩
  have HT := Lib.hid ht
  rw [← ht]
  clear hq hp ht
  have hd0 := decide_eq_false (show ¬ n < 0 by omega)
  have hd1 := decide_eq_false (show ¬ p ≤ n by omega)
  go_enter Try.func23, Try.ntmps23
  go_wp2_with fail
  refine (impl_is _ b rows out _ (HS.out.below HB.out)).mono ?_
  rintro e W1 ⟨rfl, b1⟩
  have HB1 := Lib.hid (HB.out.trans (b1.mono HB.out.size))
  have HC1 := Lib.hid (HC.out.below b1)
  rw [HQ.out]
  clear b1 HB HC
  have k0 := HC1.out.c0
  have k1 := HC1.out.c1
  have k2 := HC1.out.c2
  go_wp2_with fail
  refine (HP.out _).mono ?_
  rintro e w' ⟨rfl, rfl⟩
  go_wp2_with fail
  refine (impl_term _ b rows out _ (HS.out.below HB1.out) n HV.out).mono ?_
  rintro e W2 ⟨rfl, b2⟩
  have HB2 := Lib.hid (HB1.out.trans (b2.mono HB1.out.size))
  rw [← HT.out]
  clear b2 k0 k1 k2
  go_wp2
  go_ret
  exact ⟨rfl, HB2.out⟩
theorem spec_term_no (v : Value) (b : Int) (rows : List (List Int)) (out : List Int) (w : World) (h : LiesS w v b rows out) (n : Int) (hno : askB b rows out n = false) :
    Calls Try.prog 37 #[v, .int .i64 n] w fun e w' => e = .returned (.int .i64 (-1)) ∧ Below w.heap.size w w' := by
  have HS := Lib.hid h
  obtain ⟨an, cn, ao, co, rfl⟩ := h.form
  clear h
  have hB : Below w.heap.size w (w.alloc (Obj.cells #[Value.int .i64 b, Value.slice an rows.length cn, Value.slice ao out.length co] 27)) := (Below.refl _ _).alloc (Nat.le_refl _) _
  have HC := Lib.hid (Cells3.new w 27 (.int .i64 b) (.slice an rows.length cn) (.slice ao out.length co))
  have HB := Lib.hid hB
  clear hB
  by_cases h0 : n < 0
  · have hd0 := decide_eq_true h0
    clear hno h0
    go_enter Try.func37, Try.ntmps37
    go_wp2
    go_ret
    exact ⟨rfl, HB.out⟩
  · have hd0 := decide_eq_false h0
    cases hq : seqB b rows out with
    | false =>
      have HQ := Lib.hid hq
      clear hq hno
      go_enter Try.func37, Try.ntmps37
      go_wp2_with fail
      refine (spec_is _ b rows out _ (HS.out.below HB.out)).mono ?_
      rintro e W1 ⟨rfl, b1⟩
      have HB1 := Lib.hid (HB.out.trans (b1.mono HB.out.size))
      have HC1 := Lib.hid (HC.out.below b1)
      rw [HQ.out]
      clear b1 HB HC
      go_wp2
      go_ret
      exact ⟨rfl, HB1.out⟩
    | true =>
      have HQ := Lib.hid hq
      have hp : powV b 16 ≤ n := by
        simp only [askB, hq, Bool.true_and, Bool.and_eq_false_iff, decide_eq_false_iff_not] at hno
        omega
      have HP := Lib.hid (fun w => spec_pow_any b 16 w)
      obtain ⟨p, hpp⟩ : ∃ p, p = powV b 16 := ⟨_, rfl⟩
      rw [← hpp] at HP hp
      have hd1 := decide_eq_true hp
      clear hq hno hpp
      go_enter Try.func37, Try.ntmps37
      go_wp2_with fail
      refine (spec_is _ b rows out _ (HS.out.below HB.out)).mono ?_
      rintro e W1 ⟨rfl, b1⟩
      have HB1 := Lib.hid (HB.out.trans (b1.mono HB.out.size))
      have HC1 := Lib.hid (HC.out.below b1)
      rw [HQ.out]
      clear b1 HB HC
      have k0 := HC1.out.c0
      have k1 := HC1.out.c1
      have k2 := HC1.out.c2
      go_wp2_with fail
      refine (HP.out _).mono ?_
      rintro e w' ⟨rfl, rfl⟩
      go_wp2
      go_ret
      exact ⟨rfl, HB1.out⟩
theorem impl_term_no (v : Value) (b : Int) (rows : List (List Int)) (out : List Int) (w : World) (h : LiesS w v b rows out) (n : Int) (hno : askB b rows out n = false) :
    Calls Try.prog 23 #[v, .int .i64 n] w fun e w' => e = .returned (.int .i64 (-1)) ∧ Below w.heap.size w w' := by
  have HS := Lib.hid h
  obtain ⟨an, cn, ao, co, rfl⟩ := h.form
  clear h
  have hB : Below w.heap.size w (w.alloc (Obj.cells #[Value.int .i64 b, Value.slice an rows.length cn, Value.slice ao out.length co] 27)) := (Below.refl _ _).alloc (Nat.le_refl _) _
  have HC := Lib.hid (Cells3.new w 27 (.int .i64 b) (.slice an rows.length cn) (.slice ao out.length co))
  have HB := Lib.hid hB
  clear hB
  by_cases h0 : n < 0
  · have hd0 := decide_eq_true h0
    clear hno h0
    cases hq : seqB b rows out with
    | false =>
      have HQ := Lib.hid hq
      clear hq
      go_enter Try.func23, Try.ntmps23
      go_wp2_with fail
      refine (impl_is _ b rows out _ (HS.out.below HB.out)).mono ?_
      rintro e W1 ⟨rfl, b1⟩
      have HB1 := Lib.hid (HB.out.trans (b1.mono HB.out.size))
      have HC1 := Lib.hid (HC.out.below b1)
      rw [HQ.out]
      clear b1 HB HC
      go_wp2
      go_ret
      exact ⟨rfl, HB1.out⟩
    | true =>
      have HQ := Lib.hid hq
      clear hq
      go_enter Try.func23, Try.ntmps23
      go_wp2_with fail
      refine (impl_is _ b rows out _ (HS.out.below HB.out)).mono ?_
      rintro e W1 ⟨rfl, b1⟩
      have HB1 := Lib.hid (HB.out.trans (b1.mono HB.out.size))
      have HC1 := Lib.hid (HC.out.below b1)
      rw [HQ.out]
      clear b1 HB HC
      have k0 := HC1.out.c0
      have k1 := HC1.out.c1
      have k2 := HC1.out.c2
      go_wp2
      go_ret
      exact ⟨rfl, HB1.out⟩
  · have hd0 := decide_eq_false h0
    cases hq : seqB b rows out with
    | false =>
      have HQ := Lib.hid hq
      clear hq hno
      go_enter Try.func23, Try.ntmps23
      go_wp2_with fail
      refine (impl_is _ b rows out _ (HS.out.below HB.out)).mono ?_
      rintro e W1 ⟨rfl, b1⟩
      have HB1 := Lib.hid (HB.out.trans (b1.mono HB.out.size))
      have HC1 := Lib.hid (HC.out.below b1)
      rw [HQ.out]
      clear b1 HB HC
      go_wp2
      go_ret
      exact ⟨rfl, HB1.out⟩
    | true =>
      have HQ := Lib.hid hq
      have hp : powV b 16 ≤ n := by
        simp only [askB, hq, Bool.true_and, Bool.and_eq_false_iff, decide_eq_false_iff_not] at hno
        omega
      have HP := Lib.hid (fun w => impl_pow_any b 16 w)
      obtain ⟨p, hpp⟩ : ∃ p, p = powV b 16 := ⟨_, rfl⟩
      rw [← hpp] at HP hp
      have hd1 := decide_eq_true hp
      clear hq hno hpp
      go_enter Try.func23, Try.ntmps23
      go_wp2_with fail
      refine (impl_is _ b rows out _ (HS.out.below HB.out)).mono ?_
      rintro e W1 ⟨rfl, b1⟩
      have HB1 := Lib.hid (HB.out.trans (b1.mono HB.out.size))
      have HC1 := Lib.hid (HC.out.below b1)
      rw [HQ.out]
      clear b1 HB HC
      have k0 := HC1.out.c0
      have k1 := HC1.out.c1
      have k2 := HC1.out.c2
      go_wp2_with fail
      refine (HP.out _).mono ?_
      rintro e w' ⟨rfl, rfl⟩
      go_wp2
      go_ret
      exact ⟨rfl, HB1.out⟩
theorem spec_termat (v : Value) (b : Int) (rows : List (List Int)) (out : List Int) (w : World) (h : LiesS w v b rows out) (n : Int) :
    Calls Try.prog 37 #[v, .int .i64 n] w fun e w' => e = .returned (.int .i64 (termV b rows out n)) ∧ Below w.heap.size w w' := by
  cases hs : askB b rows out n with
  | false => rw [termV, if_neg (by simp [hs])]; exact spec_term_no v b rows out w h n hs
  | true =>
    rw [termV, if_pos hs]
    simp only [askB, Bool.and_eq_true, decide_eq_true_eq] at hs
    exact spec_term_yes v b rows out w h n hs.1.1 hs.1.2 hs.2
theorem impl_termat (v : Value) (b : Int) (rows : List (List Int)) (out : List Int) (w : World) (h : LiesS w v b rows out) (n : Int) :
    Calls Try.prog 23 #[v, .int .i64 n] w fun e w' => e = .returned (.int .i64 (termV b rows out n)) ∧ Below w.heap.size w w' := by
  cases hs : askB b rows out n with
  | false => rw [termV, if_neg (by simp [hs])]; exact impl_term_no v b rows out w h n hs
  | true =>
    rw [termV, if_pos hs]
    simp only [askB, Bool.and_eq_true, decide_eq_true_eq] at hs
    exact impl_term_yes v b rows out w h n hs.1.1 hs.1.2 hs.2
end Seqs
end Go.Proofs.Ytpndclpmhelikaa
/- Contracts of PrefixOf, of the program and of the model. No conditions beyond those that each states. -/
namespace Go.Proofs.Ytpndclpmhelikaa
open Go.ChangeShapes Go.WideShapes Go.ChangeAt Go.RowKit
open Go.PlainAid Plain
set_option linter.unusedVariables false
namespace Seqs
open Digits
/-- The term n, told without a look whether it may be asked for. -/
def termG (b : Int) (rows : List (List Int)) (out : List Int) (i : Nat) : Int := out.getD (afterS rows (digV (i : Int) b)).toNat 0
def termsG (b : Int) (rows : List (List Int)) (out : List Int) (i : Nat) : List Int := (List.range i).map (termG b rows out)
theorem termsG_len (b : Int) (rows : List (List Int)) (out : List Int) (i : Nat) : (termsG b rows out i).length = i := by simp [termsG]
theorem termsG_succ (b : Int) (rows : List (List Int)) (out : List Int) (i : Nat) : termsG b rows out (i + 1) = termsG b rows out i ++ [termG b rows out i] := by simp [termsG, List.range_succ]
theorem termsG_set (b : Int) (rows : List (List Int)) (out : List Int) (i m : Nat) (h : i < m) : ((termsG b rows out i ++ List.replicate (m - i) 0).map (Value.int .i64)).set i (.int .i64 (termG b rows out i)) = (termsG b rows out (i + 1) ++ List.replicate (m - (i + 1)) 0).map (Value.int .i64) := by
  rw [show m - i = (m - (i + 1)) + 1 from by omega, List.replicate_succ, List.map_append, List.map_cons, set_mid _ _ _ _ i (by rw [List.length_map, termsG_len]), termsG_succ, List.append_assoc, List.map_append]
  rfl
/-- May the terms be asked for? -/
def prefB (b : Int) (rows : List (List Int)) (out : List Int) (n : Int) : Bool := seqB b rows out && decide (1 ≤ n) && decide (n ≤ 256)
/-- The terms before n, none where they may not be asked for. -/
def prefV (b : Int) (rows : List (List Int)) (out : List Int) (n : Int) : List Int := if prefB b rows out n = true then termsG b rows out n.toNat else []
theorem prefV_len (b : Int) (rows : List (List Int)) (out : List Int) (n : Int) : (prefV b rows out n).length ≤ 256 := by
  unfold prefV
  split
  · rename_i h
    simp only [prefB, Bool.and_eq_true, decide_eq_true_eq] at h
    rw [termsG_len]
    omega
  · simp
theorem ask_small {b : Int} {rows : List (List Int)} {out : List Int} (h : seqB b rows out = true) (i : Nat) (hi : i ≤ 256) : termV b rows out (i : Int) = termG b rows out i := by
  have hb := seqB_out h
  have h2 : (i : Int) < powV b 16 := by
    obtain ⟨n, rfl⟩ := Int.eq_ofNat_of_zero_le (show 0 ≤ b by have := hb.1; omega)
    have hn := hb.1
    rw [powV_in n (by omega) (by have := hb.2.1; omega)]
    have h3 : 2 ^ 16 ≤ n ^ 16 := Nat.pow_le_pow_left (by omega) 16
    have h4 : (2 : Nat) ^ 16 = 65536 := by decide
    omega
  rw [termV, if_pos (by simp [askB, h, h2])]
  rfl
theorem spec_pref_no (v : Value) (b : Int) (rows : List (List Int)) (out : List Int) (w : World) (h : LiesS w v b rows out) (n : Int) (hno : prefB b rows out n = false) :
    Calls Try.prog 17 #[v, .int .i64 n] w (Gives (Value.int .i64) 3 [] w) := by
  have HS := Lib.hid h
  obtain ⟨an, cn, ao, co, rfl⟩ := h.form
  clear h
  have hB : Below w.heap.size w (w.alloc (Obj.cells #[Value.int .i64 b, Value.slice an rows.length cn, Value.slice ao out.length co] 27)) := (Below.refl _ _).alloc (Nat.le_refl _) _
  have HC := Lib.hid (Cells3.new w 27 (.int .i64 b) (.slice an rows.length cn) (.slice ao out.length co))
  have HB := Lib.hid hB
  clear hB
  obtain ⟨W, hW⟩ : ∃ W, W = (w.alloc (Obj.cells #[Value.int .i64 b, Value.slice an rows.length cn, Value.slice ao out.length co] 27)).alloc (.cells #[] 3) := ⟨_, rfl⟩
  have HW := Lib.hid hW
  have hC := HC.out.alloc (.cells #[] 3)
  have hB := HB.out.alloc (o := .cells #[] 3) (by simp) 
  have hH := Has.lit (enc := Value.int .i64) (e := 3) (base := w.heap.size) (w.alloc (Obj.cells #[Value.int .i64 b, Value.slice an rows.length cn, Value.slice ao out.length co] 27)) [] HB.out.size (by simp)
  have hH2 : Hid (Has (Value.int .i64) 3 ((w.alloc (Obj.cells #[Value.int .i64 b, Value.slice an rows.length cn, Value.slice ao out.length co] 27)).alloc (.cells #[] 3)) w.heap.size (.slice (some ⟨(w.alloc (Obj.cells #[Value.int .i64 b, Value.slice an rows.length cn, Value.slice ao out.length co] 27)).heap.size, 0, none⟩) 0 0) []) := hH
  rw [size_alloc'] at hH2
  have k0 := hC.c0
  have k1 := hC.c1
  have k2 := hC.c2
  have HB2 : Hid (Below w.heap.size w ((w.alloc (Obj.cells #[Value.int .i64 b, Value.slice an rows.length cn, Value.slice ao out.length co] 27)).alloc (.cells #[] 3))) := hB
  clear hC hH hB hW
  by_cases h0 : 0 < n
  · by_cases h1 : n ≤ 256
    · have HQ : Hid (seqB b rows out = false) := by
        show _ = _
        simp only [prefB, Bool.and_eq_false_iff, decide_eq_false_iff_not] at hno
        rcases hno with (h2 | h2) | h2
        · exact h2
        · omega
        · omega
      clear hno
      have hd0 := decide_eq_true h0
      have hd1 := decide_eq_true h1
      go_enter Try.func17, Try.ntmps17
      go_wp2
      go_loopw [5, 6] (fun o' i' wr => i' = .int .i64 0 ∧ o' = .slice (some ⟨w.heap.size + 1, 0, none⟩) 0 0 ∧ wr = (w.alloc (Obj.cells #[Value.int .i64 b, Value.slice an rows.length cn, Value.slice ao out.length co] 27)).alloc (.cells #[] 3)) (fun _ _ _ => 0)
      case atStart => exact ⟨rfl, rfl, rfl⟩
      case round =>
        obtain ⟨rfl, rfl, rfl⟩ := hrel
        go_wp2_with fail
        refine (spec_is _ b rows out _ (HS.out.below HB2.out)).mono ?_
        rintro e W1 ⟨rfl, b1⟩
        rw [HQ.out]
        have HB3 := Lib.hid (HB2.out.trans (b1.mono HB2.out.size))
        have HH3 := Lib.hid (hH2.out.below b1)
        clear b1
        go_wp2
        go_ret
        exact ⟨_, rfl, HH3.out, HB3.out⟩
    · have hd0 := decide_eq_true h0
      have hd1 := decide_eq_false h1
      clear hno
      go_enter Try.func17, Try.ntmps17
      go_wp2
      go_loopw [5, 6] (fun o' i' wr => i' = .int .i64 0 ∧ o' = .slice (some ⟨w.heap.size + 1, 0, none⟩) 0 0 ∧ wr = (w.alloc (Obj.cells #[Value.int .i64 b, Value.slice an rows.length cn, Value.slice ao out.length co] 27)).alloc (.cells #[] 3)) (fun _ _ _ => 0)
      case atStart => exact ⟨rfl, rfl, rfl⟩
      case round =>
        obtain ⟨rfl, rfl, rfl⟩ := hrel
        go_wp2
        go_ret
        exact ⟨_, rfl, hH2.out, HB2.out⟩
  · have hd0 := decide_eq_false h0
    clear hno
    go_enter Try.func17, Try.ntmps17
    go_wp2
    go_loopw [5, 6] (fun o' i' wr => i' = .int .i64 0 ∧ o' = .slice (some ⟨w.heap.size + 1, 0, none⟩) 0 0 ∧ wr = (w.alloc (Obj.cells #[Value.int .i64 b, Value.slice an rows.length cn, Value.slice ao out.length co] 27)).alloc (.cells #[] 3)) (fun _ _ _ => 0)
    case atStart => exact ⟨rfl, rfl, rfl⟩
    case round =>
      obtain ⟨rfl, rfl, rfl⟩ := hrel
      go_wp2
      go_ret
      exact ⟨_, rfl, hH2.out, HB2.out⟩
set_option maxHeartbeats 1000000 in
theorem spec_pref_yes (v : Value) (b : Int) (rows : List (List Int)) (out : List Int) (w : World) (h : LiesS w v b rows out) (m : Nat) (hq : seqB b rows out = true) (h0 : 1 ≤ m) (h1 : m ≤ 256) :
    Calls Try.prog 17 #[v, .int .i64 m] w (Gives (Value.int .i64) 3 (termsG b rows out m) w) := by
  obtain ⟨i0, hi, hz0, hz1, hz2⟩ := info_parts Ints.infoI
  have HS := Lib.hid h
  obtain ⟨an, cn, ao, co, rfl⟩ := h.form
  clear h
  have hB : Below w.heap.size w (w.alloc (Obj.cells #[Value.int .i64 b, Value.slice an rows.length cn, Value.slice ao out.length co] 27)) := (Below.refl _ _).alloc (Nat.le_refl _) _
  have HC := Lib.hid (Cells3.new w 27 (.int .i64 b) (.slice an rows.length cn) (.slice ao out.length co))
  have HB := Lib.hid hB
  clear hB
  have HQ := Lib.hid hq
  have hH : Has (Value.int .i64) 3 ((w.alloc (Obj.cells #[Value.int .i64 b, Value.slice an rows.length cn, Value.slice ao out.length co] 27)).alloc (.cells #[] 3)) (w.alloc (Obj.cells #[Value.int .i64 b, Value.slice an rows.length cn, Value.slice ao out.length co] 27)).heap.size (.slice (some ⟨(w.alloc (Obj.cells #[Value.int .i64 b, Value.slice an rows.length cn, Value.slice ao out.length co] 27)).heap.size, 0, none⟩) 0 0) [] := Has.lit (enc := Value.int .i64) (e := 3) (w.alloc (Obj.cells #[Value.int .i64 b, Value.slice an rows.length cn, Value.slice ao out.length co] 27)) [] (Nat.le_refl _) (by simp)
  rw [size_alloc'] at hH
  have HH := Lib.hid hH
  have HC2 := Lib.hid (HC.out.alloc (.cells #[] 3))
  have HB2 : Hid (Below w.heap.size w ((w.alloc (Obj.cells #[Value.int .i64 b, Value.slice an rows.length cn, Value.slice ao out.length co] 27)).alloc (.cells #[] 3))) := HB.out.alloc (by simp) _
  have HZ : Hid (w.heap.size + 1 ≤ ((w.alloc (Obj.cells #[Value.int .i64 b, Value.slice an rows.length cn, Value.slice ao out.length co] 27)).alloc (.cells #[] 3)).heap.size) := by show _ ≤ _; simp
  clear hH hq
  have hd1 := decide_eq_true (show (m : Int) ≤ 256 by omega)
  go_enter Try.func17, Try.ntmps17
  go_wp2
  obtain ⟨W, hW⟩ : ∃ W, W = (w.alloc (Obj.cells #[Value.int .i64 b, Value.slice an rows.length cn, Value.slice ao out.length co] 27)).alloc (.cells #[] 3) := ⟨_, rfl⟩
  rw [← hW] at HC2 HB2 HH HZ ⊢
  clear hW HB HC
  go_loopw [5, 6] (fun o' i' wr => ∃ i : Nat, i ≤ m ∧ i' = .int .i64 i ∧ Hid (Has (Value.int .i64) 3 wr (w.heap.size + 1) o' (termsG b rows out i)) ∧ Hid (Cells3 wr w.heap.size 27 (.int .i64 b) (.slice an rows.length cn) (.slice ao out.length co)) ∧ Hid (Below w.heap.size w wr) ∧ Hid (w.heap.size + 1 ≤ wr.heap.size)) (fun _ i' _ => m - (intOf i').toNat)
  case atStart => exact ⟨0, Nat.zero_le _, rfl, HH, HC2, HB2, HZ⟩
  case round =>
    obtain ⟨i, him, rfl, hown, hC, hB, hZ⟩ := hrel
    by_cases hlt : i < m
    · have k0 := hC.out.c0
      have k1 := hC.out.c1
      have k2 := hC.out.c2
      have HL := Lib.hid (termsG_len b rows out i)
      have HT := Lib.hid (ask_small HQ.out i (by omega))
      have HTS := Lib.hid (termsG_succ b rows out i)
      go_wp2_with fail
      refine (spec_is _ b rows out _ (HS.out.below hB.out)).mono ?_
      rintro e W1 ⟨rfl, b1⟩
      rw [HQ.out]
      have hB1 := Lib.hid (hB.out.trans (b1.mono hB.out.size))
      have hC1 := Lib.hid (hC.out.below b1)
      have hO1 := Lib.hid (hown.out.below b1)
      have hZ1 := Lib.hid (Nat.le_trans hZ.out b1.size)
      clear b1 k0 k1 k2 hB hC hown hZ
      have k0 := hC1.out.c0
      have k1 := hC1.out.c1
      have k2 := hC1.out.c2
      go_wp2_with fail
      refine (spec_termat _ b rows out _ (HS.out.below hB1.out) (i : Int)).mono ?_
      rintro e W2 ⟨rfl, b2⟩
      rw [HT.out]
      have hB2 := Lib.hid (hB1.out.trans (b2.mono hB1.out.size))
      have hC2 := Lib.hid (hC1.out.below b2)
      have hO2 := Lib.hid (hO1.out.below b2)
      have hZ2 := Lib.hid (Nat.le_trans hZ1.out b2.size)
      clear b2 k0 k1 k2 hB1 hC1 hO1 hZ1
      go_wp2_with (at_builtin; refine append_one (enc := Value.int .i64) (e := 3) W2 rfl _ _ 25 rfl (w.heap.size + 1) i0 (.int .i64 0) 8 Try.underlying25 hi hz0 hz1 hz2 rfl u5 (termsG b rows out i) rfl hO2.out (termG b rows out i) rfl (fun _ => rfl) (by rw [HL.out]; omega) (by rw [HL.out]; omega) hZ2.out ?_; intro v' w' hown' hgrow')
      have hB3 : Hid (Below w.heap.size w w') := hO2.out.frame hB2.out (Nat.le_succ _) hgrow'
      have hC3 := Lib.hid (hC2.out.grown hgrow' (fun e => by have := (hO2.out.lt _ e).1; omega))
      have hO3 := Lib.hid hown'
      rw [← HTS.out] at hO3
      have hZ3 := Lib.hid (Nat.le_trans hZ2.out hgrow'.size)
      clear hown' hgrow' hO2 hC2 hB2 hZ2
      go_wp2
      go_roundw
      case rel => exact ⟨i + 1, by omega, by go_num, hO3, hC3, hB3, hZ3⟩
      case measure => simp [intOf]; omega
    · obtain rfl : i = m := by omega
      go_wp2
      go_ret
      exact ⟨_, rfl, hown.out.mono (Nat.le_succ _), hB.out⟩
theorem spec_pref (v : Value) (b : Int) (rows : List (List Int)) (out : List Int) (w : World) (h : LiesS w v b rows out) (n : Int) :
    Calls Try.prog 17 #[v, .int .i64 n] w (Gives (Value.int .i64) 3 (prefV b rows out n) w) := by
  cases hs : prefB b rows out n with
  | false => rw [prefV, if_neg (by simp [hs])]; exact spec_pref_no v b rows out w h n hs
  | true =>
    rw [prefV, if_pos hs]
    simp only [prefB, Bool.and_eq_true, decide_eq_true_eq] at hs
    obtain ⟨m, rfl⟩ := Int.eq_ofNat_of_zero_le (show 0 ≤ n by omega)
    exact spec_pref_yes v b rows out w h m hs.1.1 (by omega) (by omega)
theorem impl_pref_no (v : Value) (b : Int) (rows : List (List Int)) (out : List Int) (w : World) (h : LiesS w v b rows out) (n : Int) (hno : prefB b rows out n = false) :
    Calls Try.prog 16 #[v, .int .i64 n] w (Gives (Value.int .i64) 3 [] w) := by
  have HS := Lib.hid h
  obtain ⟨an, cn, ao, co, rfl⟩ := h.form
  clear h
  have hB : Below w.heap.size w (w.alloc (Obj.cells #[Value.int .i64 b, Value.slice an rows.length cn, Value.slice ao out.length co] 27)) := (Below.refl _ _).alloc (Nat.le_refl _) _
  have HC := Lib.hid (Cells3.new w 27 (.int .i64 b) (.slice an rows.length cn) (.slice ao out.length co))
  have HB := Lib.hid hB
  clear hB
  cases hq : seqB b rows out with
  | false =>
    have HQ := Lib.hid hq
    clear hq hno
    go_enter Try.func16, Try.ntmps16
    go_wp2_with fail
    refine (impl_is _ b rows out _ (HS.out.below HB.out)).mono ?_
    rintro e W1 ⟨rfl, b1⟩
    have HB1 := Lib.hid (HB.out.trans (b1.mono HB.out.size))
    have HC1 := Lib.hid (HC.out.below b1)
    have HZ1 := Lib.hid b1.size
    rw [size_alloc'] at HZ1
    rw [HQ.out]
    clear b1 HB HC
    go_wp2
    go_ret
    exact ⟨_, rfl, World.ownsRow_nil _ _ _ _, HB1.out⟩
  | true =>
    have HQ := Lib.hid hq
    by_cases h0 : n < 1
    · have hd0 := decide_eq_true h0
      clear hq hno
      go_enter Try.func16, Try.ntmps16
      go_wp2_with fail
      refine (impl_is _ b rows out _ (HS.out.below HB.out)).mono ?_
      rintro e W1 ⟨rfl, b1⟩
      have HB1 := Lib.hid (HB.out.trans (b1.mono HB.out.size))
      have HC1 := Lib.hid (HC.out.below b1)
      have HZ1 := Lib.hid b1.size
      rw [size_alloc'] at HZ1
      rw [HQ.out]
      clear b1 HB HC
      go_wp2
      go_ret
      exact ⟨_, rfl, World.ownsRow_nil _ _ _ _, HB1.out⟩
    · have hd0 := decide_eq_false h0
      have hd1 := decide_eq_true (show 256 < n by
        simp only [prefB, hq, Bool.true_and, Bool.and_eq_false_iff, decide_eq_false_iff_not] at hno
        omega)
      clear hq hno
      go_enter Try.func16, Try.ntmps16
      go_wp2_with fail
      refine (impl_is _ b rows out _ (HS.out.below HB.out)).mono ?_
      rintro e W1 ⟨rfl, b1⟩
      have HB1 := Lib.hid (HB.out.trans (b1.mono HB.out.size))
      have HC1 := Lib.hid (HC.out.below b1)
      have HZ1 := Lib.hid b1.size
      rw [size_alloc'] at HZ1
      rw [HQ.out]
      clear b1 HB HC
      go_wp2
      go_ret
      exact ⟨_, rfl, World.ownsRow_nil _ _ _ _, HB1.out⟩
set_option maxHeartbeats 1000000 in
theorem impl_pref_yes (v : Value) (b : Int) (rows : List (List Int)) (out : List Int) (w : World) (h : LiesS w v b rows out) (m : Nat) (hq : seqB b rows out = true) (h0 : 1 ≤ m) (h1 : m ≤ 256) :
    Calls Try.prog 16 #[v, .int .i64 m] w (Gives (Value.int .i64) 3 (termsG b rows out m) w) := by
  obtain ⟨i0, hi, hz0, hz1, hz2⟩ := info_parts Ints.infoI
  have HS := Lib.hid h
  obtain ⟨an, cn, ao, co, rfl⟩ := h.form
  clear h
  have hB : Below w.heap.size w (w.alloc (Obj.cells #[Value.int .i64 b, Value.slice an rows.length cn, Value.slice ao out.length co] 27)) := (Below.refl _ _).alloc (Nat.le_refl _) _
  have HC := Lib.hid (Cells3.new w 27 (.int .i64 b) (.slice an rows.length cn) (.slice ao out.length co))
  have HB := Lib.hid hB
  clear hB
  have HQ := Lib.hid hq
  have HV := Lib.hid (seqB_out hq)
  clear hq
  have hd0 := decide_eq_false (show ¬ (m : Int) < 1 by omega)
  have hd1 := decide_eq_false (show ¬ 256 < (m : Int) by omega)
  go_enter Try.func16, Try.ntmps16
  go_wp2_with fail
  refine (impl_is _ b rows out _ (HS.out.below HB.out)).mono ?_
  rintro e W1 ⟨rfl, b1⟩
  have HB1 := Lib.hid (HB.out.trans (b1.mono HB.out.size))
  have HC1 := Lib.hid (HC.out.below b1)
  have HZ1 := Lib.hid b1.size
  rw [size_alloc'] at HZ1
  rw [HQ.out]
  clear b1 HB HC
  go_wp2_with (at_make; refine wpList_make_full W1 rfl _ _ 25 rfl W1.heap.size 3 i0 (.int .i64 0) 1 Try.underlying25 hi hz0 hz1 .i64 .i64 _ _ m rfl rfl rfl rfl (by rw [hz2]; omega) (by unfold maxLen; omega) (Nat.le_refl _) ?_; intro w1 hown hgrow)
  have hO : Hid (w1.ownsRow W1.heap.size 3 1 (.slice (some ⟨W1.heap.size, 0, none⟩) m m) m ((termsG b rows out 0 ++ List.replicate (m - 0) (0 : Int)).map (Value.int .i64))) := by
    show w1.ownsRow _ _ _ _ _ _
    rw [Ints.zero_made] at hown
    simpa [termsG] using hown
  have hb := below_of_grown hgrow
  have hB := Lib.hid (HB1.out.trans (hb.mono HB1.out.size))
  have hC := Lib.hid (HC1.out.below hb)
  obtain ⟨z, hz⟩ : ∃ z, z = W1.heap.size := ⟨_, rfl⟩
  have hL : Hid (z < w1.heap.size) := by
    have h2 := World.ownsRow.lt hown z (by rw [hz]; rfl)
    exact h2.2
  rw [← hz] at HZ1 hO ⊢
  clear hown hgrow hb HB1 HC1 hz
  go_loopw [22] (fun i' wr => ∃ i : Nat, i ≤ m ∧ i' = .int .i64 i ∧ Hid (wr.ownsRow z 3 1 (.slice (some ⟨z, 0, none⟩) m m) m ((termsG b rows out i ++ List.replicate (m - i) (0 : Int)).map (Value.int .i64))) ∧ Hid (Cells3 wr w.heap.size 27 (.int .i64 b) (.slice an rows.length cn) (.slice ao out.length co)) ∧ Hid (Below w.heap.size w wr)) (fun i' _ => m - (intOf i').toNat)
  case atStart => exact ⟨0, Nat.zero_le _, rfl, hO, hC, hB⟩
  case round =>
    obtain ⟨i, him, rfl, hO, hC, hB⟩ := hrel
    by_cases hlt : i < m
    · have k0 := hC.out.c0
      have k1 := hC.out.c1
      have k2 := hC.out.c2
      have HL := Lib.hid (termsG_len b rows out i)
      have HST := Lib.hid (termsG_set b rows out i m hlt)
      go_wp2_with fail
      refine (impl_term _ b rows out _ (HS.out.below hB.out) (i : Int) HV.out).mono ?_
      rintro e W2 ⟨rfl, b2⟩
      have hB2 := Lib.hid (hB.out.trans (b2.mono hB.out.size))
      have hC2 := Lib.hid (hC.out.below b2)
      have hO2 := World.ownsRow.kept hO.out (grown_of_below b2) (.inr (by simp [Value.ownBlock]))
      clear b2 k0 k1 k2 hB hC hO
      have hc : W2.cell? ⟨z, i, none⟩ = some (.int .i64 0) := by
        rw [hO2.cellAt i (by omega)]
        rw [List.getElem?_map, List.getElem?_append_right (by rw [HL.out]; omega), List.getElem?_replicate, if_pos (by rw [HL.out]; omega)]
        rfl
      have hfr := hO2.frozenAt i
      have hst := hO2.stored i (.int .i64 (termG b rows out i))
      rw [HST.out] at hst
      have HS3 := Lib.hid hst
      clear hst hO2
      go_wp2
      go_roundw
      case rel => exact ⟨i + 1, by omega, by go_num, HS3.out.1, hC2.out.grown HS3.out.2 (fun e => by cases e; have := HZ1.out; omega), hB2.out.grown HS3.out.2 hB2.out.size (fun k hk => by cases hk; have := HZ1.out; omega)⟩
      case measure => simp [intOf]; omega
    · obtain rfl : i = m := by omega
      have HE : Hid (Has (Value.int .i64) 3 wr w.heap.size (.slice (some ⟨z, 0, none⟩) i i) (termsG b rows out i)) := by
        have h2 := hO.out
        rw [Nat.sub_self, List.replicate_zero, List.append_nil] at h2
        have h3 : Has (Value.int .i64) 3 wr z (.slice (some ⟨z, 0, none⟩) i i) (termsG b rows out i) := by
          show wr.ownsRow _ _ _ _ _ _
          rw [termsG_len]
          exact h2
        exact h3.mono (by have := HZ1.out; omega)
      go_wp2
      go_ret
      exact ⟨_, rfl, HE.out, hB.out⟩
theorem impl_pref (v : Value) (b : Int) (rows : List (List Int)) (out : List Int) (w : World) (h : LiesS w v b rows out) (n : Int) :
    Calls Try.prog 16 #[v, .int .i64 n] w (Gives (Value.int .i64) 3 (prefV b rows out n) w) := by
  cases hs : prefB b rows out n with
  | false => rw [prefV, if_neg (by simp [hs])]; exact impl_pref_no v b rows out w h n hs
  | true =>
    rw [prefV, if_pos hs]
    simp only [prefB, Bool.and_eq_true, decide_eq_true_eq] at hs
    obtain ⟨m, rfl⟩ := Int.eq_ofNat_of_zero_le (show 0 ≤ n by omega)
    exact impl_pref_yes v b rows out w h m hs.1.1 (by omega) (by omega)
end Seqs
end Go.Proofs.Ytpndclpmhelikaa
