/- Contracts of the drawing of sequences: some sequence of few states, the call's own; only the cursor's block changes, and new blocks come. No conditions beyond those that each states. -/
import Derived.Test.YtfpdikohlafpiaaGreatSeqStore
import Derived.Test.YtfpdikohlafpiaaGreatDraw2
import Derived.Test.YtfpdikohlafpiaaGreatSeqTo
namespace Go.Proofs.YtfpdikohlafpiaaGreat
open Go.ChangeShapes Go.WideShapes Go.ChangeAt Go.RowKit
open Go.PlainAid Plain
set_option linter.unusedVariables false
namespace Cursor
open Ints Digits
/-- A sequence as the drawing makes it: at least one state, no empty row, few and short rows. -/
def SeqOk (rows : List (List Int)) (out : List Int) : Prop := 1 ≤ rows.length ∧ rows.length ≤ 16 ∧ out.length = rows.length ∧ ∀ r ∈ rows, 1 ≤ r.length ∧ r.length ≤ 4
def SomeSeq (w : World) (Q : World → Prop) (e : Ending) (w' : World) : Prop := ∃ v b rows out, SeqOk rows out ∧ e = .returned v ∧ OwnS w' w.heap.size w'.heap.size v b rows out ∧ Q w'
theorem Stands.drew {W w : World} {p : Nat} {a : Option Addr} {len cap : Nat} (h : Stands W w p a len cap) : Stands W w.drew p a len cap :=
  h.other (r := none) (Plain.grown_of_below (below_drew' w)) (fun q hq => by cases hq)
set_option maxRecDepth 100000 in
set_option maxHeartbeats 4000000 in
theorem random (W w : World) (c : Nat) (a : Option Addr) (len cap b n : Nat) (hb1 : 1 ≤ b) (hb4 : b ≤ 4) (hn1 : 1 ≤ n) (hn16 : n ≤ 16) (hlen : len ≤ 1048576) (hcode : CodeIs W W.heap.size a len) (hs : Stands W w c a len cap) :
    Calls Tryz.prog 76 #[.pointer (some ⟨c, 0, none⟩), .int .i64 b, .int .i64 n] w (SomeSeq w (fun w' => w.grownBy w' (some c) ∧ CurIs w' c a len cap)) := by
  obtain ⟨i0, hi0, hz0, hz1, hz2⟩ := info_parts Ints.infoI
  obtain ⟨i2, hi2, hz20, hz21, hz22⟩ := info_parts Seqs.infoR
  have HO := Lib.hid (fun (w : World) (hs : Stands W w c a len cap) => once W w c a len cap 2 (by decide) (by decide) hlen hcode hs)
  have HB := Lib.hid (fun (w : World) (n : Int) (hn0 : 1 ≤ n) (hn1 : n ≤ 9223372036854775807) (hs : Stands W w c a len cap) => below W w c a len cap n hn0 hn1 hlen hcode hs)
  have hcw := hs.lt
  have hown := hs.own
  have hZ0 := (Cells3.new w 69 (.int .i64 0) (.slice none 0 0) (.slice none 0 0)).alloc (Obj.cells #[Value.int .i64 (b : Int), Value.slice none 0 0, Value.slice none 0 0] 69)
  have hP := Cells3.new (w.alloc (Obj.cells #[Value.int .i64 0, Value.slice none 0 0, Value.slice none 0 0] 69)) 69 (.int .i64 (b : Int)) (.slice none 0 0) (.slice none 0 0)
  rw [size_alloc'] at hP
  have hG0 : w.grownBy ((w.alloc (Obj.cells #[Value.int .i64 0, Value.slice none 0 0, Value.slice none 0 0] 69)).alloc (Obj.cells #[Value.int .i64 (b : Int), Value.slice none 0 0, Value.slice none 0 0] 69)) (some c) := grown_new (grown_new (grown_self w c) _) _
  have hS : Hid (Stands W ((w.alloc (Obj.cells #[Value.int .i64 0, Value.slice none 0 0, Value.slice none 0 0] 69)).alloc (Obj.cells #[Value.int .i64 (b : Int), Value.slice none 0 0, Value.slice none 0 0] 69)) c a len cap) := (hs.alloc (Obj.cells #[Value.int .i64 0, Value.slice none 0 0, Value.slice none 0 0] 69)).alloc (Obj.cells #[Value.int .i64 (b : Int), Value.slice none 0 0, Value.slice none 0 0] 69)
  have hM : Hid (Making ((w.alloc (Obj.cells #[Value.int .i64 0, Value.slice none 0 0, Value.slice none 0 0] 69)).alloc (Obj.cells #[Value.int .i64 (b : Int), Value.slice none 0 0, Value.slice none 0 0] 69)) (w.heap.size + 2) ((w.alloc (Obj.cells #[Value.int .i64 0, Value.slice none 0 0, Value.slice none 0 0] 69)).alloc (Obj.cells #[Value.int .i64 (b : Int), Value.slice none 0 0, Value.slice none 0 0] 69)).heap.size (w.heap.size + 1) (b : Int) (.slice none 0 0) (.slice none 0 0) (.slice none 0 0) [] [] [] []) :=
    Making.start hP (World.ownsRow_nil _ _ _ _) (by rw [size_alloc', size_alloc']; exact Nat.le_refl _)
  have hZ : Hid (Cells3 ((w.alloc (Obj.cells #[Value.int .i64 0, Value.slice none 0 0, Value.slice none 0 0] 69)).alloc (Obj.cells #[Value.int .i64 (b : Int), Value.slice none 0 0, Value.slice none 0 0] 69)) w.heap.size 69 (.int .i64 0) (.slice none 0 0) (.slice none 0 0)) := hZ0
  have hG : Hid (w.grownBy ((w.alloc (Obj.cells #[Value.int .i64 0, Value.slice none 0 0, Value.slice none 0 0] 69)).alloc (Obj.cells #[Value.int .i64 (b : Int), Value.slice none 0 0, Value.slice none 0 0] 69)) (some c)) := hG0
  clear hcode hs hP hZ0 hG0
  obtain ⟨z, hz⟩ : ∃ z, z = w.heap.size := ⟨_, rfl⟩
  obtain ⟨p, hp⟩ : ∃ z, z = w.heap.size + 1 := ⟨_, rfl⟩
  obtain ⟨BB, hBB⟩ : ∃ z, z = w.heap.size + 2 := ⟨_, rfl⟩
  have HNUM := Lib.hid (show c < z ∧ z < p ∧ p < BB ∧ W.heap.size ≤ c ∧ z = w.heap.size ∧ BB = w.heap.size + 2 from by omega)
  rw [← hp, ← hBB] at hM
  rw [← hz] at hZ
  clear hcw hown
  go_enter Tryz.func76, Tryz.ntmps76
  go_wp2_with fail
  rw [← hp]
  clear hz hp hBB
  go_loopw [8] (fun i' wr => ∃ (i : Nat) (vn vo : Value) (us : List Value) (rows : List (List Int)) (out : List Int) (hi : Nat), i ≤ n ∧ i' = .int .i64 i ∧ Hid (rows.length = i ∧ out.length = i ∧ ∀ r ∈ rows, r.length = b) ∧ Hid (Making wr BB hi p (b : Int) vn vo (.slice none 0 0) us rows out []) ∧ Hid (Cells3 wr z 69 (.int .i64 0) (.slice none 0 0) (.slice none 0 0)) ∧ Hid (w.grownBy wr (some c)) ∧ Hid (Stands W wr c a len cap)) (fun i' _ => n - (intOf i').toNat)
  case atStart => exact ⟨0, _, _, [], [], [], _, Nat.zero_le _, rfl, ⟨rfl, rfl, fun r hr => by cases hr⟩, hM, hZ, hG, hS⟩
  case round =>
    clear hM hZ hG hS
    obtain ⟨i, vn, vo, us, rows, out, hi, hin, rfl, hL, hM, hZ, hG, hS⟩ := hrel
    obtain ⟨W6, rfl⟩ : ∃ W : World, W = wr := ⟨_, rfl⟩
    by_cases hlt : i < n
    case neg =>
      obtain rfl : n = i := by omega
      go_wp2_with fail
      refine (HO.out _ hS.out).mono ?_
      rintro e W7 ⟨t, rfl, g7, c7⟩
      have HM7 := Lib.hid (hM.out.moved g7 (by have := HNUM.out; omega) (by have := HNUM.out; omega))
      have hz7 := hZ.out.grown g7 (by have := HNUM.out; simp; omega)
      rw [show z = w.heap.size from HNUM.out.2.2.2.2.1] at hz7
      have HZ7 := Lib.hid hz7
      have HG7 := Lib.hid (grown_more hG.out g7 (fun k hk => .inl (Option.some.inj hk).symm))
      have HS7 := Lib.hid (hS.out.next g7 c7)
      clear hM hZ hG hS g7 c7 hz7
      have hcw : w.heap.size < p := by have := HNUM.out; omega
      have hcb : w.heap.size < BB := by have := HNUM.out; omega
      have hcW : W.heap.size ≤ w.heap.size := by have := HNUM.out; omega
      have hcc : w.heap.size ≠ c := by have := HNUM.out; omega
      have HOK : Hid (SeqOk rows out) := ⟨by rw [hL.out.1]; exact hn1, by rw [hL.out.1]; exact hn16, by rw [hL.out.1, hL.out.2.1], fun q hq => by rw [hL.out.2.2 q hq]; exact ⟨hb1, hb4⟩⟩
      obtain ⟨na, nc, oa, oc, hvn, hvo⟩ := HM7.out.form
      rw [hL.out.1] at hvn
      rw [hL.out.2.1] at hvo
      subst hvn; subst hvo
      cases t with
      | false =>
        have HBD := Lib.hid HM7.out.building
        clear HM7
        have HW := Lib.hid HBD.out.seq
        have m0 := HBD.out.cells.c0
        have m1 := HBD.out.cells.c1
        have m2 := HBD.out.cells.c2
        have z0 := HZ7.out.c0
        have z1 := HZ7.out.c1
        have z2 := HZ7.out.c2
        have z3 := HZ7.out.f
        clear HBD
        go_wp2
        have hZ3 := (((HZ7.out.set0 (.int .i64 (b : Int))).set1 (.slice na n nc)).set2 (.slice oa n oc))
        have n0 := hZ3.c0
        have n1 := hZ3.c1
        have n2 := hZ3.c2
        refine bodyPost_ret (v := .agg #[.int .i64 (b : Int), .slice na n nc, .slice oa n oc]) (by simp [results, Tryz.results76, go_sem, n0, n1, n2]) rfl ⟨_, (b : Int), _, _, HOK.out, rfl, ?_, ?_, ?_⟩
        · have T0 : Plain.Touch w.heap.size (w.heap.size + 1) W7 (((W7.setCell ⟨w.heap.size, 0, none⟩ (.int .i64 (b : Int))).setCell ⟨w.heap.size, 1, none⟩ (.slice na n nc)).setCell ⟨w.heap.size, 2, none⟩ (.slice oa n oc)) :=
            ((Plain.Touch.of_set _ (by show w.heap.size ≤ w.heap.size; exact Nat.le_refl _) (by show w.heap.size < w.heap.size + 1; omega)).trans (Plain.Touch.of_set _ (by show w.heap.size ≤ w.heap.size; exact Nat.le_refl _) (by show w.heap.size < w.heap.size + 1; omega))).trans (Plain.Touch.of_set _ (by show w.heap.size ≤ w.heap.size; exact Nat.le_refl _) (by show w.heap.size < w.heap.size + 1; omega))
          have := (HW.out.touch T0 (.inr (by omega))).lower (show w.heap.size ≤ BB by omega)
          simpa only [size_setCell'] using this
        · exact grown_set (grown_set (grown_set HG7.out (Nat.le_refl _) _) (Nat.le_refl _) _) (Nat.le_refl _) _
        · exact (((HS7.out.other (Cursor.grown_setCell _ w.heap.size 0 _) (fun k hk => by cases hk; exact ⟨hcc, hcW⟩)).other (Cursor.grown_setCell _ w.heap.size 1 _) (fun k hk => by cases hk; exact ⟨hcc, hcW⟩)).other (Cursor.grown_setCell _ w.heap.size 2 _) (fun k hk => by cases hk; exact ⟨hcc, hcW⟩)).cur
      | true =>
        obtain ⟨u0, hu0⟩ : ∃ u, us[0]? = some u := ⟨_, List.getElem?_eq_getElem (by rw [HM7.out.len, hL.out.1]; omega)⟩
        obtain ⟨r0, hr0⟩ : ∃ r, rows[0]? = some r := ⟨_, List.getElem?_eq_getElem (by rw [hL.out.1]; omega)⟩
        have hI : OwnI W7 BB hi u0 r0 := HM7.out.fam.row 2 u0 r0 hu0 hr0
        have hl0 := hL.out.2.2 r0 (List.mem_of_getElem? hr0)
        obtain ⟨g, cc, hgu, hgb, hgl⟩ := own_at hI.has (by omega)
        rw [hl0] at hgu
        subst hgu
        have h0 : W7.ownsRow BB 3 1 (.slice (some ⟨g, 0, none⟩) b cc) b (r0.map (Value.int .i64)) := by
          have := hI.has
          unfold Has at this
          rw [hl0] at this
          exact this
        have y1 := h0.frozenAt 0
        obtain ⟨yy, y3⟩ : ∃ yy, W7.cell? ⟨g, 0, none⟩ = some yy := by
          have y3 := h0.cellAt 0 (by omega)
          rw [List.getElem?_map, List.getElem?_eq_getElem (by omega), Option.map_some] at y3
          exact ⟨_, y3⟩
        have hg3 : g ≠ p := fun e => has_ne_c3 hI.has HM7.out.cells (by decide) (by rw [← e]; rfl)
        have hg4 : g ≠ w.heap.size := fun e => has_ne_c3 hI.has HZ7.out (by decide) (by rw [← e]; rfl)
        obtain ⟨_, ta, tc, htv, _, hct⟩ := HM7.out.top.lies
        obtain ⟨tq, ts, hta, y2⟩ := hct 0 _ hu0
        have hna : na = some ⟨tq, ts, none⟩ := by
          injection htv with h1
          rw [h1, hta]
        subst hna
        have y2' : W7.cell? ⟨tq, ts, none⟩ = some (.slice (some ⟨g, 0, none⟩) b cc) := y2
        have y0 := HM7.out.cells.c1
        have HBD := Lib.hid (HM7.out.building.write hu0 hr0 0 0)
        have HZ8 := Lib.hid (HZ7.out.other (a := ⟨g, 0, none⟩) hg4 (.int .i64 0))
        have HG8 : Hid (w.grownBy (W7.setCell ⟨g, 0, none⟩ (.int .i64 0)) (some c)) := grown_set HG7.out (by omega) _
        have HS8 : Hid (Stands W (W7.setCell ⟨g, 0, none⟩ (.int .i64 0)) c a len cap) := HS7.out.other (Cursor.grown_setCell W7 g 0 _) (fun k hk => by cases hk; have := HNUM.out; omega)
        have HOK2 : Hid (SeqOk (rows.set 0 (r0.set 0 0)) out) := by
          refine ⟨by rw [List.length_set]; exact HOK.out.1, by rw [List.length_set]; exact HOK.out.2.1, by rw [List.length_set]; exact HOK.out.2.2.1, fun q hq => ?_⟩
          rcases List.mem_or_eq_of_mem_set hq with h1 | h1
          · exact HOK.out.2.2.2 q h1
          · rw [h1, List.length_set, hl0]; exact ⟨hb1, hb4⟩
        have hn0 : 0 < n := hn1
        have hb0 : 0 < b := hb1
        clear hta htv hct hu0 hr0 hI hl0 hgb hgl h0 HM7 HZ7 HG7 HS7 HOK y2
        have HW := Lib.hid HBD.out.seq
        have m0 := HBD.out.cells.c0
        have m1 := HBD.out.cells.c1
        have m2 := HBD.out.cells.c2
        have z0 := HZ8.out.c0
        have z1 := HZ8.out.c1
        have z2 := HZ8.out.c2
        have z3 := HZ8.out.f
        clear HBD
        go_wp2
        have hZ3 := (((HZ8.out.set0 (.int .i64 (b : Int))).set1 (.slice (some ⟨tq, ts, none⟩) n nc)).set2 (.slice oa n oc))
        have n0 := hZ3.c0
        have n1 := hZ3.c1
        have n2 := hZ3.c2
        refine bodyPost_ret (v := .agg #[.int .i64 (b : Int), .slice (some ⟨tq, ts, none⟩) n nc, .slice oa n oc]) (by simp [results, Tryz.results76, go_sem, n0, n1, n2]) rfl ⟨_, (b : Int), _, _, HOK2.out, rfl, ?_, ?_, ?_⟩
        · have T0 : Plain.Touch w.heap.size (w.heap.size + 1) (W7.setCell ⟨g, 0, none⟩ (.int .i64 0)) ((((W7.setCell ⟨g, 0, none⟩ (.int .i64 0)).setCell ⟨w.heap.size, 0, none⟩ (.int .i64 (b : Int))).setCell ⟨w.heap.size, 1, none⟩ (.slice (some ⟨tq, ts, none⟩) n nc)).setCell ⟨w.heap.size, 2, none⟩ (.slice oa n oc)) :=
            ((Plain.Touch.of_set _ (by show w.heap.size ≤ w.heap.size; exact Nat.le_refl _) (by show w.heap.size < w.heap.size + 1; omega)).trans (Plain.Touch.of_set _ (by show w.heap.size ≤ w.heap.size; exact Nat.le_refl _) (by show w.heap.size < w.heap.size + 1; omega))).trans (Plain.Touch.of_set _ (by show w.heap.size ≤ w.heap.size; exact Nat.le_refl _) (by show w.heap.size < w.heap.size + 1; omega))
          have := (HW.out.touch T0 (.inr (by omega))).lower (show w.heap.size ≤ BB by omega)
          simpa only [size_setCell'] using this
        · exact grown_set (grown_set (grown_set HG8.out (Nat.le_refl _) _) (Nat.le_refl _) _) (Nat.le_refl _) _
        · exact (((HS8.out.other (Cursor.grown_setCell _ w.heap.size 0 _) (fun k hk => by cases hk; exact ⟨hcc, hcW⟩)).other (Cursor.grown_setCell _ w.heap.size 1 _) (fun k hk => by cases hk; exact ⟨hcc, hcW⟩)).other (Cursor.grown_setCell _ w.heap.size 2 _) (fun k hk => by cases hk; exact ⟨hcc, hcW⟩)).cur
    case pos =>
      obtain ⟨na, nc, oa, oc, hvn, hvo⟩ := hM.out.form
      rw [hL.out.1] at hvn
      rw [hL.out.2.1] at hvo
      subst hvn; subst hvo
      have hb7 : Below W6.heap.size W6 (W6.alloc (.cells #[] 3)) := (Below.refl _ _).alloc (Nat.le_refl _) _
      have hRG : Hid (Rowing (W6.alloc (.cells #[] 3)) BB (W6.alloc (.cells #[] 3)).heap.size p (b : Int) (.slice na i nc) (.slice oa i oc) (.slice none 0 0) (.slice (some ⟨W6.heap.size, 0, none⟩) 0 0) us rows out [] []) :=
        hM.out.begin hb7 (has_lit0 (enc := Value.int .i64) rfl (Nat.le_refl _))
      have hZ7 := Lib.hid (hZ.out.below hb7)
      have hG7 := Lib.hid (grown_new hG.out (.cells #[] 3))
      have hS7 := Lib.hid (hS.out.alloc (.cells #[] 3))
      clear hM hZ hG hS hb7
      go_wp2_with fail
      go_loopw [9, 10] (fun r' k' wr => ∃ (k : Nat) (r : List Int) (hi' : Nat), k ≤ b ∧ k' = .int .i64 k ∧ Hid (r.length = k) ∧ Hid (Rowing wr BB hi' p (b : Int) (.slice na i nc) (.slice oa i oc) (.slice none 0 0) r' us rows out [] r) ∧ Hid (Cells3 wr z 69 (.int .i64 0) (.slice none 0 0) (.slice none 0 0)) ∧ Hid (w.grownBy wr (some c)) ∧ Hid (Stands W wr c a len cap)) (fun _ k' _ => b - (intOf k').toNat)
      case atStart => exact ⟨0, [], _, Nat.zero_le _, rfl, rfl, hRG, hZ7, hG7, hS7⟩
      case round =>
        clear hRG hZ7 hG7 hS7
        obtain ⟨k, r, hi', hkb, rfl, hRL, hRG, hZ, hG, hS⟩ := hrel
        obtain ⟨W8, rfl⟩ : ∃ W : World, W = wr := ⟨_, rfl⟩
        obtain ⟨ra, rc, hr9, _⟩ := hRG.out.row_.has.form
        rw [hRL.out] at hr9
        subst hr9
        by_cases hlk : k < b
        case pos =>
          have hn0 : (1 : Int) ≤ (n : Int) := by omega
          go_wp2_with fail
          refine (HB.out _ n hn0 (by omega) hS.out).mono ?_
          rintro e W9 ⟨x, hx, rfl, g9, c9⟩
          have HR9 := Lib.hid (hRG.out.moved g9 (by have := HNUM.out; omega) (by have := HNUM.out; omega))
          have HZ9 := Lib.hid (hZ.out.grown g9 (by have := HNUM.out; simp; omega))
          have HG9 := Lib.hid (grown_more hG.out g9 (fun k hk => .inl (Option.some.inj hk).symm))
          have HS9 := Lib.hid (hS.out.next g9 c9)
          have HLE := Lib.hid (show BB ≤ W9.heap.size from Nat.le_trans HR9.out.lo HR9.out.le)
          clear hRG hZ hG hS hx g9 c9
          go_wp2_with (at_builtin; refine wpList_append_list (enc := Value.int .i64) (e := 3) rfl (.tmp 24) (.tmp 28) 24 rfl BB i0 (.int .i64 0) 8 Tryz.underlying24 hi0 hz0 hz1 hz2 rfl (.slice ra k rc) r rfl (has_alloc HR9.out.row_.has _) (.slice (some ⟨W9.heap.size, 0, none⟩) 1 1) [x] rfl (lies_lit1 (enc := Value.int .i64) _ rfl) (fun _ _ => rfl) (by rw [hRL.out]; simp only [List.length_cons, List.length_nil]; omega) (by rw [hRL.out]; simp only [List.length_cons, List.length_nil]; omega) (by have := HLE.out; simp; omega) ?_; intro v9 w9 hv9 hg9 hb9; have hg9' := grown_alloc hg9)
          have HR10 := Lib.hid (HR9.out.grow hv9 hg9' (fun k hk => (hb9 k hk).imp id (fun h => by simp at h; omega)))
          have hlo : ∀ k, (Value.slice ra k rc).ownBlock = some k → True := fun _ _ => trivial
          have HZ10 := Lib.hid (HZ9.out.grown hg9' (has_ne_c3 HR9.out.row_.has HZ9.out (by decide)))
          have HG10 := Lib.hid (grown_more HG9.out hg9' (fun k hk => .inr (by have := (HR9.out.row_.has.lt k hk).1; have := HNUM.out; omega)))
          have HS10 := Lib.hid (HS9.out.other hg9' (fun k hk => by have := (HR9.out.row_.has.lt k hk).1; have := HNUM.out; omega))
          have HRL : Hid ((r ++ [x]).length = k + 1) := by show _ = _; rw [List.length_append, hRL.out]; rfl
          clear hv9 hg9 hb9 hg9' HR9 HZ9 HG9 HS9 hlo
          go_wp2
          go_roundw
          case rel => exact ⟨k + 1, r ++ [x], w9.heap.size, by omega, by go_num, HRL, HR10, HZ10, HG10, HS10⟩
          case measure => simp [intOf]; omega
        case neg =>
          obtain rfl : b = k := by omega
          have d1 := hRG.out.cells.c1
          have d2 := (hRG.out.cells.alloc (.cells #[Value.slice ra b rc] 24)).c1
          have hpl := hRG.out.cells.lt
          have HNP := Lib.hid (has_ne_c3 hRG.out.top hRG.out.cells (by decide))
          have HNZ := Lib.hid (has_ne_c3 hRG.out.top hZ.out (by decide))
          have HLO8 := Lib.hid (show BB ≤ W8.heap.size from Nat.le_trans hRG.out.lo hRG.out.le)
          have HUL : Hid (us.length = i) := by show _ = _; rw [hRG.out.len, hL.out.1]
          go_wp2_with (at_builtin; refine wpList_append_list (enc := id) (e := 24) rfl (.tmp 31) (.tmp 33) 26 rfl BB i2 (.slice none 0 0) 24 Tryz.underlying26 hi2 hz20 hz21 hz22 rfl (.slice na i nc) us rfl (has_alloc hRG.out.top _) (.slice (some ⟨W8.heap.size, 0, none⟩) 1 1) [.slice ra b rc] rfl (lies_lit1v _ rfl) (fun y hy => by simp at hy; subst hy; rfl) (by rw [HUL.out]; simp only [List.length_cons, List.length_nil]; omega) (by rw [HUL.out]; simp only [List.length_cons, List.length_nil]; omega) (by have := HLO8.out; simp; omega) ?_; intro v' w2 hv' hg2 _; obtain ⟨a3, c3, hvf, _⟩ := hv'.form; rw [show (us ++ [Value.slice ra b rc]).length = i + 1 from by rw [List.length_append, HUL.out]; rfl] at hvf; subst hvf; have hg3 := grown_alloc hg2; have hc2 := hRG.out.cells.grown hg3 HNP.out; have d3 := hc2.c1; have df := hc2.f)
          obtain ⟨l3, hl3⟩ : ∃ l, l = i + 1 := ⟨_, rfl⟩
          rw [← hl3] at hv' ⊢
          have HM5 := Lib.hid (hRG.out.done hv' hg3)
          have hne1 : (p : Nat) ≠ z := by have := HNUM.out; omega
          have hne2 : p ≠ c := by have := HNUM.out; omega
          have HZ5 := Lib.hid ((hZ.out.grown hg3 HNZ.out).other (a := ⟨p, 1, none⟩) hne1 (.slice a3 l3 c3))
          have hg5 := grown_more hG.out hg3 (fun k hk => .inr (by have := (hRG.out.top.lt k hk).1; have := HNUM.out; omega))
          have HG5 : Hid (w.grownBy (w2.setCell ⟨p, 1, none⟩ (.slice a3 l3 c3)) (some c)) := grown_set hg5 (by have := HNUM.out; omega) _
          have hs5 := hS.out.other hg3 (fun k hk => by have := (hRG.out.top.lt k hk).1; have := HNUM.out; omega)
          have HS5 : Hid (Stands W (w2.setCell ⟨p, 1, none⟩ (.slice a3 l3 c3)) c a len cap) := hs5.other (Cursor.grown_setCell w2 p 1 _) (fun k hk => by cases hk; have := HNUM.out; omega)
          have HG6 : Hid (BB ≤ (w2.setCell ⟨p, 1, none⟩ (.slice a3 l3 c3)).heap.size) := by show _ ≤ _; rw [size_setCell']; exact Nat.le_trans HLO8.out hg3.size
          obtain ⟨W5, hW5⟩ : ∃ W, W = w2.setCell ⟨p, 1, none⟩ (.slice a3 l3 c3) := ⟨_, rfl⟩
          rw [← hW5] at HM5 HZ5 HG5 HS5 HG6 ⊢
          have HW5 := Lib.hid (show w2.heap.size = W5.heap.size by rw [hW5, size_setCell'])
          rw [HW5.out] at HM5
          clear hv' hg2 hg3 hc2 d1 d2 d3 df hpl hRG hZ hG hS hW5 hl3 HNP HNZ HLO8 HW5 hs5 hg5
          have HCC : Hid (c < BB ∧ c ≠ p ∧ c ≠ z) := by have := HNUM.out; exact ⟨by omega, by omega, by omega⟩
          have d1 := HM5.out.cells.c2
          have hpl := HM5.out.cells.lt
          go_region_law (first
            | (go_simp; go_at_call 55; (with_reducible refine (HB.out _ 2 (by decide) (by decide) HS5.out.drew).mono ?_); rintro e w1 ⟨x1, ⟨hx0, hx1⟩, rfl, g1, c1'⟩; have G1 := Lib.hid (Plain.grown_drew g1); have HM6 := Lib.hid (HM5.out.moved G1.out HCC.out.1 HCC.out.2.1); have HS6 := Lib.hid (HS5.out.drew.next g1 c1'); have d2 := HM6.out.cells.c2)
            | (go_simp; go_at_call 55; (with_reducible refine (HB.out _ (IntKind.i64.wrap (2 + x1)) (by rw [IntKind.wrap_i64]; omega) (by rw [IntKind.wrap_i64]; omega) HS6.out).mono ?_); rintro e w3 ⟨x2, hx2, rfl, g2, c2'⟩; have HM7 := Lib.hid (HM6.out.moved g2 HCC.out.1 HCC.out.2.1); have G2 := Lib.hid g2; have HS7 := Lib.hid (HS6.out.next g2 c2'); have HVO := Lib.hid HM7.out.terms; have HNO := Lib.hid (has_ne_c3 HVO.out.has HM7.out.cells (by decide)); have d3 := HM7.out.cells.c2; have d4 := (HM7.out.cells.alloc (.cells #[Value.int .i64 x2] 3)).c2; have hpl3 := HM7.out.cells.lt)
            | (refine step_append_at_list (enc := Value.int .i64) (e := 3) rfl (.tmp 37) (.tmp 43) 24 rfl BB i0 (.int .i64 0) 8 Tryz.underlying24 hi0 hz0 hz1 hz2 rfl (.slice oa i oc) out rfl (by repeat (first | with_reducible exact HVO.out.has | with_reducible apply has_drew | with_reducible apply has_alloc)) (Value.slice (some ⟨_, 0, none⟩) 1 1) [x2] rfl (by repeat (first | with_reducible apply lies_drew | (with_reducible refine lies_lit1 (enc := Value.int .i64) _ rfl) | with_reducible apply lies_alloc)) (fun _ _ => rfl) (by rw [hL.out.2.1]; simp only [List.length_cons, List.length_nil]; omega) (by rw [hL.out.2.1]; simp only [List.length_cons, List.length_nil]; omega) (by have := Nat.le_trans HM7.out.lo HM7.out.le; simp; omega) ?_; intro vt w6 ho6 hg6 hb6; obtain ⟨a6, c6, hvf, _⟩ := ho6.form; rw [show (out ++ [x2]).length = i + 1 from by rw [List.length_append, hL.out.2.1]; rfl] at hvf; subst hvf; have hg7 := grown_alloc hg6; have hc7 := HM7.out.cells.grown hg7 HNO.out; have r1 := hc7.c2; have r3 := hc7.f))
          all_goals
            have HM8 := Lib.hid (HM7.out.term ho6 hg7 (fun k hk => (hb6 k hk).imp id (fun h => by simp at h; omega)))
            have hz8 := (((HZ5.out.grown G1.out (by have := HCC.out; simp; omega)).grown G2.out (by have := HCC.out; simp; omega)).grown hg7 (has_ne_c3 HVO.out.has ((HZ5.out.grown G1.out (by have := HCC.out; simp; omega)).grown G2.out (by have := HCC.out; simp; omega)) (by decide))).other (a := ⟨p, 2, none⟩) hne1 (.slice a6 (i + 1) c6)
            have HZ8 := Lib.hid hz8
            have hg8 := grown_more (grown_more (grown_more HG5.out G1.out (fun k hk => .inl (Option.some.inj hk).symm)) G2.out (fun k hk => .inl (Option.some.inj hk).symm)) hg7 (fun k hk => .inr (by have := (HVO.out.has.lt k hk).1; have := HNUM.out; omega))
            have HG8 : Hid (w.grownBy (w6.setCell ⟨p, 2, none⟩ (.slice a6 (i + 1) c6)) (some c)) := grown_set hg8 (by have := HNUM.out; omega) _
            have hs8 := HS7.out.other hg7 (fun k hk => by have := (HVO.out.has.lt k hk).1; have := HNUM.out; omega)
            have HS8 : Hid (Stands W (w6.setCell ⟨p, 2, none⟩ (.slice a6 (i + 1) c6)) c a len cap) := hs8.other (Cursor.grown_setCell w6 p 2 _) (fun k hk => by cases hk; have := HNUM.out; omega)
            have HL8 : Hid ((rows ++ [r]).length = i + 1 ∧ (out ++ [x2]).length = i + 1 ∧ ∀ q ∈ rows ++ [r], q.length = b) := by
              refine ⟨by rw [List.length_append, hL.out.1]; rfl, by rw [List.length_append, hL.out.2.1]; rfl, fun q hq => ?_⟩
              rcases List.mem_append.1 hq with h1 | h1
              · exact hL.out.2.2 q h1
              · rw [List.mem_singleton.1 h1]; exact hRL.out
            clear ho6 hb6 hg6 hg7 hc7 r1 r3 d1 d2 d3 d4 hpl hpl3 HM5 HM6 HM7 HVO HNO HZ5 HG5 HS5 HS6 HS7 G1 G2 g1 g2 c1' c2' hz8 hg8 hs8 hx2 hx0 hx1
            go_wp2
            go_roundw
            case rel => exact ⟨i + 1, _, _, _, _, _, w6.heap.size, by omega, by go_num, HL8, HM8, HZ8, HG8, HS8⟩
            case measure => simp [intOf]; omega
end Cursor
end Go.Proofs.YtfpdikohlafpiaaGreat
