/- Contracts of the model's draws of a word and of a morphism. No conditions beyond those that each states. -/
import Derived.Test.YtfpdikohlafpiaaGreatNamed
import Derived.Test.YtfpdikohlafpiaaGreatMor
import Derived.Test.YtfpdikohlafpiaaGreatRowsIn
import Derived.Deep.RegionHeld3
namespace Go.Proofs.YtfpdikohlafpiaaGreat
open Go.ChangeShapes Go.WideShapes Go.ChangeAt Go.RowKit
open Go.PlainAid Plain
set_option linter.unusedVariables false
namespace Cursor
open Seqs Ints Mor
set_option maxRecDepth 100000 in
set_option maxHeartbeats 2000000 in
theorem word7 (W w : World) (p : Nat) (a : Option Addr) (len cap : Nat) (b : Int) (hb0 : 1 ≤ b) (hb1 : b ≤ 100) (hlen : len ≤ 1048576) (hcode : CodeIs W W.heap.size a len) (hs : Stands W w p a len cap) :
    Calls Tryz.prog 49 #[.pointer (some ⟨p, 0, none⟩), .int .i64 b] w (SomeList (fun xs => xs.length ≤ 11) w (fun w' => w.grownBy w' (some p) ∧ CurIs w' p a len cap)) := by
  obtain ⟨i0, hi, hz0, hz1, hz2⟩ := info_parts infoI
  have HB := Lib.hid (fun (w : World) (n : Int) (hn0 : 1 ≤ n) (hn1 : n ≤ 9223372036854775807) (hs : Stands W w p a len cap) => below W w p a len cap n hn0 hn1 hlen hcode hs)
  have hpw := hs.lt
  have hs0 := hs.alloc (.cells #[] 3)
  have he := Lib.hid (has_lit0 (enc := (Value.int .i64)) (e := 3) (w := w) (base := w.heap.size) rfl (Nat.le_refl _))
  have hg0 := grown_new (grown_self w p) (.cells #[] 3)
  clear hcode
  go_enter Tryz.func49, Tryz.ntmps49
  go_wp2_with fail
  refine (HB.out _ 12 (by decide) (by decide) hs0).mono ?_
  rintro e w1 ⟨x, ⟨hx0, hx1⟩, rfl, hg1, hc1⟩
  have HS1 := Lib.hid (hs0.next hg1 hc1)
  have HE1 := Lib.hid (he.out.grown hg1 (.inr (by simp [Value.ownBlock]; omega)))
  have HG1 := Lib.hid (grown_more hg0 hg1 (fun k hk => .inl (Option.some.inj hk).symm))
  clear hg1 hc1 hs0 hg0
  go_wp2_with fail
  go_loopw [5, 6] (fun o' i' wr => ∃ (k : Nat) (xs : List Int), i' = .int .i64 k ∧ k + xs.length ≤ 11 ∧ Hid (Has (Value.int .i64) 3 wr w.heap.size o' xs) ∧ Hid (Stands W wr p a len cap) ∧ Hid (w.grownBy wr (some p))) (fun _ i' _ => (intOf i').toNat)
  case atStart => exact ⟨x.toNat, [], by congr 1; omega, by simp; omega, HE1.out, HS1.out, HG1⟩
  case round =>
    obtain ⟨k, xs, rfl, hk, hown, hst, hsz⟩ := hrel
    by_cases h0 : 0 < k
    · have hpo : Hid (∀ (w2 w3 : World) (u : Value) (ys : List Int), Has (Value.int .i64) 3 w2 w.heap.size u ys → w2.grownBy w3 u.ownBlock → Stands W w2 p a len cap → Stands W w3 p a len cap) := fun w2 w3 u ys h2 hg hs2 => hs2.other hg (fun q hq => by have := h2.lt q hq; have := hs.own; omega)
      go_wp2_with fail
      refine (HB.out _ b (by omega) (by omega) hst.out).mono ?_
      rintro e w2 ⟨y, ⟨hy0, hy1⟩, rfl, hg2, hc2⟩
      have HS2 := Lib.hid (hst.out.next hg2 hc2)
      have HO2 := Lib.hid (hown.out.moved hg2 hpw)
      have HG2 := Lib.hid (grown_more hsz.out hg2 (fun k hk => .inl (Option.some.inj hk).symm))
      have hb2 := HG2.out.size
      clear hg2 hc2 hst hown
      go_wp2_with (at_builtin; refine append_one (enc := (Value.int .i64)) (e := 3) w2 rfl _ _ 24 rfl w.heap.size i0 (.int .i64 0) 8 Tryz.underlying24 hi hz0 hz1 hz2 rfl u5 _ rfl HO2.out y rfl (fun _ => rfl) (by omega) (by omega) hb2 ?_; intro v' w' hown' hgrow')
      have HS3 := Lib.hid (hpo.out _ _ _ _ HO2.out hgrow' HS2.out)
      have HG3 := Lib.hid (grown_more HG2.out hgrow' (fun k hk => .inr (HO2.out.lt k hk).1))
      have HO3 := Lib.hid hown'
      clear hown' hgrow' HS2 HO2 hpo
      go_wp2
      go_roundw
      case rel => exact ⟨k - 1, xs ++ [y], by congr 1; omega, by simp; omega, HO3.out, HS3.out, HG3⟩
      case measure => simp [intOf]; omega
    · obtain rfl : k = 0 := by omega
      go_wp2
      go_ret
      exact ⟨u5, xs, by omega, rfl, hown.out, hsz.out, hst.out.cur⟩
end Cursor
namespace Plain
theorem HasRows.moved {w w' : World} {lo hi c : Nat} {v : Value} {rows : List (List Int)} (h : HasRows w lo hi v rows) (hg : w.grownBy w' (some c)) (hc : c < lo) : HasRows w' lo hi v rows := by
  obtain ⟨us, h1, h2, h3, h4⟩ := h
  exact ⟨us, h1.moved hg hc, h2.moved hg hc, h3, Nat.le_trans h4 hg.size⟩
theorem HasRows.rowGrown {w w' : World} {lo hi base : Nat} {v u : Value} {rows : List (List Int)} {r : List Int} (h : HasRows w lo hi v rows) (hu : Has (Value.int .i64) 3 w base u r) (hb : hi ≤ base) (hg : w.grownBy w' u.ownBlock) : HasRows w' lo hi v rows := by
  obtain ⟨us, h1, h2, h3, h4⟩ := h
  refine ⟨us, h1.grown hg (h1.ne_top hu), ⟨h2.len, fun i x y hx hy => (h2.row i x y hx hy).wrote (Wrote.of_grown hg) fun z hz => ?_, h2.apart⟩, h3, Nat.le_trans h4 hg.size⟩
  rw [List.mem_singleton.1 hz]
  cases hk : x.ownBlock with
  | none => exact .inl rfl
  | some k =>
    refine .inr fun e => ?_
    have h5 := (h2.row i x y hx hy).lt k hk
    have h6 := (hu.lt k e.symm).1
    omega
theorem HasRows.setOther {w : World} {lo hi g j : Nat} {v x : Value} {rows : List (List Int)} (h : HasRows w lo hi v rows) (hg : g < lo) : HasRows (w.setCell ⟨g, j, none⟩ x) lo hi v rows :=
  HasRows.moved h (Cursor.grown_setCell w g j x) hg
theorem has_ne_c1d {α : Type} {enc : α → Value} {e t : TypeId} {w : World} {v x : Value} {xs : List α} {base b : Nat} (h : Has enc e w base v xs) (hc : Cells1 w b t x) (hne : e ≠ t) : v.ownBlock ≠ some b := by
  rcases h.2 with ⟨rfl, _⟩ | ⟨g, cap, cur, rfl, _, hg, _⟩
  · intro h; cases h
  · intro h
    have e1 : g = b := by simpa [Value.ownBlock] using h
    subst e1
    rw [hc.row] at hg
    simp at hg
    exact hne hg.2.symm
theorem HasRows.c1 {w w' : World} {lo hi b : Nat} {t : TypeId} {x v : Value} {rows : List (List Int)} (h : HasRows w lo hi v rows) (hc : Cells1 w b t x) (hne : (24 : Nat) ≠ t) (hg : w.grownBy w' v.ownBlock) : Cells1 w' b t x := by
  obtain ⟨us, h1, _⟩ := h
  exact hc.grown hg (has_ne_c1d h1 hc hne)
theorem HasRows.lt {w : World} {lo hi : Nat} {v : Value} {rows : List (List Int)} (h : HasRows w lo hi v rows) : ∀ k, v.ownBlock = some k → lo ≤ k ∧ k < w.heap.size := by
  obtain ⟨us, h1, _⟩ := h
  exact h1.lt
end Plain
namespace Cursor
open Seqs Ints Mor
def SomeMor (w : World) (Q : World → Prop) (e : Ending) (w' : World) : Prop := ∃ v m, e = .returned v ∧ OwnM w' w.heap.size w'.heap.size v m ∧ Q w'
/-- A morphism's rows behind their struct. -/
theorem own_mor {w : World} {lo' lo hi : Nat} {v : Value} {us : List Value} {rows : List (List Int)} (h : OwnR w lo hi v us rows) (hl : lo' ≤ lo) : OwnM w lo' w.heap.size (.agg #[v]) rows :=
  ⟨v, us, rfl, ⟨h.top.mono hl, fun k hk => (h.top.lt k hk).2, Nat.le_refl _, (h.rows.lower hl).mono h.le (Nat.le_refl _)⟩⟩

theorem infoR7 : (Tryz.prog.info? 24).map (fun i => (i.zero, i.size, i.bytes)) = some (some (.slice none 0 0), 1, 24) := by kernel_rfl
/-- What a draw of a morphism leaves: the result's box is written last. -/
theorem mor_end {w wx : World} {c z : Nat} {a : Option Addr} {len cap : Nat} {vn : Value} {us : List Value} {lo : Nat} {m : List (List Int)} (hz : z = w.heap.size) (hc : c < z) (ho : OwnR wx lo wx.heap.size vn us m) (hlo : z < lo) (hg : w.grownBy wx (some c)) (hcur : CurIs wx c a len cap) :
    OwnM (wx.setCell ⟨z, 0, none⟩ vn) w.heap.size (wx.setCell ⟨z, 0, none⟩ vn).heap.size (.agg #[vn]) m ∧ w.grownBy (wx.setCell ⟨z, 0, none⟩ vn) (some c) ∧ CurIs (wx.setCell ⟨z, 0, none⟩ vn) c a len cap := by
  have T0 : Plain.Touch z (z + 1) wx (wx.setCell ⟨z, 0, none⟩ vn) := Plain.Touch.of_set _ (Nat.le_refl _) (Nat.lt_succ_self _)
  have h1 := ho.touch T0 (.inr (by omega))
  refine ⟨?_, grown_set hg (by omega) _, ?_⟩
  · rw [size_setCell']
    exact ⟨vn, us, rfl, ⟨h1.top.mono (by omega), h1.lt, h1.le, h1.rows.lower (by omega)⟩⟩
  · obtain ⟨i, h, h2, h3, h4⟩ := hcur
    refine ⟨i, h, h2, h3, ?_⟩
    rw [← h4]
    exact heap_setCell_other wx ⟨z, 0, none⟩ c vn (by show c ≠ z; omega)
theorem has_store {α : Type} {enc : α → Value} {e : TypeId} {w : World} {base n cap g : Nat} {xs : List α} (h : Has enc e w base (.slice (some ⟨g, 0, none⟩) n cap) xs) (hn : n = xs.length) (j : Nat) (x : α) : Has enc e (w.setCell ⟨g, j, none⟩ (enc x)) base (.slice (some ⟨g, 0, none⟩) n cap) (xs.set j x) ∧ w.grownBy (w.setCell ⟨g, j, none⟩ (enc x)) (some g) := by
  subst hn
  have h' : w.ownsRow base e 1 (.slice (some ⟨g, 0, none⟩) xs.length cap) xs.length (xs.map enc) := h
  have h1 := h'.stored j (enc x)
  refine ⟨?_, h1.2⟩
  show World.ownsRow _ _ _ _ _ _ _
  rw [List.length_set, List.map_set]
  exact h1.1
def nums7 : List Int := [-1, 4, 0]
theorem nums7_ok : ∀ v ∈ nums7, I64 v := by unfold nums7 I64; simp
theorem has_top0 {w : World} {base g n cc : Nat} {u : Value} {us : List Value} (h : Has id 24 w base (.slice (some ⟨g, 0, none⟩) n cc) (u :: us)) (hn : n = (u :: us).length) : w.cell? ⟨g, 0, none⟩ = some u ∧ w.frozen? ⟨g, 0, none⟩ = false := by
  subst hn
  have h1 : w.ownsRow base 24 1 (.slice (some ⟨g, 0, none⟩) (u :: us).length cc) (u :: us).length ((u :: us).map id) := h
  refine ⟨?_, h1.frozenAt 0⟩
  rw [h1.cellAt 0 (by simp)]
  rfl
set_option maxRecDepth 100000 in
set_option maxHeartbeats 4000000 in
theorem mor7 (W w : World) (c : Nat) (a : Option Addr) (len cap : Nat) (hlen : len ≤ 1048576) (hcode : CodeIs W W.heap.size a len) (hs : Stands W w c a len cap) :
    Calls Tryz.prog 68 #[.pointer (some ⟨c, 0, none⟩)] w (SomeMor w (fun w' => w.grownBy w' (some c) ∧ CurIs w' c a len cap)) := by
  obtain ⟨i0, hi, hz0, hz1, hz2⟩ := info_parts infoI
  obtain ⟨j0, hj, hy0, hy1, hy2⟩ := info_parts infoR7
  have HB := Lib.hid (fun (w : World) (n : Int) (hn0 : 1 ≤ n) (hn1 : n ≤ 9223372036854775807) (hs : Stands W w c a len cap) => below W w c a len cap n hn0 hn1 hlen hcode hs)
  have HO := Lib.hid (fun (w : World) (hs : Stands W w c a len cap) => once W w c a len cap 12 (by decide) (by decide) hlen hcode hs)
  have HP := Lib.hid (fun (w : World) (q : Nat) (hq : q ≠ c) (hqs : q < w.heap.size) (hl : ListIs w q 3) (hs : Stands W w c a len cap) => pickInt W w c a len cap q 3 3 (by decide) (by decide) hq hqs hl hlen hcode hs)
  have hcw := hs.lt
  have hown := hs.own
  have hs0 := hs.alloc (Obj.cells #[Value.slice none 0 0] 73)
  have hZ0 := Cells1.new w 73 (.slice none 0 0)
  have hg0 := grown_new (grown_self w c) (Obj.cells #[Value.slice none 0 0] 73)
  clear hcode
  go_enter Tryz.func68, Tryz.ntmps68
  go_wp2_with fail
  refine (HB.out _ 5 (by decide) (by decide) hs0).mono ?_
  rintro e W1 ⟨x, ⟨hx0, hx1⟩, rfl, hg1, hc1⟩
  have HS1 := Lib.hid (hs0.next hg1 hc1)
  have HG1 := Lib.hid (grown_more hg0 hg1 (fun k hk => .inl (Option.some.inj hk).symm))
  have HZ1 := Lib.hid (hZ0.grown hg1 (by simp; omega))
  have hsz1 : w.heap.size + 1 ≤ W1.heap.size := by have := hg1.size; simp at this; omega
  clear hg1 hc1 hs0 hg0 hZ0
  have z0 := HZ1.out.c0
  have z3 := HZ1.out.f
  by_cases e0 : x = 0
  · subst e0
    have HR := chain_top (chain_row (chain_row (OwnRows.nil W1 W1.heap.size W1.heap.size) (by first | omega | (simp only [size_alloc']; omega)) [0, 1] (by simp)) (by first | omega | (simp only [size_alloc']; omega)) [1, 0] (by simp)) (by first | omega | (simp only [size_alloc']; omega)) (by simp)
    simp only [size_alloc', List.nil_append, List.cons_append, List.length_cons, List.length_nil, List.map_cons, List.map_nil] at HR
    have hg5 : w.grownBy (((W1.alloc (.cells #[.int .i64 0, .int .i64 1] 3)).alloc (.cells #[.int .i64 1, .int .i64 0] 3)).alloc (.cells #[.slice (some ⟨W1.heap.size, 0, none⟩) 2 2, .slice (some ⟨W1.heap.size + 1, 0, none⟩) 2 2] 24)) (some c) := (grown_new (grown_new (grown_new HG1.out _) _) _)
    have hz5 : Cells1 (((W1.alloc (.cells #[.int .i64 0, .int .i64 1] 3)).alloc (.cells #[.int .i64 1, .int .i64 0] 3)).alloc (.cells #[.slice (some ⟨W1.heap.size, 0, none⟩) 2 2, .slice (some ⟨W1.heap.size + 1, 0, none⟩) 2 2] 24)) w.heap.size 73 (.slice none 0 0) := (((HZ1.out.alloc _).alloc _).alloc _)
    have hc5 : CurIs (((W1.alloc (.cells #[.int .i64 0, .int .i64 1] 3)).alloc (.cells #[.int .i64 1, .int .i64 0] 3)).alloc (.cells #[.slice (some ⟨W1.heap.size, 0, none⟩) 2 2, .slice (some ⟨W1.heap.size + 1, 0, none⟩) 2 2] 24)) c a len cap := by
      obtain ⟨i, h, h2, h3, h4⟩ := HS1.out.cur
      exact ⟨i, h, h2, h3, by rw [← h4]; exact ((show Below W1.heap.size W1 (((W1.alloc (.cells #[.int .i64 0, .int .i64 1] 3)).alloc (.cells #[.int .i64 1, .int .i64 0] 3)).alloc (.cells #[.slice (some ⟨W1.heap.size, 0, none⟩) 2 2, .slice (some ⟨W1.heap.size + 1, 0, none⟩) 2 2] 24)) from ((((Below.refl _ _).alloc (by first | omega | (simp only [size_alloc']; omega)) _).alloc (by first | omega | (simp only [size_alloc']; omega)) _).alloc (by first | omega | (simp only [size_alloc']; omega)) _))).block c HS1.out.lt⟩
    obtain ⟨W5, hW5⟩ : ∃ W, W = (((W1.alloc (.cells #[.int .i64 0, .int .i64 1] 3)).alloc (.cells #[.int .i64 1, .int .i64 0] 3)).alloc (.cells #[.slice (some ⟨W1.heap.size, 0, none⟩) 2 2, .slice (some ⟨W1.heap.size + 1, 0, none⟩) 2 2] 24)) := ⟨_, rfl⟩
    have y0 := hz5.c0
    have y3 := hz5.f 0
    go_wp2
    rw [← hW5] at HR hg5 hz5 hc5 ⊢
    have m0 := (hz5.set0 (.slice (some ⟨W1.heap.size + 1 + 1, 0, none⟩) 2 2)).c0
    refine bodyPost_ret (v := .agg #[.slice (some ⟨W1.heap.size + 1 + 1, 0, none⟩) 2 2]) (by simp [results, Tryz.results68, go_sem, m0]) rfl ?_
    obtain ⟨r1, r2, r3⟩ := mor_end rfl hcw (by rw [hW5] at HR ⊢; simp only [size_alloc']; exact HR) (show w.heap.size < W1.heap.size by omega) hg5 hc5
    exact ⟨_, _, rfl, r1, r2, r3⟩
  · by_cases e1 : x = 1
    · subst e1
      have HR := chain_top (chain_row (chain_row (OwnRows.nil W1 W1.heap.size W1.heap.size) (by first | omega | (simp only [size_alloc']; omega)) [0, 1] (by simp)) (by first | omega | (simp only [size_alloc']; omega)) [0] (by simp)) (by first | omega | (simp only [size_alloc']; omega)) (by simp)
      simp only [size_alloc', List.nil_append, List.cons_append, List.length_cons, List.length_nil, List.map_cons, List.map_nil] at HR
      have hg5 : w.grownBy (((W1.alloc (.cells #[.int .i64 0, .int .i64 1] 3)).alloc (.cells #[.int .i64 0] 3)).alloc (.cells #[.slice (some ⟨W1.heap.size, 0, none⟩) 2 2, .slice (some ⟨W1.heap.size + 1, 0, none⟩) 1 1] 24)) (some c) := (grown_new (grown_new (grown_new HG1.out _) _) _)
      have hz5 : Cells1 (((W1.alloc (.cells #[.int .i64 0, .int .i64 1] 3)).alloc (.cells #[.int .i64 0] 3)).alloc (.cells #[.slice (some ⟨W1.heap.size, 0, none⟩) 2 2, .slice (some ⟨W1.heap.size + 1, 0, none⟩) 1 1] 24)) w.heap.size 73 (.slice none 0 0) := (((HZ1.out.alloc _).alloc _).alloc _)
      have hc5 : CurIs (((W1.alloc (.cells #[.int .i64 0, .int .i64 1] 3)).alloc (.cells #[.int .i64 0] 3)).alloc (.cells #[.slice (some ⟨W1.heap.size, 0, none⟩) 2 2, .slice (some ⟨W1.heap.size + 1, 0, none⟩) 1 1] 24)) c a len cap := by
        obtain ⟨i, h, h2, h3, h4⟩ := HS1.out.cur
        exact ⟨i, h, h2, h3, by rw [← h4]; exact ((show Below W1.heap.size W1 (((W1.alloc (.cells #[.int .i64 0, .int .i64 1] 3)).alloc (.cells #[.int .i64 0] 3)).alloc (.cells #[.slice (some ⟨W1.heap.size, 0, none⟩) 2 2, .slice (some ⟨W1.heap.size + 1, 0, none⟩) 1 1] 24)) from ((((Below.refl _ _).alloc (by first | omega | (simp only [size_alloc']; omega)) _).alloc (by first | omega | (simp only [size_alloc']; omega)) _).alloc (by first | omega | (simp only [size_alloc']; omega)) _))).block c HS1.out.lt⟩
      obtain ⟨W5, hW5⟩ : ∃ W, W = (((W1.alloc (.cells #[.int .i64 0, .int .i64 1] 3)).alloc (.cells #[.int .i64 0] 3)).alloc (.cells #[.slice (some ⟨W1.heap.size, 0, none⟩) 2 2, .slice (some ⟨W1.heap.size + 1, 0, none⟩) 1 1] 24)) := ⟨_, rfl⟩
      have y0 := hz5.c0
      have y3 := hz5.f 0
      go_wp2
      rw [← hW5] at HR hg5 hz5 hc5 ⊢
      have m0 := (hz5.set0 (.slice (some ⟨W1.heap.size + 1 + 1, 0, none⟩) 2 2)).c0
      refine bodyPost_ret (v := .agg #[.slice (some ⟨W1.heap.size + 1 + 1, 0, none⟩) 2 2]) (by simp [results, Tryz.results68, go_sem, m0]) rfl ?_
      obtain ⟨r1, r2, r3⟩ := mor_end rfl hcw (by rw [hW5] at HR ⊢; simp only [size_alloc']; exact HR) (show w.heap.size < W1.heap.size by omega) hg5 hc5
      exact ⟨_, _, rfl, r1, r2, r3⟩
    · by_cases e2 : x = 2
      · subst e2
        have HR := chain_top (chain_row (chain_row (chain_row (OwnRows.nil W1 W1.heap.size W1.heap.size) (by first | omega | (simp only [size_alloc']; omega)) [0, 1, 2] (by simp)) (by first | omega | (simp only [size_alloc']; omega)) [0, 2] (by simp)) (by first | omega | (simp only [size_alloc']; omega)) [1] (by simp)) (by first | omega | (simp only [size_alloc']; omega)) (by simp)
        simp only [size_alloc', List.nil_append, List.cons_append, List.length_cons, List.length_nil, List.map_cons, List.map_nil] at HR
        have hg5 : w.grownBy ((((W1.alloc (.cells #[.int .i64 0, .int .i64 1, .int .i64 2] 3)).alloc (.cells #[.int .i64 0, .int .i64 2] 3)).alloc (.cells #[.int .i64 1] 3)).alloc (.cells #[.slice (some ⟨W1.heap.size, 0, none⟩) 3 3, .slice (some ⟨W1.heap.size + 1, 0, none⟩) 2 2, .slice (some ⟨W1.heap.size + 1 + 1, 0, none⟩) 1 1] 24)) (some c) := (grown_new (grown_new (grown_new (grown_new HG1.out _) _) _) _)
        have hz5 : Cells1 ((((W1.alloc (.cells #[.int .i64 0, .int .i64 1, .int .i64 2] 3)).alloc (.cells #[.int .i64 0, .int .i64 2] 3)).alloc (.cells #[.int .i64 1] 3)).alloc (.cells #[.slice (some ⟨W1.heap.size, 0, none⟩) 3 3, .slice (some ⟨W1.heap.size + 1, 0, none⟩) 2 2, .slice (some ⟨W1.heap.size + 1 + 1, 0, none⟩) 1 1] 24)) w.heap.size 73 (.slice none 0 0) := ((((HZ1.out.alloc _).alloc _).alloc _).alloc _)
        have hc5 : CurIs ((((W1.alloc (.cells #[.int .i64 0, .int .i64 1, .int .i64 2] 3)).alloc (.cells #[.int .i64 0, .int .i64 2] 3)).alloc (.cells #[.int .i64 1] 3)).alloc (.cells #[.slice (some ⟨W1.heap.size, 0, none⟩) 3 3, .slice (some ⟨W1.heap.size + 1, 0, none⟩) 2 2, .slice (some ⟨W1.heap.size + 1 + 1, 0, none⟩) 1 1] 24)) c a len cap := by
          obtain ⟨i, h, h2, h3, h4⟩ := HS1.out.cur
          exact ⟨i, h, h2, h3, by rw [← h4]; exact ((show Below W1.heap.size W1 ((((W1.alloc (.cells #[.int .i64 0, .int .i64 1, .int .i64 2] 3)).alloc (.cells #[.int .i64 0, .int .i64 2] 3)).alloc (.cells #[.int .i64 1] 3)).alloc (.cells #[.slice (some ⟨W1.heap.size, 0, none⟩) 3 3, .slice (some ⟨W1.heap.size + 1, 0, none⟩) 2 2, .slice (some ⟨W1.heap.size + 1 + 1, 0, none⟩) 1 1] 24)) from (((((Below.refl _ _).alloc (by first | omega | (simp only [size_alloc']; omega)) _).alloc (by first | omega | (simp only [size_alloc']; omega)) _).alloc (by first | omega | (simp only [size_alloc']; omega)) _).alloc (by first | omega | (simp only [size_alloc']; omega)) _))).block c HS1.out.lt⟩
        obtain ⟨W5, hW5⟩ : ∃ W, W = ((((W1.alloc (.cells #[.int .i64 0, .int .i64 1, .int .i64 2] 3)).alloc (.cells #[.int .i64 0, .int .i64 2] 3)).alloc (.cells #[.int .i64 1] 3)).alloc (.cells #[.slice (some ⟨W1.heap.size, 0, none⟩) 3 3, .slice (some ⟨W1.heap.size + 1, 0, none⟩) 2 2, .slice (some ⟨W1.heap.size + 1 + 1, 0, none⟩) 1 1] 24)) := ⟨_, rfl⟩
        have y0 := hz5.c0
        have y3 := hz5.f 0
        go_wp2
        rw [← hW5] at HR hg5 hz5 hc5 ⊢
        have m0 := (hz5.set0 (.slice (some ⟨W1.heap.size + 1 + 1 + 1, 0, none⟩) 3 3)).c0
        refine bodyPost_ret (v := .agg #[.slice (some ⟨W1.heap.size + 1 + 1 + 1, 0, none⟩) 3 3]) (by simp [results, Tryz.results68, go_sem, m0]) rfl ?_
        obtain ⟨r1, r2, r3⟩ := mor_end rfl hcw (by rw [hW5] at HR ⊢; simp only [size_alloc']; exact HR) (show w.heap.size < W1.heap.size by omega) hg5 hc5
        exact ⟨_, _, rfl, r1, r2, r3⟩
      · have d0 : (x == 0) = false := by simpa using e0
        have d1 : (x == 1) = false := by simpa using e1
        have d2 : (x == 2) = false := by simpa using e2
        clear e0 e1 e2 z0 z3
        go_wp2_with fail
        refine (HB.out _ 3 (by decide) (by decide) HS1.out).mono ?_
        rintro e W2 ⟨n', ⟨hn0, hn1⟩, rfl, hg2, hc2⟩
        have HS2 := Lib.hid (HS1.out.next hg2 hc2)
        have HG2 := Lib.hid (grown_more HG1.out hg2 (fun k hk => .inl (Option.some.inj hk).symm))
        have HZ2 := Lib.hid (HZ1.out.grown hg2 (by simp; omega))
        have hsz2 : w.heap.size + 1 ≤ W2.heap.size := Nat.le_trans hsz1 hg2.size
        obtain ⟨n, hn⟩ : ∃ n : Nat, (1 : Int) + n' = (n : Int) := ⟨(1 + n').toNat, by omega⟩
        have hnn : 1 ≤ n ∧ n ≤ 3 := by omega
        clear hg2 hc2 HS1 HG1 HZ1 hsz1
        have hS3 := HS2.out.alloc (Obj.cells #[Value.slice none 0 0] 73)
        have hG3 := grown_new HG2.out (Obj.cells #[Value.slice none 0 0] 73)
        have hZ3 := HZ2.out.alloc (Obj.cells #[Value.slice none 0 0] 73)
        have hP3 := Cells1.new W2 73 (.slice none 0 0)
        have hR3 := HasRows.nil (base := W2.heap.size + 1) (World.ownsRow_nil (W2.alloc (Obj.cells #[Value.slice none 0 0] 73)) (W2.heap.size + 1) 24 1) (by rw [size_alloc']; exact Nat.le_refl _)
        have e1n : (1 : Int) + n' = (n : Int) := hn
        clear HS2 HG2 HZ2
        go_wp2_with fail
        obtain ⟨W3, hW3⟩ : ∃ W, W = W2.alloc (Obj.cells #[Value.slice none 0 0] 73) := ⟨_, rfl⟩
        rw [← hW3] at hS3 hG3 hZ3 hP3 hR3 ⊢
        obtain ⟨p, hp⟩ : ∃ p, p = W2.heap.size := ⟨_, rfl⟩
        rw [← hp] at hP3 hR3 hsz2 ⊢
        have HNUM := Lib.hid (show c < w.heap.size ∧ w.heap.size < p ∧ W.heap.size ≤ c from ⟨hcw, by omega, hown⟩)
        clear hW3 hp hn hn0 hn1 hsz2
        go_loopw [5] (fun i' wr => ∃ (i : Nat) (vn : Value) (rows : List (List Int)) (h0 : Nat), i ≤ n ∧ i' = .int .i64 i ∧ Hid (rows.length = i ∧ ∀ r ∈ rows, r.length ≤ 3) ∧ Hid (HasRows wr (p + 1) h0 vn rows) ∧ Hid (Cells1 wr p 73 vn) ∧ Hid (Cells1 wr w.heap.size 73 (.slice none 0 0)) ∧ Hid (w.grownBy wr (some c)) ∧ Hid (Stands W wr c a len cap)) (fun i' _ => n - (intOf i').toNat)
        case atStart => exact ⟨0, _, [], _, Nat.zero_le _, rfl, ⟨rfl, fun r hr => by cases hr⟩, hR3, hP3, hZ3, hG3, hS3⟩
        case round =>
          clear hS3 hG3 hZ3 hP3 hR3
          obtain ⟨i, vn, rows, h0, hil, rfl, HL, HR, HPb, HZ, HG, HS⟩ := hrel
          obtain ⟨W6, hW6⟩ : ∃ W : World, W = wr := ⟨_, rfl⟩
          rw [← hW6] at HR HPb HZ HG HS ⊢
          clear hW6
          by_cases hlt : i < n
          · have hcl : (i : Int) < (n : Int) := by omega
            have hb6 : Below W6.heap.size W6 (W6.alloc (.cells #[] 3)) := (Below.refl _ _).alloc (Nat.le_refl _) _
            have hl6 := HR.out.hi_le
            have hR6 := (HR.out.lift hl6.2 (Nat.le_refl _)).below hb6
            have hP6 := HPb.out.below hb6
            have hZ6 := HZ.out.below hb6
            have hG6 := grown_new HG.out (.cells #[] 3)
            have hS6 := HS.out.alloc (.cells #[] 3)
            have hX6 : Has (Value.int .i64) 3 (W6.alloc (.cells #[] 3)) W6.heap.size (.slice (some ⟨W6.heap.size, 0, none⟩) 0 0) [] := has_lit0 rfl (Nat.le_refl _)
            have HQ : Hid (p < W6.heap.size) := HPb.out.lt
            clear hb6 hl6 HR HPb HZ HG HS
            go_wp2_with fail
            obtain ⟨h6, hh6⟩ : ∃ z, z = W6.heap.size := ⟨_, rfl⟩
            rw [← hh6] at hR6 hX6 HQ ⊢
            clear hh6
            refine (HB.out _ 4 (by decide) (by decide) hS6).mono ?_
            rintro e W7 ⟨y, ⟨hy0', hy1'⟩, rfl, hg7, hc7⟩
            have hcn := HNUM.out
            have HS7 := Lib.hid (hS6.next hg7 hc7)
            have HR7 := Lib.hid (hR6.moved hg7 (by omega))
            have HP7 := Lib.hid (hP6.grown hg7 (by simp; omega))
            have HZ7 := Lib.hid (hZ6.grown hg7 (by simp; omega))
            have HX7 := Lib.hid (hX6.moved hg7 (by have := HQ.out; omega))
            have HG7 := Lib.hid (grown_more hG6 hg7 (fun k hk => .inl (Option.some.inj hk).symm))
            clear hg7 hc7 hS6 hR6 hP6 hZ6 hX6 hG6 hcn
            go_wp2_with fail
            go_loopw [6, 7] (fun o' k' wr => ∃ (k : Nat) (xs : List Int), k' = .int .i64 k ∧ k + xs.length ≤ 3 ∧ Hid (Has (Value.int .i64) 3 wr h6 o' xs) ∧ Hid (HasRows wr (p + 1) h6 vn rows) ∧ Hid (Cells1 wr p 73 vn) ∧ Hid (Cells1 wr w.heap.size 73 (.slice none 0 0)) ∧ Hid (w.grownBy wr (some c)) ∧ Hid (Stands W wr c a len cap)) (fun _ k' _ => (intOf k').toNat)
            case atStart => exact ⟨y.toNat, [], by congr 1; omega, by simp; omega, HX7, HR7, HP7, HZ7, HG7, HS7⟩
            case round =>
              clear HS7 HR7 HP7 HZ7 HX7 HG7
              obtain ⟨k, xs, rfl, hk, HX, HR, HPb, HZ, HG, HS⟩ := hrel
              by_cases hk0 : 0 < k
              · go_wp2_with fail
                refine (HB.out _ (n : Int) (by omega) (by omega) HS.out).mono ?_
                rintro e W8 ⟨q, ⟨hq0, hq1⟩, rfl, hg8, hc8⟩
                have hcn := HNUM.out
                have HS8 := Lib.hid (HS.out.next hg8 hc8)
                have HR8 := Lib.hid (HR.out.moved hg8 (by omega))
                have HP8 := Lib.hid (HPb.out.grown hg8 (by simp; omega))
                have HZ8 := Lib.hid (HZ.out.grown hg8 (by simp; omega))
                have HX8 := Lib.hid (HX.out.moved hg8 (by have := HQ.out; omega))
                have HG8 := Lib.hid (grown_more HG.out hg8 (fun k hk => .inl (Option.some.inj hk).symm))
                have hb8 : h6 ≤ W8.heap.size := Nat.le_trans HR.out.hi_le.2 hg8.size
                clear hg8 hc8 HS HR HPb HZ HX HG hcn
                go_wp2_with (at_builtin; refine append_one (enc := (Value.int .i64)) (e := 3) W8 rfl _ _ 24 rfl h6 i0 (.int .i64 0) 8 Tryz.underlying24 hi hz0 hz1 hz2 rfl u6 xs rfl HX8.out q rfl (fun _ => rfl) (by omega) (by omega) hb8 ?_; intro v' w' hown' hgrow')
                have hcn := HNUM.out
                have HS9 := Lib.hid (HS8.out.other hgrow' (fun q hq => by have := HX8.out.lt q hq; have := HQ.out; omega))
                have HR9 := Lib.hid (HR8.out.rowGrown HX8.out (Nat.le_refl _) hgrow')
                have HP9 := Lib.hid (HP8.out.grown hgrow' (has_ne_c1d HX8.out HP8.out (by decide)))
                have HZ9 := Lib.hid (HZ8.out.grown hgrow' (has_ne_c1d HX8.out HZ8.out (by decide)))
                have HG9 := Lib.hid (grown_more HG8.out hgrow' (fun k hk => .inr (by have := (HX8.out.lt k hk).1; have := HQ.out; omega)))
                have HX9 := Lib.hid hown'
                clear hown' hgrow' hcn
                go_roundw
                case rel => exact ⟨k - 1, xs ++ [q], by congr 1; omega, by simp; omega, HX9, HR9, HP9, HZ9, HG9, HS9⟩
                case measure => simp [intOf]; omega
              · obtain rfl : k = 0 := by omega
                obtain ⟨ra, rc, hrv, _⟩ := HX.out.form
                subst hrv
                obtain ⟨na, nc, hnv⟩ := HR.out.form
                subst hnv
                have p0 := HPb.out.c0
                have p1 := HPb.out.f 0
                have hrl : rows.length ≤ 100000 := by have := HL.out.1; omega
                have hcn := HNUM.out
                go_wp2_with (at_builtin; go_loud (refine wpList_append_row rfl _ _ 26 rfl j0 Tryz.underlying26 hj hy0 hy1 hy2 (.slice na rows.length nc) rfl HR.out (.slice ra xs.length rc) xs HX.out _ rfl rfl hrl ?_; intro v9 w9 ho9 hg9; obtain ⟨xa, xc, hv9⟩ := ho9.form; have hln : (rows ++ [xs]).length = rows.length + 1 := (by simp); rw [hln] at hv9; subst hv9; clear hln; have HR9 := Lib.hid ho9; have HP9 := Lib.hid (HR.out.c1 HPb.out (by decide) hg9); have HZ9 := Lib.hid (HR.out.c1 HZ.out (by decide) hg9); have HG9 := Lib.hid (grown_more HG.out hg9 (fun k hk => .inr (by have := (HR.out.lt k hk).1; omega))); have HS9 := Lib.hid (HS.out.other hg9 (fun q hq => by have := (HR.out.lt q hq).1; omega)); have y0 := HP9.out.c0; have y3 := HP9.out.f 0; clear ho9 hg9))
                have HR10 := Lib.hid (HR9.out.setOther (g := p) (j := 0) (x := .slice xa (rows.length + 1) xc) (Nat.lt_succ_self p))
                have HP10 := Lib.hid (HP9.out.set0 (.slice xa (rows.length + 1) xc))
                have HZ10 := Lib.hid (HZ9.out.other (a := ⟨p, 0, none⟩) (by simp; omega) (.slice xa (rows.length + 1) xc))
                have HG10 := Lib.hid (grown_set HG9.out (q := p) (j := 0) (by omega) (.slice xa (rows.length + 1) xc))
                have HS10 := Lib.hid (HS9.out.other (Cursor.grown_setCell _ p 0 (.slice xa (rows.length + 1) xc)) (fun k hk => by cases hk; exact ⟨by omega, by omega⟩))
                clear hcn y0 y3
                go_roundw
                case rel => exact ⟨i + 1, _, rows ++ [xs], _, by omega, by go_num, ⟨by rw [List.length_append, HL.out.1]; rfl, fun r hr => by rcases List.mem_append.1 hr with hr | hr; exact HL.out.2 r hr; rw [List.mem_singleton.1 hr]; omega⟩, HR10, HP10, HZ10, HG10, HS10⟩
                case measure => simp [intOf]; omega
          · obtain rfl : n = i := by omega
            go_wp2_with fail
            refine (HO.out _ HS.out).mono ?_
            rintro e W7 ⟨t, rfl, hg7, hc7⟩
            have hcn := HNUM.out
            have HS7 := Lib.hid (HS.out.next hg7 hc7)
            have HR7 := Lib.hid (HR.out.moved hg7 (by omega))
            have HP7 := Lib.hid (HPb.out.grown hg7 (by simp; omega))
            have HZ7 := Lib.hid (HZ.out.grown hg7 (by simp; omega))
            have HG7 := Lib.hid (grown_more HG.out hg7 (fun k hk => .inl (Option.some.inj hk).symm))
            obtain ⟨na, nc, hnv⟩ := HR7.out.form
            subst hnv
            clear hg7 hc7 HS HR HPb HZ HG hcn
            cases t with
            | false =>
              have p0 := HP7.out.c0
              have y0 := HZ7.out.c0
              have y3 := HZ7.out.f 0
              have hcn := HNUM.out
              go_wp2
              have m0 := (HZ7.out.set0 (.slice na rows.length nc)).c0
              refine bodyPost_ret (v := .agg #[.slice na rows.length nc]) (by simp [results, Tryz.results68, go_sem, m0]) rfl ?_
              obtain ⟨us, hor⟩ := HR7.out.ownR
              obtain ⟨r1, r2, r3⟩ := mor_end rfl hcw hor (show w.heap.size < p + 1 by omega) HG7.out HS7.out.cur
              exact ⟨_, _, rfl, r1, r2, r3⟩
            | true =>
              obtain ⟨us, t1, t2, t3, t4⟩ := HR7.out
              have hul : us.length = rows.length := t2.len
              cases us with
              | nil => exact absurd (hul.trans HL.out.1) (by simp; omega)
              | cons u0 us =>
                cases rows with
                | nil => exact absurd HL.out.1 (by simp; omega)
                | cons r0 rows =>
                  have hrn : (r0 :: rows).length = n := HL.out.1
                  have hun : ∀ v : Value, n = (v :: us).length := fun v => by rw [List.length_cons] at hul ⊢; omega
                  have HUN := Lib.hid hun
                  have hI0 : OwnI W7 (p + 1) h0 u0 r0 := t2.row 0 u0 r0 rfl rfl
                  obtain ⟨ua, uc, hu0, _⟩ := hI0.has.form
                  subst hu0
                  have hr0l : r0.length ≤ 3 := HL.out.2 r0 (by simp)
                  obtain ⟨a', c', hvf, hgf⟩ := t1.form
                  injection hvf with e1 e2 e3
                  subst e1
                  obtain ⟨tg, hta⟩ := hgf (by simp)
                  subst hta
                  have hrn2 : rows.length + 1 = n := hrn
                  have HT1 : Hid (Has id 24 W7 (p + 1) (.slice (some ⟨tg, 0, none⟩) n nc) (.slice ua r0.length uc :: us)) := by rw [← hrn]; exact t1
                  have HP7' : Hid (Cells1 W7 p 73 (.slice (some ⟨tg, 0, none⟩) n nc)) := by rw [← hrn]; exact HP7.out
                  have HT2 := Lib.hid t2
                  have HI0 := Lib.hid hI0.has
                  have HT4 := Lib.hid t4
                  have hcn := HNUM.out
                  have htp : p + 1 ≤ tg := (HT1.out.lt tg rfl).1
                  have HTP := Lib.hid htp
                  clear t1 t2 t3 t4 hI0 hgf e2 e3 HR7 HP7 hul hrn hun
                  have p0 := HP7'.out.c0
                  obtain ⟨q0, q3⟩ := has_top0 HT1.out (HUN.out _)
                  have hb7 : Below W7.heap.size W7 ((W7.alloc (.cells #[.int .i64 (-1), .int .i64 4, .int .i64 0] 3)).drew) := ((Below.refl W7.heap.size W7).alloc (Nat.le_refl _) _).trans ((below_drew' _).mono (by simp))
                  have p0a := (HP7'.out.below hb7).c0
                  obtain ⟨q0a, q3a⟩ := has_top0 (HT1.out.below hb7) (HUN.out _)
                  have hslt := HS7.out.lt
                  have HPK := Lib.hid (HP.out ((W7.alloc (.cells #[.int .i64 (-1), .int .i64 4, .int .i64 0] 3)).drew) W7.heap.size (by omega) (by simp) (show ListIs _ W7.heap.size 3 from list_lit W7 nums7 3 nums7_ok) (HS7.out.alloc _).drew)
                  have hg7a : W7.grownBy ((W7.alloc (.cells #[.int .i64 (-1), .int .i64 4, .int .i64 0] 3)).drew) (some c) := Cursor.grown_drew (grown_new (grown_self W7 c) _)
                  have HG7A := Lib.hid hg7a
                  have hp1 : p + 1 ≤ W7.heap.size := Nat.succ_le_of_lt HP7'.out.lt
                  have HP1 := Lib.hid hp1
                  have h0n : 0 < n := by omega
                  clear hb7 hg7a hslt htp hp1
                  go_wp2_with fail
                  go_region_law (first
                    | (go_simp; go_at_call 59; (with_reducible refine HPK.out.mono ?_); rintro e W8 ⟨y, hy, rfl, hg8, hc8⟩; have G8 := Lib.hid (grown_more HG7A.out hg8 (fun k hk => .inl (Option.some.inj hk).symm)); have HS8 := Lib.hid ((HS7.out.alloc _).drew.next hg8 hc8); have HP8 := Lib.hid (HP7'.out.grown G8.out (by have := HNUM.out; simp; omega)); have HT8 := Lib.hid (HT1.out.moved G8.out (by have := HNUM.out; omega)); have HI8 := Lib.hid (HI0.out.moved G8.out (by have := HNUM.out; omega)); have p0b := HP8.out.c0; obtain ⟨q0b, q3b⟩ := has_top0 HT8.out (HUN.out _); have hb8 : Below W8.heap.size W8 (W8.alloc (.cells #[.int .i64 y] 3)) := (Below.refl _ _).alloc (Nat.le_refl _) _; have p0d := (HP8.out.below hb8).c0; obtain ⟨q0d, q3d⟩ := has_top0 (HT8.out.below hb8) (HUN.out _); clear hb8)
                    | (refine step_append_at_list (enc := (Value.int .i64)) (e := 3) rfl (.tmp 64) (.tmp 68) 24 rfl (p + 1) i0 (.int .i64 0) 8 Tryz.underlying24 hi hz0 hz1 hz2 rfl (.slice ua r0.length uc) r0 rfl (by repeat (first | with_reducible exact HI8.out | with_reducible apply has_drew | with_reducible apply has_alloc)) (Value.slice (some ⟨_, 0, none⟩) 1 1) [_] rfl (by repeat (first | with_reducible apply lies_drew | (with_reducible refine lies_lit1 (enc := (Value.int .i64)) _ rfl) | with_reducible apply lies_alloc)) (fun _ _ => rfl) (by simp only [List.length_cons, List.length_nil]; omega) (by simp only [List.length_cons, List.length_nil]; omega) (by have := HP1.out; have := G8.out.size; simp; omega) ?_; intro vt w6 ho6 hg6 hb6; have hg7 := grown_alloc hg6; obtain ⟨xa, xc, hvt, _⟩ := ho6.form; rw [List.length_append, List.length_singleton] at hvt; subst hvt; have HT9 := Lib.hid (HT8.out.grown hg7 (HT8.out.ne_top HI8.out)); obtain ⟨q0c, q3c⟩ := has_top0 HT9.out (HUN.out _); have HP9 := Lib.hid (HP8.out.grown hg7 (has_ne_c1d HI8.out HP8.out (by decide))); have p0e := HP9.out.c0; have p0f := (HP9.out.other (a := ⟨tg, 0, none⟩) (by have := HTP.out; show tg ≠ p; omega) (.slice xa (r0.length + 1) xc)).c0))
                  all_goals
                    have hcn := HNUM.out
                    have htp := HTP.out
                    have T2 := OwnRows.head_grown (HT2.out.moved G8.out (by omega)) ho6 (Nat.le_refl _) (Nat.le_trans HT4.out G8.out.size) hg7 (fun k hk => (hb6 k hk).imp id fun h => by simp at h; omega)
                    obtain ⟨T1, hgs⟩ := has_store (enc := id) HT9.out (HUN.out _) 0 (.slice xa (r0.length + 1) xc)
                    have T3 := T2.top_grown HT9.out hgs
                    have hrows := T3.mono hgs.size (Nat.le_refl _)
                    have hor : OwnR (w6.setCell ⟨tg, 0, none⟩ (.slice xa (r0.length + 1) xc)) (p + 1) (w6.setCell ⟨tg, 0, none⟩ (.slice xa (r0.length + 1) xc)).heap.size (.slice (some ⟨tg, 0, none⟩) n nc) (.slice xa (r0.length + 1) xc :: us) ((r0 ++ [y]) :: rows) := ⟨T1, fun k hk => (T1.lt k hk).2, Nat.le_refl _, hrows⟩
                    have HOR := Lib.hid hor
                    have HP9 := Lib.hid (HP8.out.grown hg7 (has_ne_c1d HI8.out HP8.out (by decide)))
                    have HP10 := Lib.hid (HP9.out.other (a := ⟨tg, 0, none⟩) (by show tg ≠ p; omega) (.slice xa (r0.length + 1) xc))
                    have hZ8 := HZ7.out.grown G8.out (by simp; omega)
                    have hZ9 := hZ8.grown hg7 (has_ne_c1d HI8.out hZ8 (by decide))
                    have HZ10 := Lib.hid (hZ9.other (a := ⟨tg, 0, none⟩) (by show tg ≠ w.heap.size; omega) (.slice xa (r0.length + 1) xc))
                    have hG8 := grown_more HG7.out G8.out (fun k hk => .inl (Option.some.inj hk).symm)
                    have hG9 := grown_more hG8 hg7 (fun k hk => .inr (by have := (HI8.out.lt k hk).1; omega))
                    have HG10 := Lib.hid (grown_set hG9 (q := tg) (j := 0) (by omega) (.slice xa (r0.length + 1) xc))
                    have hS9 := HS8.out.other hg7 (fun k hk => by have := (HI8.out.lt k hk).1; omega)
                    have HS10 := Lib.hid (hS9.other (Cursor.grown_setCell w6 tg 0 (.slice xa (r0.length + 1) xc)) (fun k hk => by cases hk; exact ⟨by omega, by omega⟩))
                    have p9 := HP10.out.c0
                    have y9 := HZ10.out.c0
                    have y8 := HZ10.out.f 0
                    clear T2 T1 hgs T3 hrows hor hZ8 hZ9 hG8 hG9 hS9 p0 p0a p0b p0d p0e q0 q0a q0b q0c q0d q3 q3a q3b q3c q3d
                    go_wp2
                    have m0 := (HZ10.out.set0 (.slice (some ⟨tg, 0, none⟩) n nc)).c0
                    refine bodyPost_ret (v := .agg #[.slice (some ⟨tg, 0, none⟩) n nc]) (by simp [results, Tryz.results68, go_sem, m0]) rfl ?_
                    obtain ⟨r1, r2, r3⟩ := mor_end rfl hcw HOR.out (show w.heap.size < p + 1 by omega) HG10.out HS10.out.cur
                    exact ⟨_, _, rfl, r1, r2, r3⟩
end Cursor
end Go.Proofs.YtfpdikohlafpiaaGreat
