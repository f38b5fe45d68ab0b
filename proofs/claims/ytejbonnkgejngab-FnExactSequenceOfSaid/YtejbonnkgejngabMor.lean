/- A morphism as lists, and the contracts of the exact laws' own helpers on morphisms: its size, copying one, comparing two that are equal, writing marks into one, asking for the marks; a morphism that came in. No conditions beyond those that each states. -/
import Derived.Test.YtejbonnkgejngabSeqSz
import Derived.Test.YtejbonnkgejngabSeqTo
import Derived.Test.YtejbonnkgejngabSeqEq
import Derived.Test.YtejbonnkgejngabSeqHeld
import Derived.Test.YtejbonnkgejngabSeqOpen
import Derived.Outline
namespace Go.Proofs.Ytejbonnkgejngab.Plain
open Go.RowKit
/-- Block b holds one cell. -/
structure Cells1 (w : World) (b : Nat) (t : TypeId) (x : Value) : Prop where
  row : w.heap[b]? = some (.cells #[x] t (0, 0))
section
variable {w w' : World} {b : Nat} {t : TypeId} {x : Value}
theorem Cells1.c0 (h : Cells1 w b t x) : w.cell? ⟨b, 0, none⟩ = some x := by simp [World.cell?, h.row]
theorem Cells1.f (h : Cells1 w b t x) (o : Nat) : w.frozen? ⟨b, o, none⟩ = false := frozen_of_row w b o _ t h.row
theorem Cells1.lt (h : Cells1 w b t x) : b < w.heap.size := by
  have h1 := h.row
  rw [Array.getElem?_eq_some_iff] at h1
  exact h1.1
theorem Cells1.new (w : World) (t : TypeId) (x : Value) : Cells1 (w.alloc (.cells #[x] t)) w.heap.size t x := ⟨heap_alloc_new w _⟩
theorem Cells1.below (h : Cells1 w b t x) (hb : Below w.heap.size w w') : Cells1 w' b t x := ⟨(hb.block b h.lt).trans h.row⟩
theorem Cells1.alloc (h : Cells1 w b t x) (o : Obj) : Cells1 (w.alloc o) b t x := h.below ((Below.refl _ _).alloc (Nat.le_refl _) _)
theorem Cells1.set0 (h : Cells1 w b t x) (v : Value) : Cells1 (w.setCell ⟨b, 0, none⟩ v) b t v := by
  have hlt := h.lt
  have h' : w.heap[b] = .cells #[x] t (0, 0) := by simpa [Array.getElem?_eq_getElem hlt] using h.row
  refine ⟨?_⟩
  show (w.heap.modify b _)[b]? = _
  rw [Array.getElem?_eq_getElem (by simpa using hlt), Array.getElem_modify_self, h']
  rfl
theorem Cells1.other (h : Cells1 w b t x) {a : Addr} (ha : a.block ≠ b) (v : Value) : Cells1 (w.setCell a v) b t x := by
  refine ⟨?_⟩
  rw [← h.row]
  simp [World.setCell, Array.getElem?_modify, ha]
theorem Cells1.touch {lo hi : Nat} (h : Cells1 w b t x) (ht : Plain.Touch lo hi w w') (hn : b < lo ∨ hi ≤ b) : Cells1 w' b t x := ⟨(ht.block b h.lt hn).trans h.row⟩
theorem Cells1.grown {row : Option Nat} (h : Cells1 w b t x) (hg : w.grownBy w' row) (hn : row ≠ some b) : Cells1 w' b t x := ⟨(hg.block b h.lt (Ne.symm hn)).trans h.row⟩
end
/-- In w the value v is the morphism with these images. -/
def LiesM (w : World) (v : Value) (m : List (List Int)) : Prop := ∃ vn, v = .agg #[vn] ∧ LiesR w vn m
/-- The morphism v is the call's own, whole, in the blocks from lo to hi. -/
def OwnM (w : World) (lo hi : Nat) (v : Value) (m : List (List Int)) : Prop := ∃ vn us, v = .agg #[vn] ∧ OwnR w lo hi vn us m
section
variable {w w' : World} {lo hi : Nat} {v : Value} {m : List (List Int)}
theorem LiesM.below (h : LiesM w v m) (hb : Below w.heap.size w w') : LiesM w' v m := by
  obtain ⟨vn, h1, h2⟩ := h
  exact ⟨vn, h1, h2.below hb⟩
theorem LiesM.form (h : LiesM w v m) : ∃ an cn, v = .agg #[.slice an m.length cn] := by
  obtain ⟨vn, rfl, h2⟩ := h
  obtain ⟨a, c, rfl, _⟩ := h2.row
  exact ⟨a, c, rfl⟩
theorem LiesM.rows {u : Value} (h : LiesM w (.agg #[u]) m) : LiesR w u m := by
  obtain ⟨vn, h1, h2⟩ := h
  injection h1 with h1
  simp only [Array.mk.injEq, List.cons.injEq, and_true] at h1
  rw [h1]
  exact h2
theorem OwnM.lies (h : OwnM w lo hi v m) : LiesM w v m := by
  obtain ⟨vn, us, h1, h2⟩ := h
  exact ⟨vn, h1, h2.lies⟩
theorem OwnM.form (h : OwnM w lo hi v m) : ∃ an cn, v = .agg #[.slice an m.length cn] := h.lies.form
theorem OwnM.below (h : OwnM w lo hi v m) (hb : Below w.heap.size w w') : OwnM w' lo hi v m := by
  obtain ⟨vn, us, h1, h2⟩ := h
  exact ⟨vn, us, h1, h2.below hb⟩
theorem OwnM.touch {lo' hi' : Nat} (h : OwnM w lo hi v m) (ht : Touch lo' hi' w w') (hd : hi ≤ lo' ∨ hi' ≤ lo) : OwnM w' lo hi v m := by
  obtain ⟨vn, us, h1, h2⟩ := h
  exact ⟨vn, us, h1, h2.touch ht hd⟩
end
/-- The morphism is the call's own, wherever it lies. -/
def OwnedM (w : World) (v : Value) (m : List (List Int)) : Prop := ∃ lo hi, OwnM w lo hi v m
theorem OwnedM.lies {w : World} {v : Value} {m : List (List Int)} (h : OwnedM w v m) : LiesM w v m := by
  obtain ⟨lo, hi, h⟩ := h
  exact h.lies
theorem OwnedM.below {w w' : World} {v : Value} {m : List (List Int)} (h : OwnedM w v m) (hb : Below w.heap.size w w') : OwnedM w' v m := by
  obtain ⟨lo, hi, h⟩ := h
  exact ⟨lo, hi, h.below hb⟩
theorem Has.cap {α : Type} {enc : α → Value} {e : TypeId} {w : World} {base n c : Nat} {a : Option Addr} {xs : List α} (h : Has enc e w base (.slice a n c) xs) : xs.length ≤ c := by
  rcases h.2 with ⟨hv, hn⟩ | ⟨g, cap, cur, hv, _, _, hc, _⟩
  · omega
  · injection hv with e1 e2 e3
    omega
/-- A row of a morphism of the call's own: it has room for its letters. -/
theorem OwnedM.row {w : World} {a : Option Addr} {n c : Nat} {m : List (List Int)} {i : Nat} {r : List Int} (h : OwnedM w (.agg #[.slice a n c]) m) (hr : m[i]? = some r) : ∃ b off ua uc, a = some ⟨b, off, none⟩ ∧ w.cell? ⟨b, off + i, none⟩ = some (.slice ua r.length uc) ∧ Lies (Value.int .i64) w (.slice ua r.length uc) r ∧ r.length ≤ uc := by
  obtain ⟨lo, hi, vn, us, hv, ho⟩ := h
  injection hv with hv
  simp only [Array.mk.injEq, List.cons.injEq, and_true] at hv
  subst hv
  have hil : i < us.length := by rw [ho.rows.len]; exact (List.getElem?_eq_some_iff.1 hr).1
  have hu := ho.rows.row i _ r (List.getElem?_eq_getElem hil) hr
  obtain ⟨_, a', c', hv, _, hc⟩ := ho.top.lies
  injection hv with e1 e2 e3
  subst e1
  obtain ⟨b, off, h1, h2⟩ := hc i _ (List.getElem?_eq_getElem hil)
  obtain ⟨ua, uc, h3⟩ := hu.has.form
  rw [h3.1] at hu
  have h2' : w.cell? ⟨b, off + i, none⟩ = some us[i] := h2
  rw [h3.1] at h2'
  exact ⟨b, off, ua, uc, h1, h2', hu.lies, hu.has.cap⟩
/-- A call that hands back a new morphism; a new morphism and a bool; a new slice of ints and a bool. -/
def GivesM (m : List (List Int)) (w : World) (en : Ending) (w' : World) : Prop := ∃ v, en = .returned v ∧ OwnM w' w.heap.size w'.heap.size v m ∧ Below w.heap.size w w'
def GivesMK (m : List (List Int)) (k : Bool) (w : World) (en : Ending) (w' : World) : Prop := ∃ v, en = .returned (.tuple #[v, .bool k]) ∧ OwnM w' w.heap.size w'.heap.size v m ∧ Below w.heap.size w w'
def GivesIK (xs : List Int) (k : Bool) (w : World) (en : Ending) (w' : World) : Prop := ∃ v, en = .returned (.tuple #[v, .bool k]) ∧ Has (Value.int .i64) 3 w' w.heap.size v xs ∧ Below w.heap.size w w'
end Go.Proofs.Ytejbonnkgejngab.Plain
namespace Go.Proofs.Ytejbonnkgejngab
open Go.ChangeShapes Go.WideShapes Go.ChangeAt Go.RowKit
open Go.PlainAid Plain
set_option linter.unusedVariables false
namespace Mor
open Seqs Ints
theorem szM (v : Value) (m : List (List Int)) (left : Int) (w : World) (h : LiesM w v m) (h2 : 0 ≤ left) (h1 : left ≤ 1048576) :
    Calls Try.prog 16 #[v, .int .i64 left] w fun e w' => e = .returned (.int .i64 (szV left (m.length + tot m))) ∧ Below w.heap.size w w' := by
  obtain ⟨vn, rfl, hn⟩ := h
  by_cases h0 : ((m.length + tot m : Nat) : Int) ≤ left
  · obtain ⟨q, hq⟩ : ∃ q : Nat, left - ((m.length + tot m : Nat) : Int) = q := ⟨(left - ((m.length + tot m : Nat) : Int)).toNat, by omega⟩
    have HS := Lib.hid (szV_yes h0)
    rw [hq] at HS
    have HQ := Lib.hid hq
    clear hq
    have hd := decide_eq_false (show ¬ (q : Int) < 0 by omega)
    go_enter Try.func16, Try.ntmps16
    go_wp2_with fail
    refine (szR _ m _ _ (hn.below ((Below.refl _ _).alloc (Nat.le_refl _) _)) h2 h1).mono ?_
    rintro e w' ⟨rfl, rfl⟩
    rw [HS.out]
    go_wp2
    go_ret
    exact ⟨ret_i HS.out.symm, (Below.refl _ _).alloc (Nat.le_refl _) _⟩
  · have HS := Lib.hid (szV_no h0)
    go_enter Try.func16, Try.ntmps16
    go_wp2_with fail
    refine (szR _ m _ _ (hn.below ((Below.refl _ _).alloc (Nat.le_refl _) _)) h2 h1).mono ?_
    rintro e w' ⟨rfl, rfl⟩
    rw [HS.out]
    go_wp2
    go_ret
    exact ⟨ret_i HS.out.symm, (Below.refl _ _).alloc (Nat.le_refl _) _⟩
theorem toM (v : Value) (m : List (List Int)) (w : World) (h : LiesM w v m) (hs : m.length + tot m ≤ 1048576) :
    Calls Try.prog 18 #[v] w (GivesM m w) := by
  obtain ⟨vn, rfl, hn⟩ := h
  have HN := Lib.hid hn
  clear hn
  go_enter Try.func18, Try.ntmps18
  go_wp2_with fail
  have hB0 : Hid (Below w.heap.size w (((w.alloc (Obj.cells #[vn] 38)).alloc (Obj.cells #[Value.slice none 0 0] 28)).alloc (Obj.cells #[Value.slice none 0 0] 28))) :=
    (((Below.refl _ _).alloc (Nat.le_refl _) _).alloc (by simp) _).alloc (by simp; omega) _
  have hR := Lib.hid ((Cells1.new (w.alloc (Obj.cells #[vn] 38)) 28 (.slice none 0 0)).alloc (.cells #[.slice none 0 0] 28))
  have hS := Lib.hid (Cells1.new ((w.alloc (Obj.cells #[vn] 38)).alloc (Obj.cells #[Value.slice none 0 0] 28)) 28 (.slice none 0 0))
  refine (toR _ m _ (HN.out.below hB0.out) (by omega) (by omega)).mono ?_
  rintro e W1 ⟨v1, us, rfl, hr1, hb1⟩
  obtain ⟨a1, cap1, rfl, _⟩ := hr1.top.form
  have HR1 := Lib.hid (hR.out.below hb1)
  have HS1 := Lib.hid (hS.out.below hb1)
  have HB1 := Lib.hid (hB0.out.trans (hb1.mono hB0.out.size))
  have HO1 := Lib.hid hr1
  have hz1 := Lib.hid hb1.size
  simp only [size_alloc'] at HR1 HS1 HO1 hz1
  clear hr1 hb1 hR hS hB0
  have k1 := HS1.out.c0
  have k2 := HS1.out.f
  have HS2 := Lib.hid (HS1.out.set0 (.slice a1 us.length cap1))
  have HR2 := Lib.hid (HR1.out.other (a := ⟨w.heap.size + 1 + 1, 0, none⟩) (by simp) (.slice a1 us.length cap1))
  have HR3 := Lib.hid (HR2.out.set0 (.slice a1 us.length cap1))
  have k3 := HS2.out.c0
  have k4 := HR2.out.c0
  have k5 := HR2.out.f
  go_wp2
  have m0 := HR3.out.c0
  refine bodyPost_ret (v := .agg #[.slice a1 us.length cap1]) (by simp [results, Try.results18, go_sem, m0]) rfl ⟨_, rfl, ?_, ?_⟩
  · have T0 : Plain.Touch w.heap.size (w.heap.size + 1 + 1 + 1) W1 ((W1.setCell ⟨w.heap.size + 1 + 1, 0, none⟩ (.slice a1 us.length cap1)).setCell ⟨w.heap.size + 1, 0, none⟩ (.slice a1 us.length cap1)) :=
      (Plain.Touch.of_set _ (by show _ ≤ _ + 1 + 1; omega) (by show _ + 1 + 1 < _; omega)).trans (Plain.Touch.of_set _ (by show _ ≤ _ + 1; omega) (by show _ + 1 < _; omega))
    have h3 := HO1.out.touch T0 (.inr (Nat.le_refl _))
    rw [size_setCell', size_setCell']
    exact ⟨_, us, rfl, ⟨h3.top.mono (by omega), h3.lt, h3.le, h3.rows.lower (by omega)⟩⟩
  · exact (HB1.out.setCell (by show _ ≤ _ + 1 + 1; omega) _).setCell (by show _ ≤ _ + 1; omega) _
theorem eqM (u v : Value) (m : List (List Int)) (w : World) (h1 : LiesM w u m) (h2 : LiesM w v m) :
    Calls Try.prog 11 #[u, v] w fun e w' => e = .returned (.bool true) ∧ Below w.heap.size w w' := by
  obtain ⟨un, rfl, hn⟩ := h1
  obtain ⟨vn, rfl, hn'⟩ := h2
  have hB : ∀ n, Below w.heap.size w (((w.alloc (Obj.cells #[un] 28)).alloc (Obj.cells #[vn] 28)).drewN n) :=
    fun n => below_drewN (((Below.refl _ _).alloc (Nat.le_refl _) _).alloc (by simp) _) n
  have HB := Lib.hid hB
  have HN := Lib.hid hn
  have HN' := Lib.hid hn'
  clear hB hn hn'
  go_enter Try.func11, Try.ntmps11
  go_wp2_with fail
  refine (eqR _ _ m _ (HN.out.below (HB.out 0)) (HN'.out.below (HB.out 0))).mono ?_
  rintro e w' ⟨rfl, n, rfl⟩
  go_wp2
  go_ret
  exact ⟨rfl, HB.out _⟩
theorem markMk (v : Value) (m : List (List Int)) (T : Nat) (w : World) (lo hi : Nat) (k : Int) (hT : T = tot m) (h : OwnM w lo hi v m) (h1 : T ≤ 4194304) (hk0 : 0 ≤ k) (hk1 : k ≤ 4194304) :
    Calls Try.prog 14 #[v, .int .i64 k] w fun e w' => e = .returned (.int .i64 (k + T)) ∧ OwnM w' lo hi v (markedR k m) ∧ Plain.Touch lo hi w w' := by
  subst hT
  obtain ⟨vn, us, rfl, hn⟩ := h
  have HN := Lib.hid hn
  have hlen : us.length = m.length := hn.rows.len
  clear hn
  go_enter Try.func14, Try.ntmps14
  go_wp2_with fail
  have hB : Below w.heap.size w (w.alloc (Obj.cells #[vn] 28)) := (Below.refl _ _).alloc (Nat.le_refl _) _
  have HB := Lib.hid hB
  have HN0 := Lib.hid (HN.out.below hB)
  clear hB
  refine (markR _ us m _ lo hi k HN0.out hk0 (by omega)).mono ?_
  rintro e W1 ⟨rfl, hr, hw⟩
  have HT1 : Hid (Has id 23 W1 lo vn us) := HN0.out.top.of_same fun k hk => hw.block k (HN0.out.top.lt k hk).2 fun x hx e => by
    obtain ⟨j, hj⟩ := List.getElem?_of_mem hx
    obtain ⟨y, hy⟩ : ∃ y, m[j]? = some y := ⟨_, List.getElem?_eq_getElem (by rw [← hlen]; exact (List.getElem?_eq_some_iff.1 hj).1)⟩
    rcases HN0.out.top.ne_top (HN0.out.rows.row j x y hj hy).has with h2 | h2
    · rw [h2] at hk; cases hk
    · exact h2 (hk.trans e.symm)
  have t1 : Plain.Touch lo hi (w.alloc (Obj.cells #[vn] 28)) W1 := Touch.of_wrote hw fun x hx q hq => by
    obtain ⟨j, hj⟩ := List.getElem?_of_mem hx
    obtain ⟨y, hy⟩ : ∃ y, m[j]? = some y := ⟨_, List.getElem?_eq_getElem (by rw [← hlen]; exact (List.getElem?_eq_some_iff.1 hj).1)⟩
    exact (HN.out.rows.row j x y hj hy).range q hq
  have t0 : Plain.Touch lo hi w (w.alloc (Obj.cells #[vn] 28)) := ⟨HB.out.os, HB.out.tape, HB.out.output, HB.out.size, fun q hq _ => HB.out.block q hq⟩
  have HF : Hid (OwnM W1 lo hi (.agg #[vn]) (markedR k m) ∧ Plain.Touch lo hi w W1) := ⟨⟨vn, us, rfl, ⟨HT1.out, HN.out.lt, Nat.le_trans HN0.out.le t1.size, hr⟩⟩, t0.trans t1⟩
  clear hr hw HT1 t1 t0
  go_wp2
  go_ret
  exact ⟨rfl, HF.out⟩
theorem markM' (v : Value) (m : List (List Int)) (T : Nat) (w : World) (lo hi : Nat) (hT : T = tot m) (h : OwnM w lo hi v m) (h1 : T ≤ 4194304) :
    Calls Try.prog 14 #[v, .int .i64 1] w fun e w' => e = .returned (.int .i64 (1 + T)) ∧ OwnM w' lo hi v (markedR 1 m) ∧ Plain.Touch lo hi w w' :=
  markMk v m T w lo hi 1 hT h h1 (by omega) (by omega)
theorem heldM' (v : Value) (m : List (List Int)) (T : Nat) (w : World) (hT : T = tot m) (h : LiesM w v (markedR 1 m)) (h1 : T ≤ 4194304) :
    Calls Try.prog 15 #[v, .int .i64 1] w fun e w' => e = .returned (.int .i64 (1 + T)) ∧ Below w.heap.size w w' := by
  subst hT
  obtain ⟨vn, rfl, hn⟩ := h
  have HN := Lib.hid hn
  clear hn
  have hd := decide_eq_false (show ¬ (1 : Int) + (tot m : Int) < 0 by omega)
  go_enter Try.func15, Try.ntmps15
  go_wp2_with fail
  refine (heldR _ m _ 1 (HN.out.below ((Below.refl _ _).alloc (Nat.le_refl _) _)) (by omega) (by omega)).mono ?_
  rintro e w' ⟨rfl, rfl⟩
  go_wp2
  go_ret
  exact ⟨rfl, (Below.refl _ _).alloc (Nat.le_refl _) _⟩
theorem open_agg1 {H : Type} {enc : TypeId × Value → H} {P : Program} {w : World} {base : Nat} {spare : FuncId → Bool} {held : Bool} {r : Reach} {b0 : Nat} {t : TypeId} {f0 : Field} {v : Value} {d : DataW H} {p : List MemPlace} (hs : P.underlying t = some (.struct #[f0])) (ho : f0.offset = 0) (h1 : P.cellsOf f0.type = 1) (hC : P.cellsOf t = 1)
    (hv : Value.okWide P w r b0 t v) (h : DataW.Trod enc P w base spare held t v d p) : ∃ (v0 : Value) (y0 : DataW H × List MemPlace) (n : Nat), v = .agg #[v0] ∧ DataW.trod enc P w base spare held n f0.type [v0] = some y0 := by
  obtain ⟨cs, rfl, hsz⟩ := okWide_struct hs hv
  obtain ⟨l⟩ := cs
  obtain ⟨c0, rfl⟩ : ∃ c, l = [c] := List.length_eq_one_iff.1 (hsz.trans hC)
  obtain ⟨fuel, hf⟩ := h
  obtain ⟨xs, n, _, _, _, hlen, hx⟩ := DataW.trod_struct hs hf
  obtain ⟨y0, rfl⟩ : ∃ y, xs = [y] := List.length_eq_one_iff.1 hlen
  have h0 := hx 0 f0 rfl
  rw [ho, h1] at h0
  exact ⟨c0, y0, n, rfl, by simpa [Value.cells] using h0⟩
set_option maxRecDepth 100000 in
theorem open_mor {H : Type} {enc : TypeId × Value → H} {W : World} {base : Nat} {v : Value} {d : DataW H} {p : List MemPlace} (hv : Value.okWide Try.prog W .any base 38 v) (h : DataW.Trod enc Try.prog W 0 (fun _ => true) true 38 v d p) :
    ∃ m, LiesM W v m := by
  obtain ⟨v0, y0, n, rfl, h0⟩ := open_agg1 Try.underlying38 rfl (by kernel_rfl) (by kernel_rfl) hv h
  obtain ⟨rows, hr⟩ := open_rows h0
  exact ⟨rows, v0, rfl, hr⟩
end Mor
end Go.Proofs.Ytejbonnkgejngab
