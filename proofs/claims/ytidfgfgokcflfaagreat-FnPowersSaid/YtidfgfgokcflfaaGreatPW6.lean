/- Several texts of this proof, one behind the other: each says ahead of it what it shows and under which conditions. -/
import Derived.Test.YtidfgfgokcflfaaGreatPW5
import Derived.Test.YtidfgfgokcflfaaGreatCommon
import Derived.Test.YtidfgfgokcflfaaGreatSeqSz
import Derived.Outline
import Derived.OneCell
import Derived.Shelf.Abstract
import Derived.Test.YtidfgfgokcflfaaGreatDigits
import Derived.Test.YtidfgfgokcflfaaGreatPW4
import Derived.Test.YtidfgfgokcflfaaGreatMor
import Derived.Test.YtidfgfgokcflfaaGreatLists2
import Derived.Test.YtidfgfgokcflfaaGreatSeqs3
import Derived.StillTailTactics
import Derived.Deep.DeepCutAuto
import Derived.Test.YtidfgfgokcflfaaGreatPW2
import Derived.Test.YtidfgfgokcflfaaGreatRowsIn
import Derived.Deep.RegionHeld3
import Derived.Test.YtidfgfgokcflfaaGreatSeqVal
import Derived.Test.YtidfgfgokcflfaaGreatCells3
import Derived.BigQuiet
import Derived.Test.YtidfgfgokcflfaaGreatSeqEq
import Derived.Test.YtidfgfgokcflfaaGreatPW3
/- Contracts of IsWord, of the model and of the program, and of the library's search with the program's two tests. No conditions beyond those that each states. -/
namespace Go.Proofs.YtidfgfgokcflfaaGreat
open Go.ChangeShapes Go.WideShapes Go.ChangeAt Go.RowKit
open Go.PlainAid Plain
set_option linter.unusedVariables false
namespace Mor
open Seqs
theorem spec_word (v : Value) (xs : List Int) (n : Int) (w : World) (h : Lies (Value.int .i64) w v xs) :
    Calls Tryz.prog 102 #[v, .int .i64 n] w fun e w' => e = .returned (.bool (wordB xs n)) ∧ w = w' := by
  obtain ⟨hl, a, ca, rfl, _, hc⟩ := h
  have HC := Lib.hid hc
  clear hc
  go_enter Tryz.func102, Tryz.ntmps102
  go_wp2
  go_loop [5] (fun i' => ∃ i : Nat, i ≤ xs.length ∧ i' = .int .i64 i ∧ Hid (∀ (j : Nat) (x : Int), j < i → xs[j]? = some x → 0 ≤ x ∧ x < n)) (fun i' => xs.length - (intOf i').toNat)
  case atStart => exact ⟨0, Nat.zero_le _, rfl, fun j x h => by omega⟩
  case round =>
    obtain ⟨i, hi, rfl, HI⟩ := hrel
    by_cases hlt : i < xs.length
    · obtain ⟨x, hx⟩ : ∃ x, xs[i]? = some x := ⟨_, List.getElem?_eq_getElem hlt⟩
      obtain ⟨q, r, rfl, hc2⟩ := HC.out i _ hx
      have HX := Lib.hid hx
      clear hx
      by_cases hx0 : x < 0
      · have hd := decide_eq_true hx0
        have HE := Lib.hid (not_word_at (n := n) HX.out (.inl hx0))
        go_wp2
        go_ret
        exact ⟨ret_b HE.out.symm, rfl⟩
      · have hd := decide_eq_false hx0
        by_cases hx1 : n ≤ x
        · have hd1 := decide_eq_true hx1
          have HE := Lib.hid (not_word_at (n := n) HX.out (.inr hx1))
          go_wp2
          go_ret
          exact ⟨ret_b HE.out.symm, rfl⟩
        · have hd1 := decide_eq_false hx1
          have HN : Hid (∀ (j : Nat) (x : Int), j < i + 1 → xs[j]? = some x → 0 ≤ x ∧ x < n) := fun j y hj hy => by
            by_cases e : j = i
            · subst e
              obtain rfl := Option.some.inj (HX.out.symm.trans hy)
              omega
            · exact HI.out j y (by omega) hy
          go_wp2
          go_round
          case rel => exact ⟨i + 1, by omega, by go_num, HN⟩
          case measure => simp [intOf]; omega
    · have HA : Hid (∀ x ∈ xs, 0 ≤ x ∧ x < n) := all_at fun j x hx => HI.out j x (by have := (List.getElem?_eq_some_iff.1 hx).1; omega) hx
      clear HI HC
      by_cases hn : 1 ≤ n ∧ n ≤ 16
      · obtain ⟨hn1, hn2⟩ := hn
        by_cases hlen : xs.length ≤ 400
        · have HE := Lib.hid (wordB_yes ⟨hn1, hn2, hlen, HA.out⟩)
          have hd := decide_eq_true (show (xs.length : Int) ≤ 400 by omega)
          go_wp2_with fail
          refine (l1In_yes _ _ _ _ hn1 hn2).mono ?_
          rintro e w' ⟨rfl, rfl⟩
          go_wp2
          go_ret
          exact ⟨ret_b HE.out.symm, rfl⟩
        · have HE := Lib.hid (wordB_no (xs := xs) (n := n) fun h => hlen h.2.2.1)
          have hd := decide_eq_false (show ¬ (xs.length : Int) ≤ 400 by omega)
          go_wp2_with fail
          refine (l1In_yes _ _ _ _ hn1 hn2).mono ?_
          rintro e w' ⟨rfl, rfl⟩
          go_wp2
          go_ret
          exact ⟨ret_b HE.out.symm, rfl⟩
      · have HE := Lib.hid (wordB_no (xs := xs) (n := n) fun h => hn ⟨h.1, h.2.1⟩)
        have HNO : Hid (n < 1 ∨ 16 < n) := by show _ ∨ _; omega
        clear hn
        go_wp2_with fail
        refine (l1In_no _ _ _ _ HNO.out).mono ?_
        rintro e w' ⟨rfl, rfl⟩
        go_wp2
        go_ret
        exact ⟨ret_b HE.out.symm, rfl⟩
/-- Where a test holds first, -1 where it never does. -/
def firstAt (p : Int → Bool) (xs : List Int) : Int := if xs.any p = true then (xs.findIdx p : Int) else -1
theorem first_yes {p : Int → Bool} {xs : List Int} {i : Nat} {x : Int} (hx : xs[i]? = some x) (h : p x = true) (hb : ∀ (j : Nat) (y : Int), j < i → xs[j]? = some y → p y = false) : firstAt p xs = (i : Int) := by
  obtain ⟨hi, hxi⟩ := List.getElem?_eq_some_iff.1 hx
  have : xs.any p = true := List.any_eq_true.2 ⟨x, List.mem_of_getElem? hx, h⟩
  rw [firstAt, if_pos this, (List.findIdx_eq hi).2 ⟨by rw [hxi]; exact h, fun j hj => by rw [hb j _ hj (List.getElem?_eq_getElem (by omega))]⟩]
theorem first_no {p : Int → Bool} {xs : List Int} (h : ∀ (j : Nat) (y : Int), xs[j]? = some y → p y = false) : firstAt p xs = -1 := by
  have : ¬ xs.any p = true := fun ha => by
    obtain ⟨x, hx, hp⟩ := List.any_eq_true.1 ha
    obtain ⟨j, hj⟩ := List.getElem?_of_mem hx
    rw [h j x hj] at hp; cases hp
  rw [firstAt, if_neg this]
theorem first_ge (p : Int → Bool) (xs : List Int) : decide (0 ≤ firstAt p xs) = xs.any p := by
  unfold firstAt
  split
  · rename_i h; rw [h]; simp
  · rename_i h; rw [Bool.eq_false_iff.2 h]; decide
theorem word_any {xs : List Int} {n : Int} (h1 : 1 ≤ n) (h2 : n ≤ 16) (h3 : xs.length ≤ 400) : (!xs.any fun x => (decide (x < 0) || decide (n ≤ x))) = wordB xs n := by
  unfold wordB
  rw [Bool.eq_iff_iff, Bool.not_eq_true', decide_eq_true_iff, Bool.eq_false_iff, ne_eq, List.any_eq_true]
  constructor
  · intro h
    refine ⟨h1, h2, h3, fun x hx => Classical.byContradiction fun hn => h ⟨x, hx, by simp; omega⟩⟩
  · rintro h ⟨x, hx, hd⟩
    have := h.2.2.2 x hx
    simp at hd
    omega
end Mor
end Go.Proofs.YtidfgfgokcflfaaGreat
/- Contracts of the program's differentWords, FactorsOf and CountFactors. No conditions beyond those that each states. -/
namespace Go.Proofs.YtidfgfgokcflfaaGreat
open Go.ChangeShapes Go.WideShapes Go.ChangeAt Go.RowKit
open Go.PlainAid Plain
set_option linter.unusedVariables false
namespace Fac
open Seqs
/-- The slice of parts, its first i elements words of the call's own. -/
structure Half (w0 w : World) (a : Option Addr) (n c : Nat) (us : List Value) (rows : List (List Int)) (D : List (Part w0)) (hi : Nat) : Prop where
  top : Has id 24 w w0.heap.size (.slice a n c) (us ++ D.map Part.v)
  rows : OwnRows w w0.heap.size hi us rows
  lo : w0.heap.size ≤ hi
  le : hi ≤ w.heap.size
  below : Below w0.heap.size w0 w
theorem has_id {w0 w : World} {base : Nat} {v : Value} {D : List (Part w0)} (h : Has Part.v 24 w base v D) : Has id 24 w base v (D.map Part.v) := by
  show World.ownsRow _ _ _ _ _ _ _
  rw [List.length_map, List.map_id]
  exact h
theorem Half.start {w0 w : World} {a : Option Addr} {n c : Nat} {D : List (Part w0)} (h : Has Part.v 24 w w0.heap.size (.slice a n c) D) (hb : Below w0.heap.size w0 w) : Half w0 w a n c [] [] D w0.heap.size :=
  ⟨has_id h, OwnRows.nil _ _ _, Nat.le_refl _, hb.size, hb⟩
theorem Half.step {w0 w : World} {g n c : Nat} {us : List Value} {rows : List (List Int)} {x : Part w0} {D : List (Part w0)} {hi : Nat} (h : Half w0 w (some ⟨g, 0, none⟩) n c us rows (x :: D) hi) {w' : World} {v' : Value} (hv : Has (Value.int .i64) 3 w' w.heap.size v' x.k) (hb : Below w.heap.size w w') :
    Half w0 (w'.setCell ⟨g, us.length, none⟩ v') (some ⟨g, 0, none⟩) n c (us ++ [v']) (rows ++ [x.k]) D w'.heap.size ∧ (w'.cell? ⟨g, us.length, none⟩ = some x.v) ∧ w'.frozen? ⟨g, us.length, none⟩ = false := by
  have ht := h.top.below hb
  have hn : n = (us ++ (x :: D).map Part.v).length := (has_cap ht).1
  have hst := has_store (enc := id) ht hn us.length v'
  have h' : w'.ownsRow w0.heap.size 24 1 (.slice (some ⟨g, 0, none⟩) (us ++ (x :: D).map Part.v).length c) (us ++ (x :: D).map Part.v).length ((us ++ (x :: D).map Part.v).map id) := by rw [hn] at ht; exact ht
  have hrows := (h.rows.below hb).snoc ((OwnI.of_gives hv).mono h.le (Nat.le_refl _) (Nat.le_refl _)) h.lo (Nat.le_trans h.le hb.size)
  refine ⟨⟨?_, hrows.top_grown ht hst.2 |>.mono (by simp) (by simp), Nat.le_trans h.lo (Nat.le_trans h.le hb.size), by simp, ?_⟩, ?_, h'.frozenAt _⟩
  · have := hst.1
    rw [List.map_cons, List.set_append_right _ _ (Nat.le_refl _), Nat.sub_self, List.set_cons_zero] at this
    rw [List.append_assoc]
    exact this
  · exact (h.below.trans (hb.mono h.below.size)).grown hst.2 (Nat.le_trans h.below.size hb.size) (fun k hk => by cases hk; exact (ht.lt g rfl).1)
  · have hlt : us.length < (us ++ (x :: D).map Part.v).length := by simp
    have := h'.cellAt us.length (by omega)
    rw [this]
    simp
set_option maxRecDepth 100000 in
set_option maxHeartbeats 2000000 in
theorem diff (v : Value) (w0 w : World) (L : List (Part w0)) (hb : Below w0.heap.size w0 w) (hv : Has Part.v 24 w w0.heap.size v L) (hn : L.length ≤ 100000) (hk : ∀ x ∈ L, x.k.length ≤ 1048576) :
    Calls Tryz.prog 31 #[v] w fun e w' => ∃ v' us, e = .returned v' ∧ OwnR w' w0.heap.size w'.heap.size v' us (sdl (L.map Part.k)) ∧ Below w0.heap.size w0 w' := by
  have HK := Lib.hid hk
  have HV := Lib.hid hv
  have HB := Lib.hid hb
  clear hk hv hb
  go_enter Tryz.func31, Tryz.ntmps31
  go_wp2_with fail
  refine (sort_any v w0 _ L HB.out HV.out hn).mono ?_
  rintro e W1 ⟨rfl, L', hperm, hpw, hv1, hb1⟩
  have HP := Lib.hid hperm
  have hlen : L'.length = L.length := hperm.length_eq
  have HD := Lib.hid (dd_sdl (key := Part.k) hpw (hperm.map Part.k))
  have HDK : Hid (∀ x ∈ dd Part.k L', x.k.length ≤ 1048576) := fun x hx => HK.out x (hperm.mem_iff.1 (dd_mem _ _ hx))
  have HB1 := Lib.hid hb1
  have HV1 := Lib.hid hv1
  have hddl := dd_len L'
  clear hperm hpw hb1 hv1
  go_wp2_with fail
  refine (compact v w0 _ L' HB1.out HV1.out (by omega)).mono ?_
  rintro e W2 ⟨v2, rfl, hv2, hb2⟩
  obtain ⟨D, hDD⟩ : ∃ D, D = dd Part.k L' := ⟨_, rfl⟩
  rw [← hDD] at HD HDK hv2 hddl
  obtain ⟨a, c, rfl, hag⟩ := hv2.form
  have HH := Lib.hid (Half.start hv2 hb2)
  have hDl : D.length ≤ 100000 := by omega
  clear hDD hv2 hb2 hlen hddl
  go_wp2
  go_loopw [12] (fun i' wr => ∃ (i : Nat) (us : List Value) (hi : Nat), i ≤ D.length ∧ i' = .int .i64 i ∧ Hid (us.length = i) ∧ Hid (Half w0 wr a D.length c us ((D.take i).map Part.k) (D.drop i) hi)) (fun i' _ => D.length - (intOf i').toNat)
  case atStart => exact ⟨0, [], _, Nat.zero_le _, rfl, rfl, by rw [List.take_zero, List.drop_zero]; exact HH⟩
  case round =>
    obtain ⟨i, us, hi, hi', rfl, HU, HHr⟩ := hrel
    obtain rfl : us.length = i := HU.out
    clear HU
    by_cases hlt : us.length < D.length
    · obtain ⟨x, hx⟩ : ∃ x, D[us.length]? = some x := ⟨_, List.getElem?_eq_getElem hlt⟩
      obtain ⟨hx1, hx2⟩ := List.getElem?_eq_some_iff.1 hx
      have hHr := HHr.out
      rw [List.drop_eq_getElem_cons hlt, hx2] at hHr
      have HC := Lib.hid hHr
      obtain ⟨g, rfl⟩ := hag (by omega)
      obtain ⟨p, o, ha, c1⟩ := lies_at (enc := id) hHr.top.lies (i := us.length) (x := x.v) (by simp)
      injection ha with ha
      injection ha with ha1 ha2
      subst ha1; subst ha2
      rw [Nat.zero_add] at c1
      have HT : Hid ((D.take (us.length + 1)).map Part.k = (D.take us.length).map Part.k ++ [x.k]) := by
        show _ = _
        rw [List.take_succ_eq_append_getElem hx1, hx2, List.map_append]
        rfl
      have hxm := HDK.out x (List.mem_of_getElem? hx)
      have hxl := x.lies.below hHr.below
      obtain ⟨_, xb, xd, hxv, _⟩ := x.lies
      rw [hxv] at hxl
      have c2 : wr.cell? ⟨g, us.length, none⟩ = some (.slice xb x.k.length xd) := by rw [c1]; exact congrArg some hxv
      have HCL := Lib.hid (Digits.clone_lies _ x.k wr hxl hxm)
      clear hx hx1 hx2 hHr c1 hxl hxv hxm HHr
      go_wp2_with fail
      refine HCL.out.mono ?_
      rintro e W5 ⟨v5, rfl, hv5, b5⟩
      obtain ⟨h6, c6, f6⟩ := HC.out.step hv5 b5
      obtain ⟨va, vc, rfl, _⟩ := hv5.form
      have H6 := Lib.hid h6
      clear h6 hv5 b5 c2 HCL HC
      go_wp2
      go_roundw
      case rel => exact ⟨us.length + 1, us ++ [.slice va x.k.length vc], _, by omega, by go_num, by show _ = _; simp, by rw [HT.out]; exact H6⟩
      case measure => simp [intOf]; omega
    · have HE : Hid (Half w0 wr a D.length c us (sdl (L.map Part.k)) [] hi) := by
        have h1 := HHr.out
        rw [List.take_of_length_le (by omega), List.drop_of_length_le (by omega), HD.out] at h1
        exact h1
      go_wp2
      go_ret
      have h1 := HE.out.top
      rw [List.map_nil, List.append_nil] at h1
      exact ⟨_, us, rfl, ⟨h1, fun k hk => (h1.lt k hk).2, Nat.le_refl _, HE.out.rows.mono HE.out.le (Nat.le_refl _)⟩, HE.out.below⟩
end Fac
end Go.Proofs.YtidfgfgokcflfaaGreat
/- Contracts of DistinctSquares, of the model and of the program. No conditions beyond those that each states. -/
namespace Go.Proofs.YtidfgfgokcflfaaGreat
open Go.ChangeShapes Go.WideShapes Go.ChangeAt Go.RowKit
open Go.PlainAid Plain
set_option linter.unusedVariables false
namespace Fac
open Seqs
theorem sqW_step {u : List Int} {L : List Sqr} {i : Nat} {e : Sqr} (he : L[i]? = some e) : sqW u (L.take (i + 1)) = sqW u (L.take i) ++ [(u.drop e.1).take (2 * e.2)] := by
  obtain ⟨hlt, e2⟩ := List.getElem?_eq_some_iff.1 he
  rw [List.take_succ_eq_append_getElem hlt, e2]
  simp [sqW]
theorem sqW_len (u : List Int) (L : List Sqr) : (sqW u L).length = L.length := by simp [sqW]
theorem sqW_mem {u : List Int} {L : List Sqr} {x : List Int} (h : x ∈ sqW u L) : x.length ≤ u.length := by
  obtain ⟨s, _, rfl⟩ := List.mem_map.1 h
  rw [List.length_take, List.length_drop]
  omega
set_option maxRecDepth 100000 in
set_option maxHeartbeats 4000000 in
theorem spec_dis (v : Value) (u : List Int) (w : World) (h : LiesC w v u) :
    Calls Tryz.prog 13 #[v] w fun e w' => e = .returned (.int .i64 (dsq u)) ∧ Below w.heap.size w w' := by
  obtain ⟨pa, pc, rfl, hcap⟩ := h.form
  have hsm := h.1.1
  have HU := Lib.hid h
  have HC := Lib.hid (spec_sq _ u w h.lies)
  have HFIT : Hid (∀ s ∈ sqV u, 0 < s.2 ∧ s.1 + 2 * s.2 ≤ u.length ∧ u.length ≤ 64) := fun s hs => sqV_fit hs
  have HDS : Hid ((sdl (sqW u (sqV u))).length = dsq u) := rfl
  have hdq := dsq_le u
  obtain ⟨L, hL⟩ : ∃ L, L = sqV u := ⟨_, rfl⟩
  have hLl : L.length ≤ 4096 := by rw [hL]; exact sqV_len u
  rw [← hL] at HC HFIT HDS
  clear h hL
  go_enter Tryz.func13, Tryz.ntmps13
  go_wp2_with fail
  refine HC.out.mono ?_
  rintro e W1 ⟨vs, rfl, hv, b1⟩
  obtain ⟨sa, sc, hvs⟩ := hv.form
  have hag := hv.1.form
  rw [sqL_len] at hvs
  subst hvs
  have HAG : Hid (0 < L.length → ∃ g, sa = some ⟨g, 0, none⟩) := fun h0 => by
    obtain ⟨a, c, h1, h2⟩ := hag
    injection h1 with h1
    subst h1
    exact h2 (by rw [sqL_len]; exact h0)
  have HV := Lib.hid hv.1
  have HB1 := Lib.hid b1
  have HB : Hid (Below W1.heap.size W1 (W1.alloc (Obj.cells #[] 24))) := (Below.refl _ _).alloc (Nat.le_refl _) _
  have HO : Hid (Has id 24 (W1.alloc (Obj.cells #[] 24)) W1.heap.size (.slice (some ⟨W1.heap.size, 0, none⟩) 0 0) []) := has_lit0 (enc := id) rfl (Nat.le_refl _)
  clear hv b1 hag
  go_wp2
  go_loopw [4, 5] (fun o' i' wr => ∃ (i : Nat) (vo : Value), i ≤ L.length ∧ i' = .int .i64 i ∧ vo = o' ∧ Hid (RowsV wr W1.heap.size W1.heap.size vo (sdl (sqW u (L.take i)))) ∧ Hid (Below W1.heap.size W1 wr)) (fun _ i' _ => L.length - (intOf i').toNat)
  case atStart => exact ⟨0, _, Nat.zero_le _, rfl, rfl, RowsV.nil HO.out, HB⟩
  case round =>
    obtain ⟨i, vo, hi', rfl, rfl, HOr, HBr⟩ := hrel
    by_cases hlt : i < L.length
    · obtain ⟨e, he⟩ : ∃ x, L[i]? = some x := ⟨_, List.getElem?_eq_getElem hlt⟩
      obtain ⟨g, rfl⟩ := HAG.out (by omega)
      have HO1 := HV.out.below HBr.out
      rw [show L.length = (sqL L).length from (sqL_len L).symm] at HO1
      have p0 := HO1.cell (j := 0) (sqL_at he) rfl
      have p2 := HO1.cell (j := 2) (sqL_at he) rfl
      rw [Nat.add_zero] at p0
      have hf := HFIT.out e (List.mem_of_getElem? he)
      obtain ⟨a1, c1, hsl, hcut⟩ := (HU.out.below (HB1.out.trans (HBr.out.mono HB1.out.size))).slice (l := e.1) (h := e.1 + 2 * e.2) (by omega) (by omega) (L := (e.1 : Int)) (H := (e.1 : Int) + 2 * (e.2 : Int)) rfl (by omega)
      rw [show e.1 + 2 * e.2 - e.1 = 2 * e.2 from by omega] at hsl hcut
      have hw : IntKind.i64.wrap ((e.1 : Int) + 2 * (e.2 : Int)) = (e.1 : Int) + 2 * (e.2 : Int) := by rw [IntKind.wrap_i64]; omega
      have HS := Lib.hid (sdl_snoc (sqW u (L.take i)) ((u.drop e.1).take (2 * e.2)))
      have HT := Lib.hid (sqW_step (u := u) he)
      have hlen : (sdl (sqW u (L.take i))).length ≤ 10000 := by
        have h1 := sdl_len (sqW u (L.take i))
        rw [sqW_len, List.length_take] at h1
        omega
      have hD : Below wr.heap.size wr wr.drew := below_drew' wr
      have HP := Lib.hid (put vo _ (sdl (sqW u (L.take i))) _ wr.drew W1.heap.size W1.heap.size (HOr.out.below hD) (hcut.lies.below hD) (Nat.le_trans HBr.out.size hD.size) hlen (by rw [List.length_take, List.length_drop]; omega))
      obtain ⟨x, y⟩ := e
      dsimp only at p0 p2 hf hsl hw HP HS HT
      have hil : (i : Int) < (L.length : Int) := by omega
      obtain ⟨hy0, hxy, hu64⟩ := hf
      clear hlen he hcut HO1
      go_wp2_with fail
      go_region_law (first | (go_simp; go_at_call 32; (with_reducible refine HP.out.mono ?_); rintro e W5 ⟨v5, rfl, ho5, b5⟩; have bA : Below wr.heap.size wr W5 := hD.trans (b5.mono hD.size)))
      all_goals
        rw [← HS.out, ← HT.out] at ho5
        have HO5 := Lib.hid (ho5.mono (show W1.heap.size ≤ wr.drew.heap.size from Nat.le_trans HBr.out.size hD.size) (Nat.le_refl _))
        have HB5 := Lib.hid (HBr.out.trans (bA.mono HBr.out.size))
        clear ho5 b5 bA p0 p2
        go_wp2
        go_roundw
        case rel => exact ⟨i + 1, _, by omega, by go_num, rfl, HO5, HB5⟩
        case measure => simp [intOf]; omega
    · have HE : Hid (RowsV wr W1.heap.size W1.heap.size vo (sdl (sqW u L))) := by
        have := HOr.out
        rw [List.take_of_length_le (by omega)] at this
        exact this
      obtain ⟨va, vc, hvo⟩ := HE.out.form
      rw [HDS.out] at hvo
      subst hvo
      go_wp2
      go_ret
      exact ⟨rfl, HB1.out.trans (HBr.out.mono HB1.out.size)⟩
theorem infoR3 : (Tryz.prog.info? 24).map (fun i => (i.zero, i.size, i.bytes)) = some (some (.slice none 0 0), 1, 24) := by kernel_rfl
set_option maxRecDepth 100000 in
set_option maxHeartbeats 4000000 in
theorem impl_dis (v : Value) (u : List Int) (w : World) (h : LiesC w v u) :
    Calls Tryz.prog 12 #[v] w fun e w' => e = .returned (.int .i64 (dsq u)) ∧ Below w.heap.size w w' := by
  obtain ⟨j0, hj, hy0, hy1, hy2⟩ := info_parts infoR3
  obtain ⟨pa, pc, rfl, hcap⟩ := h.form
  have hsm := h.1.1
  have HU := Lib.hid h
  have HC := Lib.hid (impl_sq _ u w h)
  have HFIT : Hid (∀ s ∈ sqV u, 0 < s.2 ∧ s.1 + 2 * s.2 ≤ u.length ∧ u.length ≤ 64) := fun s hs => sqV_fit hs
  have HDS : Hid ((sdl (sqW u (sqV u))).length = dsq u) := rfl
  have hdq := dsq_le u
  obtain ⟨L, hL⟩ : ∃ L, L = sqV u := ⟨_, rfl⟩
  have hLl : L.length ≤ 4096 := by rw [hL]; exact sqV_len u
  rw [← hL] at HC HFIT HDS
  clear h hL
  go_enter Tryz.func12, Tryz.ntmps12
  go_wp2_with fail
  refine HC.out.mono ?_
  rintro e W1 ⟨vs, rfl, hv, b1⟩
  obtain ⟨sa, sc, hvs⟩ := hv.form
  have hag := hv.1.form
  rw [sqL_len] at hvs
  subst hvs
  have HAG : Hid (0 < L.length → ∃ g, sa = some ⟨g, 0, none⟩) := fun h0 => by
    obtain ⟨a, c, h1, h2⟩ := hag
    injection h1 with h1
    subst h1
    exact h2 (by rw [sqL_len]; exact h0)
  have HV := Lib.hid hv.1
  have HB1 := Lib.hid b1
  clear hv b1 hag
  go_wp2
  go_loopw [3, 9] (fun o' i' wr => ∃ (i : Nat) (vo : Value) (D : List (Part w)), i ≤ L.length ∧ i' = .int .i64 i ∧ vo = o' ∧ Hid (Has Part.v 24 wr W1.heap.size vo D) ∧ Hid (D.map Part.k = sqW u (L.take i)) ∧ Hid (Below W1.heap.size W1 wr)) (fun _ i' _ => L.length - (intOf i').toNat)
  case atStart => exact ⟨0, _, [], Nat.zero_le _, rfl, rfl, World.ownsRow_nil _ _ _ _, rfl, Below.refl _ _⟩
  case round =>
    obtain ⟨i, vo, D, hi', rfl, rfl, HOr, HDr, HBr⟩ := hrel
    by_cases hlt : i < L.length
    · obtain ⟨e, he⟩ : ∃ x, L[i]? = some x := ⟨_, List.getElem?_eq_getElem hlt⟩
      obtain ⟨g, rfl⟩ := HAG.out (by omega)
      have HO1 := HV.out.below HBr.out
      rw [show L.length = (sqL L).length from (sqL_len L).symm] at HO1
      have p0 := HO1.cell (j := 0) (sqL_at he) rfl
      have p1 := HO1.cell (j := 1) (sqL_at he) rfl
      have p2 := HO1.cell (j := 2) (sqL_at he) rfl
      rw [Nat.add_zero] at p0
      have hf := HFIT.out e (List.mem_of_getElem? he)
      obtain ⟨a1, c1, hsl, hcut⟩ := HU.out.slice (l := e.1) (h := e.1 + 2 * e.2) (by omega) (by omega) (L := (e.1 : Int)) (H := (e.1 : Int) + 2 * (e.2 : Int)) rfl (by omega)
      rw [show e.1 + 2 * e.2 - e.1 = 2 * e.2 from by omega] at hsl hcut
      have hDl : D.length ≤ 4096 := by
        have := congrArg List.length HDr.out
        rw [List.length_map, sqW_len, List.length_take] at this
        omega
      obtain ⟨va, vc, hvo, _⟩ := HOr.out.form
      subst hvo
      have HP : Hid ((D ++ [Part.mk hcut.1]).map Part.k = sqW u (L.take (i + 1))) := by
        show _ = _
        rw [sqW_step he, List.map_append, HDr.out]
        rfl
      have HCT := Lib.hid hcut
      obtain ⟨x, y⟩ := e
      dsimp only at p0 p1 p2 hf hsl HP HCT
      have hil : (i : Int) < (L.length : Int) := by omega
      obtain ⟨hyp, hxy, hu64⟩ := hf
      clear he HO1
      go_upto_region 5 with (fail)
      obtain ⟨W5, hW5⟩ : ∃ W, W = wr.alloc (.cells #[.int .i64 (x : Int), .int .i64 (y : Int), .int .i64 (2 * (y : Int))] 31) := ⟨_, rfl⟩
      have hc := Cells3.new wr 31 (.int .i64 (x : Int)) (.int .i64 (y : Int)) (.int .i64 (2 * (y : Int)))
      have hbw : Below wr.heap.size wr W5 := by rw [hW5]; exact (Below.refl _ _).alloc (Nat.le_refl _) _
      rw [← hW5] at hc ⊢
      have q0 := hc.c0
      have q2 := hc.c2
      have HO5 := Lib.hid (HOr.out.below hbw)
      have HB5 := Lib.hid (HBr.out.trans (hbw.mono HBr.out.size))
      clear hW5 hc hbw p0 p1 p2
      go_wp2_with (at_builtin; refine append_one (enc := Part.v) (e := 24) W5 rfl _ _ 51 rfl W1.heap.size j0 (.slice none 0 0) 24 Tryz.underlying51 hj hy0 hy1 hy2 rfl (.slice va D.length vc) D rfl HO5.out (Part.mk HCT.out.1) rfl (fun x => x.one) (by omega) (by omega) HB5.out.size ?_; intro v' w1 ho hg; have HO2 := Lib.hid ho; have HB2 := Lib.hid (HO5.out.frame HB5.out (Nat.le_refl _) hg); clear hg ho)
      go_roundw
      case rel => exact ⟨i + 1, _, _, by omega, by go_num, rfl, HO2, HP, HB2⟩
      case measure => simp [intOf]; omega
    · have hE : D.map Part.k = sqW u L := by
        have := HDr.out
        rwa [List.take_of_length_le (by omega)] at this
      have hDl : D.length ≤ 4096 := by
        have := congrArg List.length hE
        rw [List.length_map, sqW_len] at this
        omega
      have HBW := Lib.hid (HB1.out.trans (HBr.out.mono HB1.out.size))
      have HD := Lib.hid (diff vo w wr D HBW.out (HOr.out.mono HB1.out.size) (by omega) fun x hx => by
        have := sqW_mem (u := u) (L := L) (x := x.k) (by rw [← hE]; exact List.mem_map_of_mem hx)
        have hmem : x.k ∈ sqW u L := by rw [← hE]; exact List.mem_map_of_mem hx
        obtain ⟨s, hs, _⟩ := List.mem_map.1 hmem
        have := (HFIT.out s hs).2.2
        omega)
      rw [hE] at HD
      clear hE
      go_wp2_with fail
      refine HD.out.mono ?_
      rintro e W5 ⟨v5, us5, rfl, ho5, b5⟩
      have h2 := ho5.rows.len
      obtain ⟨a5, c5, rfl, _⟩ := ho5.top.form
      rw [h2, HDS.out]
      have HB5 := Lib.hid b5
      clear ho5 b5 HD h2
      go_wp2
      go_ret
      exact ⟨rfl, HB5.out⟩
end Fac
end Go.Proofs.YtidfgfgokcflfaaGreat
/- Contracts of IsMorphism and IsUniform, of the model and of the program. No conditions beyond those that each states. -/
namespace Go.Proofs.YtidfgfgokcflfaaGreat
open Go.ChangeShapes Go.WideShapes Go.ChangeAt Go.RowKit
open Go.PlainAid Plain
set_option linter.unusedVariables false
namespace Mor
open Seqs
theorem rows_at {w : World} {a : Option Addr} {n c : Nat} {rows : List (List Int)} {i : Nat} {r : List Int} (h : LiesR w (.slice a n c) rows) (hr : rows[i]? = some r) : ∃ b off ua uc, a = some ⟨b, off, none⟩ ∧ w.cell? ⟨b, off + i, none⟩ = some (.slice ua r.length uc) ∧ Lies (Value.int .i64) w (.slice ua r.length uc) r := by
  obtain ⟨a', c', hv, _, hc⟩ := h.row
  injection hv with e1 e2 e3
  subst e1
  obtain ⟨b, off, u, h1, h2, h3⟩ := hc i r hr
  obtain ⟨_, ua, uc, rfl, _⟩ := id h3
  exact ⟨b, off, ua, uc, h1, h2, h3⟩
theorem rows_drewN {w : World} {v : Value} {rows : List (List Int)} (h : LiesR w v rows) (n : Nat) : LiesR (w.drewN n) v rows := h.below (below_drewN (Below.refl _ _) n)
theorem ends' {B : Nat} {w W W' : World} (h : ∀ n, Below B w (W.drewN n)) (he : (∃ n, W' = W.drewN n) ∨ (∃ n m, W' = (W.drewN n).drewN m) := by first | exact .inl ⟨_, rfl⟩ | exact .inr ⟨_, _, rfl⟩) : Below B w W' := by
  rcases he with ⟨n, rfl⟩ | ⟨n, m, rfl⟩
  · exact h n
  · rw [World.drewN_drewN]; exact h _
theorem rows_small {w : World} {v : Value} {rows : List (List Int)} (h : LiesR w v rows) : rows.length ≤ 9223372036854775807 := by
  obtain ⟨_, _, _, hl, _⟩ := h.row
  exact hl
theorem word_q {v : Value} {xs : List Int} {n : Int} {w : World} {c : Bool} (hc : wordB xs n = c) (h : Lies (Value.int .i64) w v xs) :
    Calls Tryz.prog 102 #[v, .int .i64 n] w fun e w' => e = .returned (.bool c) ∧ ∃ m, w' = w.drewN m :=
  (spec_word v xs n _ h).mono fun _ _ ⟨he, hw⟩ => ⟨by rw [he, hc], 0, hw.symm⟩
theorem mor_end (m : List (List Int)) (hm : ∀ (j : Nat) (r : List Int), m[j]? = some r → wordB r m.length = true ∧ r.length ≤ 8) : morB m = decide (1 ≤ m.length) := by
  by_cases h : 1 ≤ m.length
  · rw [mor_of h hm]; exact (decide_eq_true h).symm
  · rw [morB_no fun hh => h hh.1]; exact (decide_eq_false h).symm
set_option maxHeartbeats 1000000 in
theorem spec_mor (v : Value) (m : List (List Int)) (w : World) (h : LiesM w v m) :
    Calls Tryz.prog 93 #[v] w fun e w' => e = .returned (.bool (morB m)) ∧ Below w.heap.size w w' := by
  obtain ⟨an, cn, rfl⟩ := h.form
  have hn := h.rows
  have hl := rows_small hn
  clear h
  have hB : Below w.heap.size w (w.alloc (Obj.cells #[Value.slice an m.length cn] 80)) := (Below.refl _ _).alloc (Nat.le_refl _) _
  have hC := Cells1.new w 80 (.slice an m.length cn)
  go_enter Tryz.func93, Tryz.ntmps93
  go_wp2_with fail
  obtain ⟨W, hW⟩ : ∃ W, W = w.alloc (Obj.cells #[Value.slice an m.length cn] 80) := ⟨_, rfl⟩
  rw [← hW] at hB hC ⊢
  have HRW := Lib.hid (hn.below hB)
  have HB : Hid (∀ n, Below w.heap.size w (W.drewN n)) := fun n => below_drewN hB n
  have k0 := hC.c0
  clear hn hB hC hW
  obtain ⟨z, hz⟩ : ∃ z, z = w.heap.size := ⟨_, rfl⟩
  rw [← hz] at k0 ⊢
  have HZ := Lib.hid hz
  clear hz
  go_loopw [3] (fun i' wr => ∃ i : Nat, i ≤ m.length ∧ i' = .int .i64 i ∧ Hid (∀ (j : Nat) (r : List Int), j < i → m[j]? = some r → wordB r m.length = true ∧ r.length ≤ 8) ∧ ∃ n, wr = W.drewN n) (fun i' _ => m.length - (intOf i').toNat)
  case atStart => exact ⟨0, Nat.zero_le _, rfl, fun j r h => by omega, 0, rfl⟩
  case round =>
    obtain ⟨i, hi, rfl, HI, n, rfl⟩ := hrel
    by_cases hlt : i < m.length
    · obtain ⟨r, hr⟩ : ∃ r, m[i]? = some r := ⟨_, List.getElem?_eq_getElem hlt⟩
      obtain ⟨p, o, ua, uc, rfl, hx, hlx⟩ := rows_at HRW.out hr
      have HL := Lib.hid hlx
      have HR := Lib.hid hr
      clear hr hlx
      obtain ⟨c, hc⟩ : ∃ c, wordB r m.length = c := ⟨_, rfl⟩
      have HWC := Lib.hid hc
      clear hc
      cases c with
      | false =>
        have HE := Lib.hid (not_mor_at HR.out (.inl HWC.out))
        go_wp2
        go_quiet ((go_at_call 102; exact quiet_more (word_q HWC.out (Lies_drewN HL.out _))))
        go_wp2
        go_ret
        exact ⟨ret_b HE.out.symm, ends' HB.out⟩
      | true =>
        by_cases h8 : r.length ≤ 8
        · have hd := decide_eq_false (show ¬ (r.length : Int) > 8 by omega)
          have HN : Hid (∀ (j : Nat) (y : List Int), j < i + 1 → m[j]? = some y → wordB y m.length = true ∧ y.length ≤ 8) := fun j y hj hy => by
            by_cases e : j = i
            · subst e
              obtain rfl := Option.some.inj (HR.out.symm.trans hy)
              exact ⟨HWC.out, h8⟩
            · exact HI.out j y (by omega) hy
          go_wp2
          go_quiet ((go_at_call 102; exact quiet_more (word_q HWC.out (Lies_drewN HL.out _))))
          go_wp2
          go_roundw
          case rel => exact ⟨i + 1, by omega, by go_num, HN, _, rfl⟩
          case measure => simp [intOf]; omega
        · have hd := decide_eq_true (show (r.length : Int) > 8 by omega)
          have HE := Lib.hid (not_mor_at HR.out (.inr (by omega)))
          go_wp2
          go_quiet ((go_at_call 102; exact quiet_more (word_q HWC.out (Lies_drewN HL.out _))))
          go_wp2
          go_ret
          exact ⟨ret_b HE.out.symm, ends' HB.out⟩
    · have HA : Hid (∀ (j : Nat) (r : List Int), m[j]? = some r → wordB r m.length = true ∧ r.length ≤ 8) := fun j r hr => HI.out j r (by have := (List.getElem?_eq_some_iff.1 hr).1; omega) hr
      have HE := Lib.hid (mor_end m HA.out)
      clear HI
      by_cases h1 : 1 ≤ m.length ∧ m.length ≤ 16
      · obtain ⟨h2, h3⟩ := h1
        rw [decide_eq_true h2] at HE
        go_wp2_with fail
        refine (l1In_yes _ _ _ _ (by omega) (by omega)).mono ?_
        rintro e w' ⟨rfl, rfl⟩
        go_wp2
        go_ret
        exact ⟨ret_b HE.out.symm, ends' HB.out⟩
      · have HE2 : Hid (morB m = false) := morB_no fun hh => h1 ⟨hh.1, hh.2.1⟩
        have HNO : Hid ((m.length : Int) < 1 ∨ 16 < (m.length : Int)) := by show _ ∨ _; omega
        clear h1
        go_wp2_with fail
        refine (l1In_no _ _ _ _ HNO.out).mono ?_
        rintro e w' ⟨rfl, rfl⟩
        go_wp2
        go_ret
        exact ⟨ret_b HE2.out.symm, ends' HB.out⟩
end Mor
end Go.Proofs.YtidfgfgokcflfaaGreat
/- Contracts of ApplyMorphism and IterateMorphism, of the model and of the program. No conditions beyond those that each states. -/
namespace Go.Proofs.YtidfgfgokcflfaaGreat
open Go.ChangeShapes Go.WideShapes Go.ChangeAt Go.RowKit
open Go.PlainAid Plain
set_option linter.unusedVariables false
namespace Mor
open Seqs
theorem appK_no1 {m : List (List Int)} {w : List Int} (h : morB m = false) : appK m w = false := by simp [appK, h]
theorem appK_no2 {m : List (List Int)} {w : List Int} (h : wordB w m.length = false) : appK m w = false := by simp [appK, h]
theorem appK_no3 {m : List (List Int)} {w : List Int} (h : 400 < (appL m w).length) : appK m w = false := by simp [appK]; intros; omega
theorem appV_no {m : List (List Int)} {w : List Int} (h : appK m w = false) : appV m w = [] := by simp [appV, h]
theorem appV_yes {m : List (List Int)} {w : List Int} (h : appK m w = true) : appV m w = appL m w := by simp [appV, h]
/-- Both results of a call that says no. -/
theorem ik_no {m : List (List Int)} {w : List Int} {W : World} {e : Ending} {W' : World} (h : appK m w = false) (hg : GivesIK [] false W e W') : GivesIK (appV m w) (appK m w) W e W' := by rw [appV_no h, h]; exact hg
theorem ik_yes {m : List (List Int)} {w : List Int} {W : World} {e : Ending} {W' : World} (h : appK m w = true) (hg : GivesIK (appL m w) true W e W') : GivesIK (appV m w) (appK m w) W e W' := by rw [appV_yes h, h]; exact hg
theorem has_none (w : World) (base : Nat) : Has (Value.int .i64) 3 w base (.slice none 0 0) [] := World.ownsRow_nil _ _ _ _
theorem lies_el {w : World} {a : Option Addr} {n c : Nat} {xs : List Int} {i : Nat} {x : Int} (h : Lies (Value.int .i64) w (.slice a n c) xs) (hx : xs[i]? = some x) : ∃ b off, a = some ⟨b, off, none⟩ ∧ w.cell? ⟨b, off + i, none⟩ = some (.int .i64 x) := by
  obtain ⟨_, a', c', hv, _, hc⟩ := h
  injection hv with e1 e2 e3
  subst e1
  exact hc i x hx
/-- A letter of a word, its image. -/
theorem word_el {m : List (List Int)} {xs : List Int} {i : Nat} (hm : IsMor m) (hw : IsWd xs m.length) (hi : i < xs.length) : ∃ (xn : Nat) (r : List Int), xs[i]? = some (xn : Int) ∧ xn < m.length ∧ m[xn]? = some r ∧ r.length ≤ 8 ∧ appL m (xs.take (i + 1)) = appL m (xs.take i) ++ r := by
  obtain ⟨x, hx⟩ : ∃ x, xs[i]? = some x := ⟨_, List.getElem?_eq_getElem hi⟩
  have hxb := hw.2.2.2 x (List.mem_of_getElem? hx)
  obtain ⟨h1, h2, _⟩ := hm.img hxb.1 hxb.2
  have e : ((x.toNat : Nat) : Int) = x := by omega
  exact ⟨x.toNat, _, by rw [e]; exact hx, by omega, h1, h2, appL_take_succ hx⟩
theorem app_take_400 {m : List (List Int)} {xs : List Int} {i : Nat} (h : 400 < (appL m (xs.take i)).length) : 400 < (appL m xs).length := Nat.lt_of_lt_of_le h (appL_take_le m xs i)
end Mor
end Go.Proofs.YtidfgfgokcflfaaGreat
/- Contract of the model's IsGrowing. No conditions beyond those that each states. -/
namespace Go.Proofs.YtidfgfgokcflfaaGreat
open Go.ChangeShapes Go.WideShapes Go.ChangeAt Go.RowKit
open Go.PlainAid Plain
set_option linter.unusedVariables false
namespace Mor
open Seqs
/-- Does the list hold the number? -/
def inM (x : Int) (xs : List Int) : Bool := decide (x ∈ xs)
theorem inM_yes {x : Int} {xs : List Int} (h : x ∈ xs) : inM x xs = true := decide_eq_true h
theorem inM_no {x : Int} {xs : List Int} (h : x ∉ xs) : inM x xs = false := decide_eq_false h
theorem inM_at {x y : Int} {xs : List Int} {k : Nat} (h : xs[k]? = some y) (e : y = x) : inM x xs = true := inM_yes (e ▸ List.mem_of_getElem? h)
theorem inM_none {x : Int} {xs : List Int} (h : ∀ (j : Nat) (y : Int), xs[j]? = some y → ¬ y = x) : inM x xs = false := inM_no fun hm => by
  obtain ⟨j, hj⟩ := List.getElem?_of_mem hm
  exact h j x hj rfl
theorem spec_hasM (v : Value) (xs : List Int) (x : Int) (w : World) (h : Lies (Value.int .i64) w v xs) (c : Bool) (hc : inM x xs = c) :
    Calls Tryz.prog 94 #[v, .int .i64 x] w fun e w' => e = .returned (.bool c) ∧ w' = w := by
  obtain ⟨hl, a, ca, rfl, _, hca⟩ := h
  have HA := Lib.hid hca
  have HC := Lib.hid hc
  clear hca hc
  go_enter Tryz.func94, Tryz.ntmps94
  go_wp2
  go_loop [5] (fun i' => ∃ k : Nat, k ≤ xs.length ∧ i' = .int .i64 k ∧ Hid (∀ (j : Nat) (y : Int), j < k → xs[j]? = some y → ¬ y = x)) (fun i' => xs.length - (intOf i').toNat)
  case atStart => exact ⟨0, Nat.zero_le _, rfl, fun j y h => by omega⟩
  case round =>
    obtain ⟨k, hk, rfl, HI⟩ := hrel
    by_cases hlt : k < xs.length
    · obtain ⟨y, hy⟩ : ∃ y, xs[k]? = some y := ⟨_, List.getElem?_eq_getElem hlt⟩
      obtain ⟨p, o, rfl, hcl⟩ := HA.out k y hy
      have HY := Lib.hid hy
      clear hy
      by_cases he : y = x
      · have hd : (y == x) = true := by simpa using he
        have HE := Lib.hid (HC.out.symm.trans (inM_at HY.out he))
        clear he
        go_wp2
        go_ret
        exact ⟨ret_b HE.out.symm, rfl⟩
      · have hd : (y == x) = false := by simpa using he
        have HN : Hid (∀ (j : Nat) (z : Int), j < k + 1 → xs[j]? = some z → ¬ z = x) := fun j z hj hz => by
          by_cases e : j = k
          · subst e
            obtain rfl := Option.some.inj (HY.out.symm.trans hz)
            exact he
          · exact HI.out j z (by omega) hz
        clear he
        go_wp2
        go_round
        case rel => exact ⟨k + 1, by omega, by go_num, HN⟩
        case measure => simp [intOf]; omega
    · have HE := Lib.hid (HC.out.symm.trans (inM_none fun j y hj => HI.out j y (by have := (List.getElem?_eq_some_iff.1 hj).1; omega) hj))
      go_wp2
      go_ret
      exact ⟨ret_b HE.out.symm, rfl⟩
theorem hasM_quiet {v : Value} {xs : List Int} {x : Int} {w : World} {n : Nat} {c : Bool} (h : Lies (Value.int .i64) w v xs) (hc : inM x xs = c) :
    Calls Tryz.prog 94 #[v, .int .i64 x] (w.drewN n) fun e w' => e = .returned (.bool c) ∧ ∃ m, w' = w.drewN m :=
  (spec_hasM v xs x _ (h.below (below_drewN (Below.refl _ _) n)) c hc).mono fun _ _ ⟨he, hw⟩ => ⟨he, n, hw⟩
/-- A slice of ints that is not empty: its cells. -/
theorem intsM_at {w : World} {v : Value} {xs : List Int} (h : Lies (Value.int .i64) w v xs) (hp : 0 < xs.length) : ∃ q s c, v = .slice (some ⟨q, s, none⟩) xs.length c ∧ ∀ (k : Nat) (x : Int), xs[k]? = some x → w.cell? ⟨q, s + k, none⟩ = some (.int .i64 x) := by
  obtain ⟨_, a, c, rfl, _, hc⟩ := h
  obtain ⟨q, s, rfl, _⟩ := hc 0 _ (List.getElem?_eq_getElem hp)
  refine ⟨q, s, c, rfl, fun k x hx => ?_⟩
  obtain ⟨q', s', h1, h2⟩ := hc k x hx
  injection h1 with h1
  injection h1 with h1 h3
  subst h1; subst h3
  exact h2

theorem grow_no1 {m : List (List Int)} {a : Int} (h : morB m = false) : growB m a = false := by simp [growB, h]
theorem grow_no2 {m : List (List Int)} {a : Int} (h : a < 0 ∨ (m.length : Int) ≤ a) : growB m a = false := by
  have : letB m a = false := decide_eq_false (by omega)
  unfold growB
  rw [this]
  simp
theorem grow_no3 {m : List (List Int)} {n : Nat} {r : List Int} (hr : m[n]? = some r) (h : r.length < 2 ∨ ¬ r.getD 0 0 = (n : Int)) : growB m n = false := by
  have : decide (2 ≤ (img m n).length ∧ (img m n).getD 0 0 = (n : Int)) = false := by
    rw [img_at hr]
    exact decide_eq_false fun hh => by rcases h with h | h <;> omega
  unfold growB
  rw [this]
  simp
theorem grow_yes {m : List (List Int)} {n : Nat} {r : List Int} (hm : morB m = true) (hn : n < m.length) (hr : m[n]? = some r) (h2 : 2 ≤ r.length) (h0 : r.getD 0 0 = (n : Int)) : growB m n = !allVan m m.length (r.drop 1) := by
  have h1 : letB m n = true := decide_eq_true (by omega)
  have h3 : decide (2 ≤ (img m n).length ∧ (img m n).getD 0 0 = (n : Int)) = true := by rw [img_at hr]; exact decide_eq_true ⟨h2, h0⟩
  unfold growB
  rw [hm, h1, h3, img_at hr]
  simp
theorem lies_drop1 {w : World} {b off n c : Nat} {xs : List Int} (h : Lies (Value.int .i64) w (.slice (some ⟨b, off, none⟩) n c) xs) (h1 : 1 ≤ xs.length) (hc : xs.length ≤ c) : Lies (Value.int .i64) w (.slice (some ⟨b, off + 1, none⟩) (xs.length - 1) (c - 1)) (xs.drop 1) := by
  obtain ⟨hl, a', c', hv, _, hcell⟩ := h
  injection hv with e1 e2 e3
  subst e1
  refine ⟨by rw [List.length_drop]; omega, some ⟨b, off + 1, none⟩, c - 1, by rw [List.length_drop], (fun h => by simp at h), fun i x hx => ?_⟩
  rw [List.getElem?_drop] at hx
  obtain ⟨b', o', h3, h4⟩ := hcell _ x hx
  injection h3 with h3
  injection h3 with h3 h5
  subst h3; subst h5
  exact ⟨b, off + 1, rfl, by rw [show off + 1 + i = off + (1 + i) from by omega]; exact h4⟩
theorem cell_kept {w w' : World} {b o : Nat} {v : Value} (hb : Below w.heap.size w w') (h : w.cell? ⟨b, o, none⟩ = some v) : w'.cell? ⟨b, o, none⟩ = some v := (hb.cell (p := ⟨b, o, none⟩) (World.block_lt_of_cell? w _ h)).trans h
theorem lies_el' {w : World} {q s n c : Nat} {xs : List Int} {i : Nat} {x : Int} (h : Lies (Value.int .i64) w (.slice (some ⟨q, s, none⟩) n c) xs) (hx : xs[i]? = some x) : w.cell? ⟨q, s + i, none⟩ = some (.int .i64 x) := by
  obtain ⟨b, off, h1, h2⟩ := lies_el h hx
  injection h1 with h1
  injection h1 with h1 h3
  subst h1; subst h3
  exact h2
theorem dist_bd {m : List (List Int)} (hm : IsMor m) {u r : List Int} (hu : ∀ x ∈ u, 0 ≤ x ∧ x < (m.length : Int)) (hr : ∀ x ∈ r, 0 ≤ x ∧ x < (m.length : Int)) (k : Nat) : (addAll (dist (appL m u)) (r.take k)).length ≤ 16 := by
  have h1 := nodup_bounded (addAll (dist (appL m u)) (r.take k)) m.length (addAll_nodup _ _ (dist_nodup _)) fun x hx => by
    rcases (mem_addAll _ _ _).1 hx with h | h
    · exact hm.app_in hu x (mem_dist.1 h)
    · exact hr x (List.mem_of_mem_take h)
  have := hm.2.1
  omega
theorem dist_next {m : List (List Int)} {R : List Int} {i : Nat} {x : Int} (hx : R[i]? = some x) : dist (appL m (R.take (i + 1))) = addAll (dist (appL m (R.take i))) (img m x) := by
  rw [appL_take_succ hx]
  exact addAll_append _ _ _
theorem add_old {A r : List Int} {k : Nat} {x : Int} (hx : r[k]? = some x) (h : x ∈ addAll A (r.take k)) : addAll A (r.take (k + 1)) = addAll A (r.take k) := by
  obtain ⟨h1, h2⟩ := List.getElem?_eq_some_iff.1 hx
  rw [List.take_succ_eq_append_getElem h1, h2, addAll_snoc, addTo_in h]
theorem add_new {A r : List Int} {k : Nat} {x : Int} (hx : r[k]? = some x) (h : x ∉ addAll A (r.take k)) : addAll A (r.take (k + 1)) = addAll A (r.take k) ++ [x] := by
  obtain ⟨h1, h2⟩ := List.getElem?_eq_some_iff.1 hx
  rw [List.take_succ_eq_append_getElem h1, h2, addAll_snoc, addTo_new h]
set_option maxRecDepth 100000 in
set_option maxHeartbeats 2000000 in
theorem spec_grow (v : Value) (m : List (List Int)) (a : Int) (w : World) (h : OwnedM w v m) :
    Calls Tryz.prog 75 #[v, .int .i64 a] w fun e w' => e = .returned (.bool (growB m a)) ∧ Below w.heap.size w w' := by
  obtain ⟨i0, hi, hz0, hz1, hz2⟩ := info_parts Ints.infoI
  obtain ⟨an, cn, rfl⟩ := h.lies.form
  have HO := Lib.hid h
  have HM := Lib.hid h.lies
  have hml := rows_small h.lies.rows
  have HB : Hid (Below w.heap.size w (w.alloc (Obj.cells #[Value.slice an m.length cn] 80))) := (Below.refl _ _).alloc (Nat.le_refl _) _
  have HC := Lib.hid (Cells1.new w 80 (.slice an m.length cn))
  clear h
  go_enter Tryz.func75, Tryz.ntmps75
  go_wp2_with fail
  refine (spec_mor _ m _ (HM.out.below HB.out)).mono ?_
  rintro e W1 ⟨rfl, hb⟩
  have HB1 := Lib.hid (HB.out.trans (hb.mono HB.out.size))
  have HC1 := Lib.hid (HC.out.below hb)
  have k0 := HC1.out.c0
  clear hb HC HB
  obtain ⟨c, hc⟩ : ∃ c, morB m = c := ⟨_, rfl⟩
  rw [hc]
  have HMB := Lib.hid hc
  clear hc
  cases c with
  | false =>
    have HE := Lib.hid (grow_no1 (a := a) HMB.out)
    go_wp2
    go_ret
    exact ⟨ret_b HE.out.symm, HB1.out⟩
  | true =>
    by_cases ha0 : a < 0
    · have hd := decide_eq_true ha0
      have HE := Lib.hid (grow_no2 (m := m) (.inl ha0))
      go_wp2
      go_ret
      exact ⟨ret_b HE.out.symm, HB1.out⟩
    · have hd := decide_eq_false ha0
      by_cases ha1 : (m.length : Int) ≤ a
      · have hd1 := decide_eq_true ha1
        have HE := Lib.hid (grow_no2 (m := m) (.inr ha1))
        go_wp2
        go_ret
        exact ⟨ret_b HE.out.symm, HB1.out⟩
      · have hd1 := decide_eq_false ha1
        obtain ⟨n, rfl⟩ : ∃ n : Nat, a = n := ⟨a.toNat, by omega⟩
        have hn : n < m.length := by omega
        have hd1n := decide_eq_false (show ¬ m.length ≤ n by omega)
        obtain ⟨r, hr⟩ : ∃ r, m[n]? = some r := ⟨_, List.getElem?_eq_getElem hn⟩
        obtain ⟨p, o, ua, uc, rfl, hcr, hlr, huc⟩ := (HO.out.below HB1.out).row hr
        have HR := Lib.hid hr
        have HLR := Lib.hid hlr
        clear hr hlr
        by_cases h2 : r.length < 2
        · have hd2 := decide_eq_true (show (r.length : Int) < 2 by omega)
          have HE := Lib.hid (grow_no3 HR.out (.inl h2))
          go_wp2
          go_ret
          exact ⟨ret_b HE.out.symm, HB1.out⟩
        · have hd2 := decide_eq_false (show ¬ (r.length : Int) < 2 by omega)
          have h02 : 0 < r.length := by omega
          have huc1 : ¬ uc = 1 := by omega
          have h02i : (0 : Int) < (r.length : Int) := by omega
          obtain ⟨x, hx⟩ : ∃ x, r[0]? = some x := ⟨_, List.getElem?_eq_getElem h02⟩
          have HX0 : Hid (r.getD 0 0 = x) := by show _ = _; simp [List.getD, hx]
          obtain ⟨q, s, rfl, hcx⟩ := lies_el HLR.out hx
          rw [Nat.add_zero] at hcx
          clear hx
          by_cases he : x = (n : Int)
          · have hd3 : (x != (n : Int)) = false := by rw [he]; simp
            have HE := Lib.hid (grow_yes HMB.out hn HR.out (by omega) (HX0.out.trans he))
            clear he
            go_wp2
            have HD : Hid (Lies (Value.int .i64) W1 (.slice (some ⟨q, s + 1, none⟩) (r.length - 1) (uc - 1)) (r.drop 1)) := lies_drop1 HLR.out (by omega) huc
            have HMM := Lib.hid (morB_out HMB.out)
            have hm16 := HMM.out.2.1
            have HDI : Hid (∀ x ∈ r.drop 1, 0 ≤ x ∧ x < (m.length : Int)) := fun y hy => (HMM.out.2.2 r (List.mem_of_getElem? HR.out)).2 y (List.mem_of_mem_drop hy)
            have hDl : (r.drop 1).length = r.length - 1 := by rw [List.length_drop]
            obtain ⟨D, hDD⟩ : ∃ D, D = r.drop 1 := ⟨_, rfl⟩
            rw [← hDD] at HE HD HDI hDl
            rw [← hDl] at HD ⊢
            clear hd hd1 hd1n hd2 hd3 hcr hcx k0 h02 h02i huc1 huc h2 hDD hDl
            go_loopw [5, 6] (fun o' i' wr => ∃ (j : Nat) (vr : Value), j ≤ m.length + 1 ∧ i' = .int .i64 j ∧ vr = o' ∧ Hid (Lies (Value.int .i64) wr vr (rst m D j)) ∧ Hid (Cells1 wr w.heap.size 80 (.slice (some ⟨p, o, none⟩) m.length cn)) ∧ Hid (Below w.heap.size w wr)) (fun _ i' _ => m.length + 1 - (intOf i').toNat)
            case atStart => exact ⟨0, _, by omega, rfl, rfl, HD, HC1, HB1⟩
            case round =>
              obtain ⟨j, vr, hj, rfl, rfl, HLr, HCr, HBr⟩ := hrel
              by_cases hlt : j ≤ m.length
              · have hdj := decide_eq_true (show (j : Int) ≤ (m.length : Int) by omega)
                have k0 := HCr.out.c0
                obtain ⟨R, hR⟩ : ∃ R, R = rst m D j := ⟨_, rfl⟩
                have HRI : Hid (∀ x ∈ R, 0 ≤ x ∧ x < (m.length : Int)) := by show ∀ x ∈ R, _; rw [hR]; exact rst_in HMM.out HDI.out j
                have HRS : Hid (rst m D (j + 1) = dist (appL m R)) := by show _ = _; rw [hR]; rfl
                rw [← hR] at HLr
                clear hR
                obtain ⟨hRl, ra, rc, rfl, _, _⟩ := id HLr.out
                obtain ⟨W0, rfl⟩ : ∃ W : World, W = wr := ⟨_, rfl⟩
                have HN0 : Hid (Has (Value.int .i64) 3 (W0.alloc (Obj.cells #[] 3)) W0.heap.size (.slice (some ⟨W0.heap.size, 0, none⟩) 0 0) []) := has_lit0 rfl (Nat.le_refl _)
                have HW0 : Hid (Below W0.heap.size W0 (W0.alloc (Obj.cells #[] 3))) := (Below.refl _ _).alloc (Nat.le_refl _) _
                go_wp2
                clear k0 hdj
                generalize W0.alloc (Obj.cells #[] 3) = W4 at HN0 HW0 ⊢
                go_loopw [7, 8] (fun n' i' wr => ∃ (i : Nat) (vn : Value), i ≤ R.length ∧ i' = .int .i64 i ∧ vn = n' ∧ Hid (Has (Value.int .i64) 3 wr W0.heap.size vn (dist (appL m (R.take i)))) ∧ Hid (Below W0.heap.size W0 wr)) (fun _ i' _ => R.length - (intOf i').toNat)
                case atStart => exact ⟨0, _, Nat.zero_le _, rfl, rfl, HN0, HW0⟩
                case round =>
                  obtain ⟨i, vn, hi', rfl, rfl, HNr, HBi⟩ := hrel
                  by_cases hlt2 : i < R.length
                  · obtain ⟨y, hy⟩ : ∃ y, R[i]? = some y := ⟨_, List.getElem?_eq_getElem hlt2⟩
                    have hyb := HRI.out y (List.mem_of_getElem? hy)
                    obtain ⟨yn, rfl⟩ := Int.eq_ofNat_of_zero_le hyb.1
                    have hyn : yn < m.length := by omega
                    obtain ⟨hri, hri8, hriI⟩ := HMM.out.img hyb.1 hyb.2
                    have HDN := Lib.hid (dist_next (m := m) hy)
                    obtain ⟨ri, hrie⟩ : ∃ ri, ri = img m (yn : Int) := ⟨_, rfl⟩
                    rw [← hrie] at hri hri8 hriI HDN
                    rw [show ((yn : Int).toNat) = yn from by omega] at hri
                    obtain ⟨q2, s2, rfl, hcy⟩ := lies_el HLr.out hy
                    obtain ⟨p2, o2, ua2, uc2, hpo, hcr2, hlr2, _⟩ := (HO.out.below HBr.out).row hri
                    injection hpo with hpo
                    injection hpo with hpo1 hpo2
                    subst hpo1; subst hpo2
                    have HCY := Lib.hid hcy
                    have HCR := Lib.hid hcr2
                    have HLR2 := Lib.hid hlr2
                    have HRII := Lib.hid hriI
                    have hril : (ri.length : Int) ≤ 8 := by omega
                    clear hy hri hyb hriI hrie hcy hcr2 hlr2
                    obtain ⟨W5, rfl⟩ : ∃ W : World, W = wr := ⟨_, rfl⟩
                    go_wp2
                    go_loopw [7, 9] (fun n' k' wr => ∃ (k : Nat) (vn : Value), k ≤ ri.length ∧ k' = .int .i64 k ∧ vn = n' ∧ Hid (Has (Value.int .i64) 3 wr W0.heap.size vn (addAll (dist (appL m (R.take i))) (ri.take k))) ∧ Hid (Below W0.heap.size W0 wr)) (fun _ k' _ => ri.length - (intOf k').toNat)
                    case atStart => exact ⟨0, _, Nat.zero_le _, rfl, rfl, HNr, HBi⟩
                    case round =>
                      obtain ⟨k, vn, hk, rfl, rfl, HNk, HBk⟩ := hrel
                      have k0 := (HCr.out.below HBk.out).c0
                      have k1 := cell_kept HBk.out HCY.out
                      have k2 := cell_kept HBk.out HCR.out
                      by_cases hlk : k < ri.length
                      · obtain ⟨x2, hx2⟩ : ∃ x, ri[k]? = some x := ⟨_, List.getElem?_eq_getElem hlk⟩
                        have HX2 := Lib.hid hx2
                        obtain ⟨q3, s3, rfl, hcz⟩ := lies_el HLR2.out hx2
                        have HCZ := Lib.hid hcz
                        have k3 := cell_kept HBk.out HCZ.out
                        clear hx2 hcz
                        go_wp2
                        go_quiet (fail)
                        have hbd := below_drewN (Below.refl wr.heap.size wr) nq
                        have HN6 := Lib.hid (HNk.out.below hbd)
                        have HB6 := Lib.hid (HBk.out.trans (hbd.mono HBk.out.size))
                        clear hbd HNk HBk k0 k1 k2 k3
                        obtain ⟨W6, hW6⟩ : ∃ W, W = wr.drewN nq := ⟨_, rfl⟩
                        rw [← hW6] at HN6 HB6 ⊢
                        clear hW6
                        have k0 := (HCr.out.below HB6.out).c0
                        have k1 := cell_kept HB6.out HCY.out
                        have k2 := cell_kept HB6.out HCR.out
                        have k3 := cell_kept HB6.out HCZ.out
                        obtain ⟨AL, hAL⟩ : ∃ AL, AL = addAll (dist (appL m (R.take i))) (ri.take k) := ⟨_, rfl⟩
                        have HAL := Lib.hid hAL
                        have HA16 : Hid (AL.length ≤ 16) := by show _ ≤ _; rw [hAL]; exact dist_bd HMM.out (fun y hy => HRI.out y (List.mem_of_mem_take hy)) HRII.out k
                        rw [← hAL] at HN6
                        clear hAL
                        by_cases hin : x2 ∈ AL
                        · have HE : Hid (addAll (dist (appL m (R.take i))) (ri.take (k + 1)) = AL) := by show _ = _; rw [add_old HX2.out (by rw [← HAL.out]; exact hin), HAL.out]
                          have HI := Lib.hid (inM_yes hin)
                          clear hin
                          go_wp2
                          go_quiet ((go_at_call 94; exact hasM_quiet HN6.out.lies HI.out))
                          have hbd := below_drewN (Below.refl W6.heap.size W6) nq
                          have HN7 : Hid (Has (Value.int .i64) 3 (W6.drewN nq) W0.heap.size vn (addAll (dist (appL m (R.take i))) (ri.take (k + 1)))) := by show Has _ _ _ _ _ _; rw [HE.out]; exact HN6.out.below hbd
                          have HB7 := Lib.hid (HB6.out.trans (hbd.mono HB6.out.size))
                          clear hbd
                          go_wp2
                          go_roundw
                          case rel => exact ⟨k + 1, vn, by omega, by go_num, rfl, HN7, HB7⟩
                          case measure => simp [intOf]; omega
                        · have HE : Hid (addAll (dist (appL m (R.take i))) (ri.take (k + 1)) = AL ++ [x2]) := by show _ = _; rw [add_new HX2.out (by rw [← HAL.out]; exact hin), HAL.out]
                          have HI := Lib.hid (inM_no hin)
                          clear hin
                          go_wp2
                          go_quiet ((go_at_call 94; exact hasM_quiet HN6.out.lies HI.out))
                          have hbd := below_drewN (Below.refl W6.heap.size W6) nq
                          have HN7 := Lib.hid (HN6.out.below hbd)
                          have HB7 := Lib.hid (HB6.out.trans (hbd.mono HB6.out.size))
                          clear hbd HN6 HB6 k0 k1 k2 k3
                          go_wp2_with fail
                          obtain ⟨W7, hW7⟩ : ∃ W, W = W6.drewN nq := ⟨_, rfl⟩
                          rw [← hW7] at HN7 HB7 ⊢
                          clear hW7
                          have k0 := (HCr.out.below HB7.out).c0
                          have k1 := cell_kept HB7.out HCY.out
                          have k2 := cell_kept HB7.out HCR.out
                          have k3 := cell_kept HB7.out HCZ.out
                          have hal := HA16.out
                          have HZ7 : Hid (W0.heap.size ≤ W7.heap.size) := HB7.out.size
                          go_region_law
                            ((refine step_append_list (enc := Value.int .i64) (e := 3) rfl (.tmp 91) (.tmp 103) 24 rfl W0.heap.size i0 (.int .i64 0) 8 Tryz.underlying24 hi hz0 hz1 hz2 rfl vn AL rfl (by repeat (first | with_reducible exact HN7.out | with_reducible apply has_drew | with_reducible apply has_alloc)) (Value.slice (some ⟨_, 0, none⟩) 1 1) [x2] rfl (by repeat (first | with_reducible apply lies_drew | (with_reducible refine lies_lit1 (enc := Value.int .i64) _ rfl) | with_reducible apply lies_alloc)) (fun _ _ => rfl) (by simp only [List.length_cons, List.length_nil]; omega) (by simp only [List.length_cons, List.length_nil]; omega) (by have := HZ7.out; simp; omega) ?_; intro vo w1 ho hg; refine with_fact (T := W7.grownBy w1 vn.ownBlock) ?_ ?_; (focus (first | exact grown_alloc (grown_drew hg) | exact grown_alloc hg)); intro hg1))
                          all_goals
                            have HN8 : Hid (Has (Value.int .i64) 3 w1 W0.heap.size vo (addAll (dist (appL m (R.take i))) (ri.take (k + 1)))) := by
                              show Has _ _ _ _ _ _
                              rw [HE.out]
                              exact ho
                            have HB8 := Lib.hid (HN7.out.frame HB7.out (Nat.le_refl _) hg1)
                            clear hg hg1 ho k0 k1 k2 k3
                            go_wp2
                            go_roundw
                            case rel => exact ⟨k + 1, vo, by omega, by go_num, rfl, HN8, HB8⟩
                            case measure => simp [intOf]; omega
                      · go_wp2
                        go_quiet (fail)
                        have hbd := below_drewN (Below.refl wr.heap.size wr) nq
                        have HN6 : Hid (Has (Value.int .i64) 3 (wr.drewN nq) W0.heap.size vn (dist (appL m (R.take (i + 1))))) := by
                          show Has _ _ _ _ _ _
                          have h1 := HNk.out.below hbd
                          have hk8 : k = ri.length := by omega
                          rw [hk8, List.take_length] at h1
                          rw [HDN.out]
                          exact h1
                        have HB6 := Lib.hid (HBk.out.trans (hbd.mono HBk.out.size))
                        clear hbd HNk HBk k0 k1 k2
                        go_wp2
                        go_roundw
                        case rel =>
                          exact ⟨i + 1, vn, by omega, by go_num, rfl, HN6, HB6⟩
                        case measure => simp [intOf]; omega
                  · have HL9 : Hid (Lies (Value.int .i64) wr vn (rst m D (j + 1))) := by
                      show Lies _ _ _ _
                      have h1 := HNr.out.lies
                      rw [List.take_of_length_le (by omega)] at h1
                      rw [HRS.out]
                      exact h1
                    have HC9 := Lib.hid (HCr.out.below HBi.out)
                    have HB9 := Lib.hid (HBr.out.trans (HBi.out.mono HBr.out.size))
                    clear HNr HBi
                    go_wp2
                    go_roundw
                    case rel => exact ⟨j + 1, vn, by omega, by go_num, rfl, HL9, HC9, HB9⟩
                    case measure => simp [intOf]; omega
              · have hdj := decide_eq_false (show ¬ (j : Int) ≤ (m.length : Int) by omega)
                have k0 := HCr.out.c0
                obtain rfl : j = m.length + 1 := by omega
                have HEN : Hid (growB m n = decide (0 < (rst m D (m.length + 1)).length)) := HE.out.trans (rst_end HMM.out HDI.out).symm
                obtain ⟨hRl, ra, rc, rfl, _, _⟩ := id HLr.out
                go_wp2
                go_ret
                exact ⟨ret_b HEN.out.symm, HBr.out⟩
          · have hd3 : (x != (n : Int)) = true := by simpa using he
            have HE := Lib.hid (grow_no3 HR.out (.inr (by rw [HX0.out]; exact he)))
            clear he
            go_wp2
            go_ret
            exact ⟨ret_b HE.out.symm, HB1.out⟩
end Mor
end Go.Proofs.YtidfgfgokcflfaaGreat
/- Contract of FixedPrefix of the model. No conditions beyond those that each states. -/
namespace Go.Proofs.YtidfgfgokcflfaaGreat
open Go.ChangeShapes Go.WideShapes Go.ChangeAt Go.RowKit
open Go.PlainAid Plain
set_option linter.unusedVariables false
namespace Mor
open Seqs
theorem fixK_no1 {m : List (List Int)} {a n : Int} (h : growB m a = false) : fixK m a n = false := by simp [fixK, h]
theorem fixK_no2 {m : List (List Int)} {a n : Int} (h : n < 0 ∨ 256 < n) : fixK m a n = false := by
  have : decide (0 ≤ n ∧ n ≤ 256) = false := decide_eq_false (by omega)
  simp [fixK, this]
theorem fix_no {m : List (List Int)} {a n : Int} {W : World} {e : Ending} {W' : World} (h : fixK m a n = false) (hg : GivesIK [] false W e W') : GivesIK (fixV m a n) (fixK m a n) W e W' := by simp only [fixV, h]; exact hg
theorem fix_yes {m : List (List Int)} {a : Int} {n j : Nat} {W : World} {e : Ending} {W' : World} (h : growB m a = true) (hn : n ≤ 256) (hj : n ≤ (fxL m a j).length) (hg : GivesIK ((fxL m a j).take n) true W e W') : GivesIK (fixV m a n) (fixK m a n) W e W' := by
  have e1 : fixK m a n = true := by simp [fixK, h]; omega
  have e2 : fixV m a n = (fxL m a j).take n := by
    simp only [fixV, e1, if_true, Int.toNat_natCast]
    exact fx_take (by have := ((grows_of h).fx n).1; omega) hj
  rw [e1, e2]
  exact hg
theorem has_take {w : World} {base n k c : Nat} {a : Option Addr} {xs : List Int} (h : Has (Value.int .i64) 3 w base (.slice a n c) xs) (hk : k ≤ xs.length) : Has (Value.int .i64) 3 w base (.slice a k c) (xs.take k) := by
  have hl : (xs.take k).length = k := by rw [List.length_take]; omega
  show World.ownsRow _ _ _ _ _ _ _
  rw [hl]
  rcases h.2 with ⟨hv, hn⟩ | ⟨g, cap, cur, hv, hb, hg, hnc, hcm, hcs, ht⟩
  · injection hv with e1 e2 e3
    subst e1; subst e3
    obtain rfl : k = 0 := by omega
    exact World.ownsRow_nil _ _ _ _
  · injection hv with e1 e2 e3
    subst e1; subst e3
    refine ⟨by rw [List.length_map, hl, Nat.mul_one], .inr ⟨g, c, cur, rfl, hb, hg, by omega, hcm, hcs, ?_⟩⟩
    rw [Nat.mul_one] at ht ⊢
    rw [List.map_take, ← ht, List.take_take, Nat.min_eq_left hk]
theorem zeros_copy (ys : List Int) (n : Nat) (h : n ≤ ys.length) : (List.replicate n (0 : Int)).take 0 ++ (ys.take n ++ (List.replicate n (0 : Int)).drop (0 + n)) = ys.take n := by
  rw [List.take_zero, List.nil_append, Nat.zero_add, List.drop_of_length_le (by simp), List.append_nil]
set_option maxRecDepth 100000 in
set_option maxHeartbeats 2000000 in
theorem spec_fix (v : Value) (m : List (List Int)) (a n : Int) (w : World) (h : OwnedM w v m) :
    Calls Tryz.prog 61 #[v, .int .i64 a, .int .i64 n] w (GivesIK (fixV m a n) (fixK m a n) w) := by
  obtain ⟨i0, hi, hz0, hz1, hz2⟩ := info_parts Ints.infoI
  obtain ⟨an, cn, rfl⟩ := h.lies.form
  have HO := Lib.hid h
  have HM := Lib.hid h.lies
  have HB : Hid (Below w.heap.size w (w.alloc (Obj.cells #[Value.slice an m.length cn] 80))) := (Below.refl _ _).alloc (Nat.le_refl _) _
  have HC := Lib.hid (Cells1.new w 80 (.slice an m.length cn))
  clear h
  go_enter Tryz.func61, Tryz.ntmps61
  go_wp2_with fail
  refine (spec_grow _ m a _ (HO.out.below HB.out)).mono ?_
  rintro e W1 ⟨rfl, hb⟩
  have HB1 := Lib.hid (HB.out.trans (hb.mono HB.out.size))
  have HC1 := Lib.hid (HC.out.below hb)
  have HZ1 : Hid (w.heap.size + 1 ≤ W1.heap.size) := by have := HC1.out.lt; exact this
  have k0 := HC1.out.c0
  clear hb HC HB
  obtain ⟨c, hc⟩ : ∃ c, growB m a = c := ⟨_, rfl⟩
  rw [hc]
  have HGB := Lib.hid hc
  clear hc
  cases c with
  | false =>
    go_wp2
    go_ret2
    exact fix_no (fixK_no1 HGB.out) ⟨_, rfl, has_lit0 rfl HB1.out.size, HB1.out.alloc HB1.out.size _⟩
  | true =>
    by_cases hn : 0 ≤ n ∧ n ≤ 256
    case neg =>
      have HNO : Hid (n < 0 ∨ 256 < n) := by show _ ∨ _; omega
      clear hn
      go_wp2_with fail
      refine (l1In_no _ _ _ _ HNO.out).mono ?_
      rintro e w' ⟨rfl, rfl⟩
      go_wp2
      go_ret2
      exact fix_no (fixK_no2 HNO.out) ⟨_, rfl, has_lit0 rfl HB1.out.size, HB1.out.alloc HB1.out.size _⟩
    case pos =>
      obtain ⟨hn0, hn1⟩ := hn
      obtain ⟨N, rfl⟩ := Int.eq_ofNat_of_zero_le hn0
      have hN : N ≤ 256 := by omega
      have HGR := Lib.hid (grows_of HGB.out)
      obtain ⟨x0, hx0, hx1, hx2, hx3, hx4⟩ := HGR.out.fx_first
      obtain rfl := hx0
      go_wp2_with fail
      refine (l1In_yes _ _ _ _ hn0 hn1).mono ?_
      rintro e w' ⟨rfl, rfl⟩
      obtain ⟨p, o, ua, uc, rfl, hcr, hlr⟩ := rows_at (HM.out.rows.below HB1.out) hx2
      have hB2 : Below W1.heap.size W1 (W1.alloc (Obj.cells #[] 3)) := (Below.refl _ _).alloc (Nat.le_refl _) _
      have HO2 : Hid (Has (Value.int .i64) 3 (W1.alloc (Obj.cells #[] 3)) (w.heap.size + 1) (.slice (some ⟨W1.heap.size, 0, none⟩) 0 0) []) := has_lit0 rfl HZ1.out
      have HB2 := Lib.hid (HB1.out.trans (hB2.mono HB1.out.size))
      have HC2 := Lib.hid (HC1.out.below hB2)
      have HLR := Lib.hid (hlr.below hB2)
      have HZ2 : Hid (w.heap.size + 1 ≤ (W1.alloc (Obj.cells #[] 3)).heap.size) := Nat.le_trans HZ1.out hB2.size
      have k02 := HC2.out.c0
      have hcr2 := cell_kept hB2 hcr
      clear hx2 hlr hB2
      go_wp2_with (refine append_lies (enc := (Value.int .i64)) (e := 3) _ rfl _ _ 24 rfl (w.heap.size + 1) i0 (.int .i64 0) 8 Tryz.underlying24 hi hz0 hz1 hz2 rfl (.slice (some ⟨W1.heap.size, 0, none⟩) 0 0) [] rfl HO2.out (.slice ua _ uc) _ rfl HLR.out (fun _ => rfl) (by simp only [List.length_nil]; omega) (by simp only [List.length_nil]; omega) HZ2.out ?_; intro v' w1 ho hg; have HO3 := Lib.hid ho; have HC3 := Lib.hid (HC2.out.grown hg (fun e => by have := HO2.out.lt _ e; omega)); have HB3 := Lib.hid (HO2.out.frame HB2.out (by omega) hg); have HZ3 := Lib.hid (Nat.le_trans HZ2.out hg.size); clear hg ho)
      have HO4 : Hid (Has (Value.int .i64) 3 w1 (w.heap.size + 1) v' (fxL m (x0 : Int) 0)) := HO3.out
      clear HO3 k0 hcr k02 hcr2
      go_loopw [8, 9] (fun o' i' wr => ∃ (j : Nat) (vo : Value), i' = .int .i64 ((j : Int) + 1) ∧ vo = o' ∧ j ≤ 256 ∧ Hid (Has (Value.int .i64) 3 wr (w.heap.size + 1) vo (fxL m (x0 : Int) j)) ∧ Hid (Cells1 wr w.heap.size 80 (.slice (some ⟨p, o, none⟩) m.length cn)) ∧ Hid (Below w.heap.size w wr)) (fun _ i' _ => 300 - (intOf i').toNat)
      case atStart => exact ⟨0, v', rfl, rfl, by omega, HO4, HC3, HB3⟩
      case round =>
        obtain ⟨j, vo, rfl, rfl, hj, HOr, HCr, HBr⟩ := hrel
        have hfx := (HGR.out.fx j).1
        obtain ⟨oa, oc, rfl, hog⟩ := HOr.out.form
        obtain ⟨og, rfl⟩ := hog (by omega)
        have k0 := HCr.out.c0
        have HZr : Hid (w.heap.size + 1 ≤ wr.heap.size) := HCr.out.lt
        by_cases hlt : j + 1 < N ∧ (fxL m (x0 : Int) j).length < N
        · obtain ⟨hl1, hl2⟩ := hlt
          have hd := decide_eq_true (show (j : Int) + 1 < (N : Int) by omega)
          have hd1 := decide_eq_true (show ((fxL m (x0 : Int) j).length : Int) < (N : Int) by omega)
          have hdn := decide_eq_true hl2
          obtain ⟨xn, r, hxi, hxn, hr, hr8, hT⟩ := HGR.out.fx_next j
          have hcx : wr.cell? ⟨og, j + 1, none⟩ = some (.int .i64 xn) := by
            have h1 := lies_el' HOr.out.lies hxi
            rwa [Nat.zero_add] at h1
          obtain ⟨p2, o2, ua2, uc2, hpo, hcr2, hlr2⟩ := rows_at (HM.out.rows.below HBr.out) hr
          injection hpo with hpo
          injection hpo with hpo1 hpo2
          subst hpo1; subst hpo2
          have HT := Lib.hid hT
          have hj0 : (0 : Int) ≤ (j : Int) + 1 := by omega
          have hj1 : (j : Int) + 1 < ((fxL m (x0 : Int) j).length : Int) := by omega
          have hjt : ((j : Int) + 1).toNat = j + 1 := by omega
          have HLR2 := Lib.hid (hlr2.below (below_drew' _))
          have HO5 := Lib.hid (HOr.out.below (below_drew' _))
          have HC5 := Lib.hid (HCr.out.below (below_drew' _))
          have HB5 := Lib.hid (HBr.out.trans ((below_drew' _).mono HBr.out.size))
          have HZ5 : Hid (w.heap.size + 1 ≤ wr.drew.heap.size) := HZr.out
          clear hxi hr hT hlr2 HOr HBr HCr
          go_wp2
          go_still_tail 9, (by kernel_rfl)
          change wpList _ _ _ _ _ wr.drew
          generalize wr.drew = W2 at HLR2 HO5 HC5 HB5 HZ5 ⊢
          clear k0 hcx hcr2 HZr hd hd1 hdn hj0 hj1 hjt
          obtain ⟨L, hL⟩ : ∃ L, L = fxL m (x0 : Int) j := ⟨_, rfl⟩
          rw [← hL] at HO5 HT hl2 hfx ⊢
          clear hL
          go_wp2_with (refine append_lies (enc := (Value.int .i64)) (e := 3) _ rfl _ _ 24 rfl (w.heap.size + 1) i0 (.int .i64 0) 8 Tryz.underlying24 hi hz0 hz1 hz2 rfl (.slice (some ⟨og, 0, none⟩) L.length oc) L rfl HO5.out (.slice ua2 r.length uc2) r rfl HLR2.out (fun _ => rfl) (by omega) (by omega) HZ5.out ?_; intro v' w1 ho hg; have HO6 := Lib.hid ho; have HC6 := Lib.hid (HC5.out.grown hg (fun e => by have := HO5.out.lt _ e; omega)); have HB6 := Lib.hid (HO5.out.frame HB5.out (by omega) hg); clear hg ho)
          have HO7 : Hid (Has (Value.int .i64) 3 w1 (w.heap.size + 1) v' (fxL m (x0 : Int) (j + 1))) := by
            show Has _ _ _ _ _ _
            rw [HT.out]
            exact HO6.out
          go_roundw
          case rel => exact ⟨j + 1, v', by go_num, rfl, by omega, HO7, HC6, HB6⟩
          case measure => simp [intOf]; omega
        · have hNL : N ≤ (fxL m (x0 : Int) j).length := by omega
          have hdN := decide_eq_false (show ¬ ((fxL m (x0 : Int) j).length : Int) < (N : Int) by omega)
          have hdN2 := decide_eq_false (show ¬ (fxL m (x0 : Int) j).length < N by omega)
          have hcap : (N : Int) ≤ (oc : Int) := by have := HOr.out.cap; omega
          have hcapn : N ≤ oc := by omega
          have HF := Lib.hid (has_take HOr.out hNL)
          by_cases hl1 : j + 1 < N
          · have hd := decide_eq_true (show (j : Int) + 1 < (N : Int) by omega)
            go_wp2
            go_ret2
            exact fix_yes HGB.out hN hNL ⟨_, rfl, HF.out.mono (by omega), HBr.out⟩
          · have hd := decide_eq_false (show ¬ (j : Int) + 1 < (N : Int) by omega)
            go_wp2
            go_ret2
            exact fix_yes HGB.out hN hNL ⟨_, rfl, HF.out.mono (by omega), HBr.out⟩
end Mor
end Go.Proofs.YtidfgfgokcflfaaGreat
/- Contracts of IsSequence, of the model. No conditions beyond those that each states. -/
namespace Go.Proofs.YtidfgfgokcflfaaGreat
open Go.ChangeShapes Go.WideShapes Go.ChangeAt Go.RowKit
open Go.PlainAid Plain
set_option linter.unusedVariables false
namespace Seqs
theorem ends {B : Nat} {w W W' : World} (h : ∀ n, Below B w (W.drewN n)) (he : (∃ n, W' = W.drewN n) ∨ (∃ n m, W' = (W.drewN n).drewN m) := by first | exact .inl ⟨_, rfl⟩ | exact .inr ⟨_, _, rfl⟩) : Below B w W' := by
  rcases he with ⟨n, rfl⟩ | ⟨n, m, rfl⟩
  · exact h n
  · rw [World.drewN_drewN]; exact h _
set_option maxHeartbeats 1000000 in
theorem spec_is (v : Value) (b : Int) (rows : List (List Int)) (out : List Int) (w : World) (h : LiesS w v b rows out) :
    Calls Tryz.prog 73 #[v] w fun e w' => e = .returned (.bool (seqB b rows out)) ∧ Below w.heap.size w w' := by
  obtain ⟨vn, vo, rfl, hn, ho⟩ := h
  have hB : Below w.heap.size w (w.alloc (Obj.cells #[Value.int .i64 b, vn, vo] 76)) := (Below.refl _ _).alloc (Nat.le_refl _) _
  have hC := Cells3.new w 76 (.int .i64 b) vn vo
  go_enter Tryz.func73, Tryz.ntmps73
  go_wp2_with fail
  obtain ⟨W, hW⟩ : ∃ W, W = w.alloc (Obj.cells #[Value.int .i64 b, vn, vo] 76) := ⟨_, rfl⟩
  rw [← hW] at hB hC ⊢
  obtain ⟨a, ca, rfl, hl, hc⟩ := (hn.below hB).row
  obtain ⟨hlo, ao, co, rfl, _, hco⟩ := ho.below hB
  have HC := Lib.hid hc
  have HO := Lib.hid hco
  have HB : Hid (∀ n, Below w.heap.size w (W.drewN n)) := fun n => below_drewN hB n
  have k0 := hC.c0
  have k1 := hC.c1
  have k2 := hC.c2
  clear hc hco hB hC hW hn ho
  obtain ⟨z, hz⟩ : ∃ z, z = w.heap.size := ⟨_, rfl⟩
  rw [← hz] at k0 k1 k2 ⊢
  have HZ := Lib.hid hz
  clear hz
  go_loopw [3] (fun i' wr => ∃ i : Nat, i ≤ rows.length ∧ i' = .int .i64 i ∧ Hid (∀ (j : Nat) (r : List Int), j < i → rows[j]? = some r → (r.length : Int) = b ∧ ∀ (k : Nat) (x : Int), r[k]? = some x → 0 ≤ x ∧ x < (rows.length : Int)) ∧ ∃ n, wr = W.drewN n) (fun i' _ => rows.length - (intOf i').toNat)
  case atStart => exact ⟨0, Nat.zero_le _, rfl, fun j r h => by omega, 0, rfl⟩
  case round =>
    obtain ⟨i, hi, rfl, HI, n, rfl⟩ := hrel
    by_cases hlt : i < rows.length
    · obtain ⟨r, hr⟩ : ∃ r, rows[i]? = some r := ⟨_, List.getElem?_eq_getElem hlt⟩
      obtain ⟨p, o, u, rfl, hx, hlx⟩ := HC.out i r hr
      obtain ⟨hrl, a', ca', rfl, _, hcr⟩ := hlx
      have HX := Lib.hid hcr
      have HR := Lib.hid hr
      clear hcr hr
      by_cases hb : (r.length : Int) = b
      · have HBE := Lib.hid hb
        have hd0 : ((r.length : Int) != b) = false := by rw [hb]; simp
        clear hb
        go_wp2
        go_quiet (fail)
        go_wp2
        go_loopw [4] (fun k' wr => ∃ k : Nat, k ≤ r.length ∧ k' = .int .i64 k ∧ Hid (∀ (j : Nat) (x : Int), j < k → r[j]? = some x → 0 ≤ x ∧ x < (rows.length : Int)) ∧ ∃ n, wr = W.drewN n) (fun k' _ => r.length - (intOf k').toNat)
        case atStart => exact ⟨0, Nat.zero_le _, rfl, fun j x h => by omega, _, World.drewN_drewN _ _ _⟩
        case round =>
          obtain ⟨k, hk, rfl, HK, m, rfl⟩ := hrel
          by_cases hlk : k < r.length
          · obtain ⟨x, hrx⟩ : ∃ x, r[k]? = some x := ⟨_, List.getElem?_eq_getElem hlk⟩
            obtain ⟨q, s, rfl, hcx⟩ := HX.out k x hrx
            have HXX := Lib.hid hrx
            clear hrx
            by_cases hx0 : x < 0
            · have hd := decide_eq_true hx0
              have HE := Lib.hid (not_seq_cell (b := b) (out := out) HR.out HXX.out (.inl hx0))
              go_wp2
              go_quiet (fail)
              go_wp2
              go_ret
              exact ⟨ret_b HE.out.symm, ends HB.out⟩
            · by_cases hx1 : (rows.length : Int) ≤ x
              · have hd := decide_eq_false hx0
                have hd1 := decide_eq_true hx1
                have HE := Lib.hid (not_seq_cell (b := b) (out := out) HR.out HXX.out (.inr hx1))
                go_wp2
                go_quiet (fail)
                go_wp2
                go_ret
                exact ⟨ret_b HE.out.symm, ends HB.out⟩
              · have hd := decide_eq_false hx0
                have hd1 := decide_eq_false hx1
                have HN : Hid (∀ (j : Nat) (x : Int), j < k + 1 → r[j]? = some x → 0 ≤ x ∧ x < (rows.length : Int)) := fun j y hj hy => by
                  by_cases e : j = k
                  · subst e
                    obtain rfl := Option.some.inj (HXX.out.symm.trans hy)
                    omega
                  · exact HK.out j y (by omega) hy
                go_wp2
                go_quiet (fail)
                go_wp2
                go_roundw
                case rel => exact ⟨k + 1, by omega, by go_num, HN, _, rfl⟩
                case measure => simp [intOf]; omega
          · have HN : Hid (∀ (j : Nat) (r : List Int), j < i + 1 → rows[j]? = some r → (r.length : Int) = b ∧ ∀ (k : Nat) (x : Int), r[k]? = some x → 0 ≤ x ∧ x < (rows.length : Int)) := fun j y hj hy => by
              by_cases e : j = i
              · subst e
                obtain rfl := Option.some.inj (HR.out.symm.trans hy)
                exact ⟨HBE.out, fun k' x hx => HK.out k' x (by have := (List.getElem?_eq_some_iff.1 hx).1; omega) hx⟩
              · exact HI.out j y (by omega) hy
            go_wp2
            go_roundw
            case rel => exact ⟨i + 1, by omega, by go_num, HN, _, rfl⟩
            case measure => simp [intOf]; omega
      · have HE := Lib.hid (not_seq_row (out := out) HR.out hb)
        have hd0 : ((r.length : Int) != b) = true := by simpa using hb
        clear hb
        go_wp2
        go_quiet (fail)
        go_wp2
        go_ret
        exact ⟨ret_b HE.out.symm, ends HB.out⟩
    · have HRR : Hid (∀ (j : Nat) (r : List Int), rows[j]? = some r → (r.length : Int) = b ∧ ∀ (k : Nat) (x : Int), r[k]? = some x → 0 ≤ x ∧ x < (rows.length : Int)) := fun j r hr => HI.out j r (by have := (List.getElem?_eq_some_iff.1 hr).1; omega) hr
      clear HI HC
      go_wp2
      go_loopw [5] (fun i' wr => ∃ i : Nat, i ≤ out.length ∧ i' = .int .i64 i ∧ Hid (∀ (j : Nat) (x : Int), j < i → out[j]? = some x → 0 ≤ x ∧ x ≤ 3) ∧ ∃ n, wr = W.drewN n) (fun i' _ => out.length - (intOf i').toNat)
      case atStart => exact ⟨0, Nat.zero_le _, rfl, fun j r h => by omega, _, rfl⟩
      case round =>
        obtain ⟨i, hi, rfl, HI, n, rfl⟩ := hrel
        by_cases hlt : i < out.length
        · obtain ⟨x, hox⟩ : ∃ x, out[i]? = some x := ⟨_, List.getElem?_eq_getElem hlt⟩
          obtain ⟨q, s, rfl, hcx⟩ := HO.out i x hox
          have HXX := Lib.hid hox
          clear hox
          by_cases hin : 0 ≤ x ∧ x ≤ 3
          · obtain ⟨hx0, hx3⟩ := hin
            have HN : Hid (∀ (j : Nat) (x : Int), j < i + 1 → out[j]? = some x → 0 ≤ x ∧ x ≤ 3) := fun j y hj hy => by
              by_cases e : j = i
              · subst e
                obtain rfl := Option.some.inj (HXX.out.symm.trans hy)
                omega
              · exact HI.out j y (by omega) hy
            go_wp2_with fail
            refine (l1In_yes _ _ _ _ hx0 hx3).mono ?_
            rintro e w' ⟨rfl, rfl⟩
            go_wp2
            go_roundw
            case rel => exact ⟨i + 1, by omega, by go_num, HN, _, rfl⟩
            case measure => simp [intOf]; omega
          · have hno : x < 0 ∨ 3 < x := by omega
            have HE := Lib.hid (not_seq_out (b := b) (rows := rows) HXX.out hno)
            have HNO := Lib.hid hno
            clear hin hno
            go_wp2_with fail
            refine (l1In_no _ _ _ _ HNO.out).mono ?_
            rintro e w' ⟨rfl, rfl⟩
            go_wp2
            go_ret
            exact ⟨ret_b HE.out.symm, ends HB.out⟩
        · have HOO : Hid (∀ (j : Nat) (x : Int), out[j]? = some x → 0 ≤ x ∧ x ≤ 3) := fun j r hr => HI.out j r (by have := (List.getElem?_eq_some_iff.1 hr).1; omega) hr
          clear HI HO
          by_cases hb : 2 ≤ b ∧ b ≤ 4
          · obtain ⟨hb1, hb2⟩ := hb
            by_cases hlen : 1 ≤ rows.length ∧ rows.length ≤ 16
            · obtain ⟨hl1, hl2⟩ := hlen
              by_cases heq : out.length = rows.length
              · have HE := Lib.hid (seqB_yes (isSeq_of hb1 hb2 hl1 hl2 heq HRR.out HOO.out))
                have hd : ((out.length : Int) == (rows.length : Int)) = true := by rw [heq]; simp
                clear heq
                go_wp2_with fail
                refine (l1In_yes _ _ _ _ hb1 hb2).mono ?_
                rintro e w' ⟨rfl, rfl⟩
                go_wp2_with fail
                refine (l1In_yes _ _ _ _ (by omega) (by omega)).mono ?_
                rintro e w' ⟨rfl, rfl⟩
                go_wp2
                go_ret
                exact ⟨ret_b HE.out.symm, ends HB.out⟩
              · have HE := Lib.hid (seqB_no (b := b) fun h => heq h.2.2.2.2.1)
                have hd : ((out.length : Int) == (rows.length : Int)) = false := by simp; omega
                clear heq
                go_wp2_with fail
                refine (l1In_yes _ _ _ _ hb1 hb2).mono ?_
                rintro e w' ⟨rfl, rfl⟩
                go_wp2_with fail
                refine (l1In_yes _ _ _ _ (by omega) (by omega)).mono ?_
                rintro e w' ⟨rfl, rfl⟩
                go_wp2
                go_ret
                exact ⟨ret_b HE.out.symm, ends HB.out⟩
            · have HE := Lib.hid (seqB_no (b := b) (out := out) fun h => hlen ⟨h.2.2.1, h.2.2.2.1⟩)
              have hno : (rows.length : Int) < 1 ∨ 16 < (rows.length : Int) := by omega
              have HNO := Lib.hid hno
              clear hlen hno
              go_wp2_with fail
              refine (l1In_yes _ _ _ _ hb1 hb2).mono ?_
              rintro e w' ⟨rfl, rfl⟩
              go_wp2_with fail
              refine (l1In_no _ _ _ _ HNO.out).mono ?_
              rintro e w' ⟨rfl, rfl⟩
              go_wp2
              go_ret
              exact ⟨ret_b HE.out.symm, ends HB.out⟩
          · have HE := Lib.hid (seqB_no (rows := rows) (out := out) fun h => hb ⟨h.1, h.2.1⟩)
            have hno : b < 2 ∨ 4 < b := by omega
            have HNO := Lib.hid hno
            clear hb hno
            go_wp2_with fail
            refine (l1In_no _ _ _ _ HNO.out).mono ?_
            rintro e w' ⟨rfl, rfl⟩
            go_wp2
            go_ret
            exact ⟨ret_b HE.out.symm, ends HB.out⟩
end Seqs
end Go.Proofs.YtidfgfgokcflfaaGreat
/- Contracts of IsSequence, of the program. No conditions beyond those that each states. -/
namespace Go.Proofs.YtidfgfgokcflfaaGreat
open Go.ChangeShapes Go.WideShapes Go.ChangeAt Go.RowKit
open Go.PlainAid Plain
set_option linter.unusedVariables false
namespace Seqs
end Seqs
end Go.Proofs.YtidfgfgokcflfaaGreat
/- Contracts of IsSteady, StateAfter and TermAt, of the program and of the model. No conditions beyond those that each states. -/
namespace Go.Proofs.YtidfgfgokcflfaaGreat
open Go.ChangeShapes Go.WideShapes Go.ChangeAt Go.RowKit
open Go.PlainAid Plain
set_option linter.unusedVariables false
namespace Seqs
theorem IsSeq.first {b : Int} {rows : List (List Int)} {out : List Int} (h : IsSeq b rows out) : ∃ r, rows[0]? = some r ∧ r[0]? = some (nextS rows 0 0) := by
  obtain ⟨r, h1, h2, _⟩ := h.next (s := 0) (d := 0) (Int.le_refl _) (by have := h.2.2.1; omega) (Int.le_refl _) (by have := h.1; omega)
  exact ⟨r, h1, h2⟩
end Seqs
end Go.Proofs.YtidfgfgokcflfaaGreat
/- Contracts of StateAfter, of the program and of the model. No conditions beyond those that each states. -/
namespace Go.Proofs.YtidfgfgokcflfaaGreat
open Go.ChangeShapes Go.WideShapes Go.ChangeAt Go.RowKit
open Go.PlainAid Plain
set_option linter.unusedVariables false
namespace Seqs
theorem spec_after_no (v : Value) (b : Int) (rows : List (List Int)) (out : List Int) (w : World) (h : LiesS w v b rows out) (u : Value) (ds : List Int) (hu : Lies (Value.int .i64) w u ds) (hno : seqB b rows out = false ∨ areD b ds = false) :
    Calls Tryz.prog 91 #[v, u] w fun e w' => e = .returned (.int .i64 (-1)) ∧ Below w.heap.size w w' := by
  have HS := Lib.hid h
  obtain ⟨an, cn, ao, co, rfl⟩ := h.form
  clear h
  have hB : Below w.heap.size w (w.alloc (Obj.cells #[Value.int .i64 b, Value.slice an rows.length cn, Value.slice ao out.length co] 76)) := (Below.refl _ _).alloc (Nat.le_refl _) _
  have HC := Lib.hid (Cells3.new w 76 (.int .i64 b) (.slice an rows.length cn) (.slice ao out.length co))
  have HB := Lib.hid hB
  clear hB
  have HU := Lib.hid hu
  obtain ⟨_, au, cu, rfl, _, _⟩ := hu
  cases hs : seqB b rows out with
  | false =>
    have HQ := Lib.hid hs
    clear hs hno
    go_enter Tryz.func91, Tryz.ntmps91
    go_wp2_with fail
    refine (spec_is _ b rows out _ (HS.out.below HB.out)).mono ?_
    rintro e W1 ⟨rfl, b1⟩
    have HB1 := Lib.hid (HB.out.trans (b1.mono HB.out.size))
    rw [HQ.out]
    clear b1
    go_wp2
    go_ret
    exact ⟨rfl, HB1.out⟩
  | true =>
    have HQ := Lib.hid hs
    have HA : Hid (areD b ds = false) := by
      rcases hno with h1 | h1
      · rw [hs] at h1; cases h1
      · exact h1
    clear hs hno
    go_enter Tryz.func91, Tryz.ntmps91
    go_wp2_with fail
    refine (spec_is _ b rows out _ (HS.out.below HB.out)).mono ?_
    rintro e W1 ⟨rfl, b1⟩
    have HB1 := Lib.hid (HB.out.trans (b1.mono HB.out.size))
    have HC1 := Lib.hid (HC.out.below b1)
    rw [HQ.out]
    clear b1
    have k0 := HC1.out.c0
    have k1 := HC1.out.c1
    have k2 := HC1.out.c2
    go_wp2_with fail
    refine (Digits.spec_are _ ds b _ (HU.out.below HB1.out)).mono ?_
    rintro e w' ⟨rfl, rfl⟩
    rw [HA.out]
    go_wp2
    go_ret
    exact ⟨rfl, HB1.out⟩
theorem spec_after_yes (v : Value) (b : Int) (rows : List (List Int)) (out : List Int) (w : World) (h : LiesS w v b rows out) (u : Value) (ds : List Int) (hu : Lies (Value.int .i64) w u ds) (hs : seqB b rows out = true) (ha : areD b ds = true) :
    Calls Tryz.prog 91 #[v, u] w fun e w' => e = .returned (.int .i64 (afterS rows ds)) ∧ Below w.heap.size w w' := by
  have HS := Lib.hid h
  obtain ⟨an, cn, ao, co, rfl⟩ := h.form
  clear h
  have hB : Below w.heap.size w (w.alloc (Obj.cells #[Value.int .i64 b, Value.slice an rows.length cn, Value.slice ao out.length co] 76)) := (Below.refl _ _).alloc (Nat.le_refl _) _
  have HC := Lib.hid (Cells3.new w 76 (.int .i64 b) (.slice an rows.length cn) (.slice ao out.length co))
  have HB := Lib.hid hB
  clear hB
  have HU := Lib.hid hu
  obtain ⟨hul, au, cu, rfl, _, _⟩ := hu
  have HQ := Lib.hid hs
  have HA := Lib.hid ha
  have HV := Lib.hid (seqB_out hs)
  have HD := Lib.hid (areD_out ha).2.2.2
  have HN0 := Lib.hid (seqB_out hs).2.2.1
  clear hs ha
  go_enter Tryz.func91, Tryz.ntmps91
  go_wp2_with fail
  refine (spec_is _ b rows out _ (HS.out.below HB.out)).mono ?_
  rintro e W1 ⟨rfl, b1⟩
  have HB1 := Lib.hid (HB.out.trans (b1.mono HB.out.size))
  have HC1 := Lib.hid (HC.out.below b1)
  rw [HQ.out]
  clear b1
  have k0 := HC1.out.c0
  have k1 := HC1.out.c1
  have k2 := HC1.out.c2
  go_wp2_with fail
  refine (Digits.spec_are _ ds b _ (HU.out.below HB1.out)).mono ?_
  rintro e w' ⟨rfl, rfl⟩
  rw [HA.out]
  obtain ⟨hN, _⟩ := (HS.out.below HB1.out).cells
  obtain ⟨_, au', cu', hua, _, huc⟩ := HU.out.below HB1.out
  injection hua with hua1 _ _
  subst hua1
  have HN := Lib.hid hN
  have HUC := Lib.hid huc
  have HBn : Hid (∀ n, Below w.heap.size w (W1.drewN n)) := fun n => below_drewN HB1.out n
  clear hN huc
  go_wp2
  go_loopw [5, 6] (fun s' i' wr => ∃ i sn : Nat, i ≤ ds.length ∧ i' = .int .i64 i ∧ s' = .int .i64 sn ∧ Hid ((sn : Int) = afterS rows (ds.take i)) ∧ ∃ n, wr = W1.drewN n) (fun _ i' _ => ds.length - (intOf i').toNat)
  case atStart => exact ⟨0, 0, Nat.zero_le _, rfl, rfl, rfl, 0, rfl⟩
  case round =>
    obtain ⟨i, sn, hi, rfl, rfl, HI, n, rfl⟩ := hrel
    by_cases hlt : i < ds.length
    · obtain ⟨dn, yn, hd, hsn, hyn, hy, r, hr, hry⟩ := HV.out.after_step HD.out hlt HI.out
      obtain ⟨g, t, rfl, hcd⟩ := HUC.out i _ hd
      obtain ⟨p, o, a', c', rfl, hcell, hrow⟩ := HN.out sn r hr
      obtain ⟨q, s, rfl, hcy⟩ := hrow dn _ hry
      have hdn := (List.getElem?_eq_some_iff.1 hry).1
      have HY := Lib.hid hy
      clear hd hy hr hry hrow
      go_wp2
      go_quiet (fail)
      go_wp2
      go_roundw
      case rel => exact ⟨i + 1, yn, by omega, by go_num, rfl, HY.out, _, rfl⟩
      case measure => simp [intOf]; omega
    · have HE : Hid ((sn : Int) = afterS rows ds) := by
        have := HI.out
        rw [List.take_of_length_le (by omega)] at this
        exact this
      go_wp2
      go_ret
      exact ⟨ret_i HE.out, HBn.out _⟩
theorem spec_after (v : Value) (b : Int) (rows : List (List Int)) (out : List Int) (w : World) (h : LiesS w v b rows out) (u : Value) (ds : List Int) (hu : Lies (Value.int .i64) w u ds) :
    Calls Tryz.prog 91 #[v, u] w fun e w' => e = .returned (.int .i64 (afterV b rows out (areD b ds) ds)) ∧ Below w.heap.size w w' := by
  cases hs : seqB b rows out with
  | false => rw [afterV, if_neg (by simp [hs])]; exact spec_after_no v b rows out w h u ds hu (.inl hs)
  | true =>
    cases ha : areD b ds with
    | false => rw [afterV, if_neg (by simp)]; exact spec_after_no v b rows out w h u ds hu (.inr ha)
    | true => rw [afterV, if_pos ⟨hs, rfl⟩]; exact spec_after_yes v b rows out w h u ds hu hs ha
end Seqs
end Go.Proofs.YtidfgfgokcflfaaGreat
/- Contracts of TermAt, of the program and of the model. No conditions beyond those that each states. -/
namespace Go.Proofs.YtidfgfgokcflfaaGreat
open Go.ChangeShapes Go.WideShapes Go.ChangeAt Go.RowKit
open Go.PlainAid Plain
set_option linter.unusedVariables false
namespace Seqs
theorem cell_below {w w' : World} {p : Addr} {x : Value} (h : w.cell? p = some x) (hb : Below w.heap.size w w') : w'.cell? p = some x := (hb.cell (World.block_lt_of_cell? w p h)).trans h
open Digits
/-- May the term be asked for? -/
def askB (b : Int) (rows : List (List Int)) (out : List Int) (n : Int) : Bool := seqB b rows out && decide (0 ≤ n) && decide (n < powV b 16)
/-- The term n, -1 where it may not be asked for. -/
def termV (b : Int) (rows : List (List Int)) (out : List Int) (n : Int) : Int := if askB b rows out n = true then out.getD (afterS rows (digV n b)).toNat 0 else -1
theorem dig_ok {b : Int} {rows : List (List Int)} {out : List Int} (h : IsSeq b rows out) (n : Int) : (∀ d ∈ digV n b, 0 ≤ d ∧ d < b) ∧ areD b (digV n b) = true := by
  have hm : ∀ d ∈ digV n b, 0 ≤ d ∧ d < b := by
    intro d hd
    unfold digV at hd
    split at hd
    · have := digs_mem n.toNat b.toNat (by have := h.1; omega) d hd
      have := h.1
      omega
    · cases hd
  exact ⟨hm, areD_yes h.1 h.2.1 (digV_len n b) hm⟩
set_option maxHeartbeats 1000000 in
theorem spec_term_yes (v : Value) (b : Int) (rows : List (List Int)) (out : List Int) (w : World) (h : LiesS w v b rows out) (n : Int) (hq : seqB b rows out = true) (h0 : 0 ≤ n) (h1 : n < powV b 16) :
    Calls Tryz.prog 74 #[v, .int .i64 n] w fun e w' => e = .returned (.int .i64 (out.getD (afterS rows (digV n b)).toNat 0)) ∧ Below w.heap.size w w' := by
  have HS := Lib.hid h
  obtain ⟨an, cn, ao, co, rfl⟩ := h.form
  clear h
  have hB : Below w.heap.size w (w.alloc (Obj.cells #[Value.int .i64 b, Value.slice an rows.length cn, Value.slice ao out.length co] 76)) := (Below.refl _ _).alloc (Nat.le_refl _) _
  have HC := Lib.hid (Cells3.new w 76 (.int .i64 b) (.slice an rows.length cn) (.slice ao out.length co))
  have HB := Lib.hid hB
  clear hB
  have hv := seqB_out hq
  obtain ⟨hdm, hda⟩ := dig_ok hv n
  obtain ⟨sn, hsn, hsl, hso⟩ := hv.term_at hdm
  obtain ⟨t, ht⟩ : ∃ t, t = out.getD (afterS rows (digV n b)).toNat 0 := ⟨_, rfl⟩
  rw [← ht] at hso ⊢
  have HSN := Lib.hid hsn
  have HQ := Lib.hid hq
  have HDA := Lib.hid hda
  have HSO := Lib.hid hso
  have HP := Lib.hid (fun w => spec_pow_any b 16 w)
  obtain ⟨p, hp⟩ : ∃ p, p = powV b 16 := ⟨_, rfl⟩
  rw [← hp] at HP h1
  clear hv hda hsn ht hdm hq hso hp
  have hd0 := decide_eq_false (show ¬ n < 0 by omega)
  have hd1 := decide_eq_false (show ¬ p ≤ n by omega)
  go_enter Tryz.func74, Tryz.ntmps74
  go_wp2_with fail
  refine (spec_is _ b rows out _ (HS.out.below HB.out)).mono ?_
  rintro e W1 ⟨rfl, b1⟩
  have HB1 := Lib.hid (HB.out.trans (b1.mono HB.out.size))
  have HC1 := Lib.hid (HC.out.below b1)
  rw [HQ.out]
  clear b1 HB HC
  have k0 := HC1.out.c0
  have k1 := HC1.out.c1
  have k2 := HC1.out.c2
  go_wp2_with fail
  refine (HP.out _).mono ?_
  rintro e w' ⟨rfl, rfl⟩
  go_wp2_with fail
  obtain ⟨_, hO⟩ := (HS.out.below HB1.out).cells
  obtain ⟨q, s, rfl, hct⟩ := hO sn t HSO.out
  clear hO k0 k1 k2
  have hs0 : (0 : Int) ≤ (sn : Int) := Int.natCast_nonneg _
  have hs1 : (sn : Int) < (out.length : Int) := by omega
  have bd := below_drew' W1
  have HCd := Lib.hid (HC1.out.below bd)
  have HBd := Lib.hid (HB1.out.trans (bd.mono HB1.out.size))
  have hcd := Lib.hid (cell_below hct bd)
  obtain ⟨Wd, hWd⟩ : ∃ W, W = W1.drew := ⟨_, rfl⟩
  rw [← hWd] at HCd HBd hcd
  clear bd hct
  go_region_held3 (fun w' => w'.cell? ⟨w.heap.size, 0, none⟩ = some (.int .i64 b) ∧ w'.cell? ⟨w.heap.size, 1, none⟩ = some (.slice an rows.length cn) ∧ w'.cell? ⟨w.heap.size, 2, none⟩ = some (.slice (some ⟨q, s, none⟩) out.length co) ∧ w'.cell? ⟨q, s + sn, none⟩ = some (.int .i64 t))
    (first | (rw [← hWd]; exact ⟨HCd.out.c0, HCd.out.c1, HCd.out.c2, hcd.out⟩) | exact ⟨(HCd.out.below bt).c0, (HCd.out.below bt).c1, (HCd.out.below bt).c2, cell_below hcd.out bt⟩ | exact ⟨((HCd.out.below bt).below bu).c0, ((HCd.out.below bt).below bu).c1, ((HCd.out.below bt).below bu).c2, cell_below (cell_below hcd.out bt) bu⟩)
    (first | (go_at_call 92; rw [← hWd]; refine (spec_digits_any n b _).mono ?_; rintro e Wt ⟨vt, rfl, ht, bt⟩) | (go_at_call 91; refine (spec_after_yes _ b rows out _ (HS.out.below (HBd.out.trans (bt.mono HBd.out.size))) _ (digV n b) ht.lies HQ.out HDA.out).mono ?_; rintro e Wu ⟨rfl, bu⟩; rw [← HSN.out]))
  have HBe := Lib.hid ((HBd.out.trans (bt.mono HBd.out.size)).trans (bu.mono (HBd.out.trans (bt.mono HBd.out.size)).size))
  clear bt bu ht hWd HBd HCd hcd
  go_wp2
  go_ret
  exact ⟨rfl, HBe.out⟩
theorem spec_term_no (v : Value) (b : Int) (rows : List (List Int)) (out : List Int) (w : World) (h : LiesS w v b rows out) (n : Int) (hno : askB b rows out n = false) :
    Calls Tryz.prog 74 #[v, .int .i64 n] w fun e w' => e = .returned (.int .i64 (-1)) ∧ Below w.heap.size w w' := by
  have HS := Lib.hid h
  obtain ⟨an, cn, ao, co, rfl⟩ := h.form
  clear h
  have hB : Below w.heap.size w (w.alloc (Obj.cells #[Value.int .i64 b, Value.slice an rows.length cn, Value.slice ao out.length co] 76)) := (Below.refl _ _).alloc (Nat.le_refl _) _
  have HC := Lib.hid (Cells3.new w 76 (.int .i64 b) (.slice an rows.length cn) (.slice ao out.length co))
  have HB := Lib.hid hB
  clear hB
  by_cases h0 : n < 0
  · have hd0 := decide_eq_true h0
    clear hno h0
    go_enter Tryz.func74, Tryz.ntmps74
    go_wp2
    go_ret
    exact ⟨rfl, HB.out⟩
  · have hd0 := decide_eq_false h0
    cases hq : seqB b rows out with
    | false =>
      have HQ := Lib.hid hq
      clear hq hno
      go_enter Tryz.func74, Tryz.ntmps74
      go_wp2_with fail
      refine (spec_is _ b rows out _ (HS.out.below HB.out)).mono ?_
      rintro e W1 ⟨rfl, b1⟩
      have HB1 := Lib.hid (HB.out.trans (b1.mono HB.out.size))
      have HC1 := Lib.hid (HC.out.below b1)
      rw [HQ.out]
      clear b1 HB HC
      go_wp2
      go_ret
      exact ⟨rfl, HB1.out⟩
    | true =>
      have HQ := Lib.hid hq
      have hp : powV b 16 ≤ n := by
        simp only [askB, hq, Bool.true_and, Bool.and_eq_false_iff, decide_eq_false_iff_not] at hno
        omega
      have HP := Lib.hid (fun w => spec_pow_any b 16 w)
      obtain ⟨p, hpp⟩ : ∃ p, p = powV b 16 := ⟨_, rfl⟩
      rw [← hpp] at HP hp
      have hd1 := decide_eq_true hp
      clear hq hno hpp
      go_enter Tryz.func74, Tryz.ntmps74
      go_wp2_with fail
      refine (spec_is _ b rows out _ (HS.out.below HB.out)).mono ?_
      rintro e W1 ⟨rfl, b1⟩
      have HB1 := Lib.hid (HB.out.trans (b1.mono HB.out.size))
      have HC1 := Lib.hid (HC.out.below b1)
      rw [HQ.out]
      clear b1 HB HC
      have k0 := HC1.out.c0
      have k1 := HC1.out.c1
      have k2 := HC1.out.c2
      go_wp2_with fail
      refine (HP.out _).mono ?_
      rintro e w' ⟨rfl, rfl⟩
      go_wp2
      go_ret
      exact ⟨rfl, HB1.out⟩
theorem spec_termat (v : Value) (b : Int) (rows : List (List Int)) (out : List Int) (w : World) (h : LiesS w v b rows out) (n : Int) :
    Calls Tryz.prog 74 #[v, .int .i64 n] w fun e w' => e = .returned (.int .i64 (termV b rows out n)) ∧ Below w.heap.size w w' := by
  cases hs : askB b rows out n with
  | false => rw [termV, if_neg (by simp [hs])]; exact spec_term_no v b rows out w h n hs
  | true =>
    rw [termV, if_pos hs]
    simp only [askB, Bool.and_eq_true, decide_eq_true_eq] at hs
    exact spec_term_yes v b rows out w h n hs.1.1 hs.1.2 hs.2
end Seqs
end Go.Proofs.YtidfgfgokcflfaaGreat
