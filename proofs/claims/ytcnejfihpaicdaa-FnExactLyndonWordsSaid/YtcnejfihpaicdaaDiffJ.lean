/- Contracts of the program's differentWords, FactorsOf and CountFactors. No conditions beyond those that each states. -/
import Derived.Test.YtcnejfihpaicdaaDiffI
import Derived.Test.YtcnejfihpaicdaaFacVal2
import Derived.Test.YtcnejfihpaicdaaWord
import Derived.Test.YtcnejfihpaicdaaDigits
namespace Go.Proofs.Ytcnejfihpaicdaa
open Go.ChangeShapes Go.WideShapes Go.ChangeAt Go.RowKit
open Go.PlainAid Plain
set_option linter.unusedVariables false
namespace Fac
open Seqs
/-- The slice of parts, its first i elements words of the call's own. -/
structure Half (w0 w : World) (a : Option Addr) (n c : Nat) (us : List Value) (rows : List (List Int)) (D : List (Part w0)) (hi : Nat) : Prop where
  top : Has id 22 w w0.heap.size (.slice a n c) (us ++ D.map Part.v)
  rows : OwnRows w w0.heap.size hi us rows
  lo : w0.heap.size ≤ hi
  le : hi ≤ w.heap.size
  below : Below w0.heap.size w0 w
theorem has_id {w0 w : World} {base : Nat} {v : Value} {D : List (Part w0)} (h : Has Part.v 22 w base v D) : Has id 22 w base v (D.map Part.v) := by
  show World.ownsRow _ _ _ _ _ _ _
  rw [List.length_map, List.map_id]
  exact h
theorem Half.start {w0 w : World} {a : Option Addr} {n c : Nat} {D : List (Part w0)} (h : Has Part.v 22 w w0.heap.size (.slice a n c) D) (hb : Below w0.heap.size w0 w) : Half w0 w a n c [] [] D w0.heap.size :=
  ⟨has_id h, OwnRows.nil _ _ _, Nat.le_refl _, hb.size, hb⟩
theorem Half.step {w0 w : World} {g n c : Nat} {us : List Value} {rows : List (List Int)} {x : Part w0} {D : List (Part w0)} {hi : Nat} (h : Half w0 w (some ⟨g, 0, none⟩) n c us rows (x :: D) hi) {w' : World} {v' : Value} (hv : Has (Value.int .i64) 3 w' w.heap.size v' x.k) (hb : Below w.heap.size w w') :
    Half w0 (w'.setCell ⟨g, us.length, none⟩ v') (some ⟨g, 0, none⟩) n c (us ++ [v']) (rows ++ [x.k]) D w'.heap.size ∧ (w'.cell? ⟨g, us.length, none⟩ = some x.v) ∧ w'.frozen? ⟨g, us.length, none⟩ = false := by
  have ht := h.top.below hb
  have hn : n = (us ++ (x :: D).map Part.v).length := (has_cap ht).1
  have hst := has_store (enc := id) ht hn us.length v'
  have h' : w'.ownsRow w0.heap.size 22 1 (.slice (some ⟨g, 0, none⟩) (us ++ (x :: D).map Part.v).length c) (us ++ (x :: D).map Part.v).length ((us ++ (x :: D).map Part.v).map id) := by rw [hn] at ht; exact ht
  have hrows := (h.rows.below hb).snoc ((OwnI.of_gives hv).mono h.le (Nat.le_refl _) (Nat.le_refl _)) h.lo (Nat.le_trans h.le hb.size)
  refine ⟨⟨?_, hrows.top_grown ht hst.2 |>.mono (by simp) (by simp), Nat.le_trans h.lo (Nat.le_trans h.le hb.size), by simp, ?_⟩, ?_, h'.frozenAt _⟩
  · have := hst.1
    rw [List.map_cons, List.set_append_right _ _ (Nat.le_refl _), Nat.sub_self, List.set_cons_zero] at this
    rw [List.append_assoc]
    exact this
  · exact (h.below.trans (hb.mono h.below.size)).grown hst.2 (Nat.le_trans h.below.size hb.size) (fun k hk => by cases hk; exact (ht.lt g rfl).1)
  · have hlt : us.length < (us ++ (x :: D).map Part.v).length := by simp
    have := h'.cellAt us.length (by omega)
    rw [this]
    simp
set_option maxRecDepth 100000 in
set_option maxHeartbeats 2000000 in
theorem diff (v : Value) (w0 w : World) (L : List (Part w0)) (hb : Below w0.heap.size w0 w) (hv : Has Part.v 22 w w0.heap.size v L) (hn : L.length ≤ 100000) (hk : ∀ x ∈ L, x.k.length ≤ 1048576) :
    Calls Try.prog 54 #[v] w fun e w' => ∃ v' us, e = .returned v' ∧ OwnR w' w0.heap.size w'.heap.size v' us (sdl (L.map Part.k)) ∧ Below w0.heap.size w0 w' := by
  have HK := Lib.hid hk
  have HV := Lib.hid hv
  have HB := Lib.hid hb
  clear hk hv hb
  go_enter Try.func54, Try.ntmps54
  go_wp2_with fail
  refine (sort_any v w0 _ L HB.out HV.out hn).mono ?_
  rintro e W1 ⟨rfl, L', hperm, hpw, hv1, hb1⟩
  have HP := Lib.hid hperm
  have hlen : L'.length = L.length := hperm.length_eq
  have HD := Lib.hid (dd_sdl (key := Part.k) hpw (hperm.map Part.k))
  have HDK : Hid (∀ x ∈ dd Part.k L', x.k.length ≤ 1048576) := fun x hx => HK.out x (hperm.mem_iff.1 (dd_mem _ _ hx))
  have HB1 := Lib.hid hb1
  have HV1 := Lib.hid hv1
  have hddl := dd_len L'
  clear hperm hpw hb1 hv1
  go_wp2_with fail
  refine (compact v w0 _ L' HB1.out HV1.out (by omega)).mono ?_
  rintro e W2 ⟨v2, rfl, hv2, hb2⟩
  obtain ⟨D, hDD⟩ : ∃ D, D = dd Part.k L' := ⟨_, rfl⟩
  rw [← hDD] at HD HDK hv2 hddl
  obtain ⟨a, c, rfl, hag⟩ := hv2.form
  have HH := Lib.hid (Half.start hv2 hb2)
  have hDl : D.length ≤ 100000 := by omega
  clear hDD hv2 hb2 hlen hddl
  go_wp2
  go_loopw [12] (fun i' wr => ∃ (i : Nat) (us : List Value) (hi : Nat), i ≤ D.length ∧ i' = .int .i64 i ∧ Hid (us.length = i) ∧ Hid (Half w0 wr a D.length c us ((D.take i).map Part.k) (D.drop i) hi)) (fun i' _ => D.length - (intOf i').toNat)
  case atStart => exact ⟨0, [], _, Nat.zero_le _, rfl, rfl, by rw [List.take_zero, List.drop_zero]; exact HH⟩
  case round =>
    obtain ⟨i, us, hi, hi', rfl, HU, HHr⟩ := hrel
    obtain rfl : us.length = i := HU.out
    clear HU
    by_cases hlt : us.length < D.length
    · obtain ⟨x, hx⟩ : ∃ x, D[us.length]? = some x := ⟨_, List.getElem?_eq_getElem hlt⟩
      obtain ⟨hx1, hx2⟩ := List.getElem?_eq_some_iff.1 hx
      have hHr := HHr.out
      rw [List.drop_eq_getElem_cons hlt, hx2] at hHr
      have HC := Lib.hid hHr
      obtain ⟨g, rfl⟩ := hag (by omega)
      obtain ⟨p, o, ha, c1⟩ := lies_at (enc := id) hHr.top.lies (i := us.length) (x := x.v) (by simp)
      injection ha with ha
      injection ha with ha1 ha2
      subst ha1; subst ha2
      rw [Nat.zero_add] at c1
      have HT : Hid ((D.take (us.length + 1)).map Part.k = (D.take us.length).map Part.k ++ [x.k]) := by
        show _ = _
        rw [List.take_succ_eq_append_getElem hx1, hx2, List.map_append]
        rfl
      have hxm := HDK.out x (List.mem_of_getElem? hx)
      have hxl := x.lies.below hHr.below
      obtain ⟨_, xb, xd, hxv, _⟩ := x.lies
      rw [hxv] at hxl
      have c2 : wr.cell? ⟨g, us.length, none⟩ = some (.slice xb x.k.length xd) := by rw [c1]; exact congrArg some hxv
      have HCL := Lib.hid (Digits.clone_lies _ x.k wr hxl hxm)
      clear hx hx1 hx2 hHr c1 hxl hxv hxm HHr
      go_wp2_with fail
      refine HCL.out.mono ?_
      rintro e W5 ⟨v5, rfl, hv5, b5⟩
      obtain ⟨h6, c6, f6⟩ := HC.out.step hv5 b5
      obtain ⟨va, vc, rfl, _⟩ := hv5.form
      have H6 := Lib.hid h6
      clear h6 hv5 b5 c2 HCL HC
      go_wp2
      go_roundw
      case rel => exact ⟨us.length + 1, us ++ [.slice va x.k.length vc], _, by omega, by go_num, by show _ = _; simp, by rw [HT.out]; exact H6⟩
      case measure => simp [intOf]; omega
    · have HE : Hid (Half w0 wr a D.length c us (sdl (L.map Part.k)) [] hi) := by
        have h1 := HHr.out
        rw [List.take_of_length_le (by omega), List.drop_of_length_le (by omega), HD.out] at h1
        exact h1
      go_wp2
      go_ret
      have h1 := HE.out.top
      rw [List.map_nil, List.append_nil] at h1
      exact ⟨_, us, rfl, ⟨h1, fun k hk => (h1.lt k hk).2, Nat.le_refl _, HE.out.rows.mono HE.out.le (Nat.le_refl _)⟩, HE.out.below⟩
end Fac
end Go.Proofs.Ytcnejfihpaicdaa
