/- Contracts of the model's StateClasses and of the function that numbers equal lists. No conditions beyond those that each states. -/
import Derived.Test.YthnmighlgifoeaaMinVal
import Derived.Test.YthnmighlgifoeaaSeqEqual
import Derived.Test.YthnmighlgifoeaaReach
namespace Go.Proofs.Ythnmighlgifoeaa
open Go.ChangeShapes Go.WideShapes Go.ChangeAt Go.RowKit
open Go.PlainAid Plain
set_option linter.unusedVariables false
namespace Mins
open Seqs
theorem same_q {u v : Value} {xs ys : List Int} {w : World} {n : Nat} {c : Bool} (h1 : Lies (Value.int .i64) w u xs) (h2 : Lies (Value.int .i64) w v ys) (hc : decide (xs = ys) = c) :
    Calls Try.prog 36 #[u, v] (w.drewN n) fun e w' => e = .returned (.bool c) ∧ ∃ m, w' = w.drewN m :=
  (same_ints u v xs ys _ (h1.below (below_drewN (Below.refl _ _) n)) (h2.below (below_drewN (Below.refl _ _) n))).mono fun _ _ ⟨he, m, hm⟩ => ⟨by rw [he, hc], n + m, by rw [hm, World.drewN_drewN]⟩
/-- What the search for an equal key has found. -/
def FoundR (keys : List (List Int)) (i : Nat) (key : List Int) (k : Nat) (f : Int) : Prop := (f = -1 ∧ ∀ j < k, keys[j]? ≠ some key) ∨ (0 ≤ f ∧ key ∈ keys.take i ∧ f = (ix (dist (keys.take i)) key : Int))
theorem found_end {keys : List (List Int)} {i : Nat} {key : List Int} {k : Nat} {f : Int} (hi : keys[i]? = some key) (h : FoundR keys i key k f) (he : k = i ∨ 0 ≤ f) (hk : k ≤ i) :
    (f = -1 ∧ numb (keys.take (i + 1)) = numb (keys.take i) ++ [((dist (keys.take i)).length : Int)] ∧ (dist (keys.take (i + 1))).length = (dist (keys.take i)).length + 1) ∨
    (0 ≤ f ∧ numb (keys.take (i + 1)) = numb (keys.take i) ++ [f] ∧ (dist (keys.take (i + 1))).length = (dist (keys.take i)).length) := by
  have ht : keys.take (i + 1) = keys.take i ++ [key] := by
    obtain ⟨hk, rfl⟩ := List.getElem?_eq_some_iff.1 hi
    exact List.take_succ_eq_append_getElem hk
  rcases h with ⟨rfl, hn⟩ | ⟨h0, hm, rfl⟩
  · have hki : k = i := by omega
    subst hki
    have hno : key ∉ keys.take k := fun hm => by
      obtain ⟨j, hj⟩ := List.getElem?_of_mem hm
      have hjl := (List.getElem?_eq_some_iff.1 hj).1
      rw [List.length_take] at hjl
      rw [List.getElem?_take, if_pos (by omega)] at hj
      exact hn j (by omega) hj
    refine .inl ⟨rfl, ?_, ?_⟩
    · rw [ht, numb_new hno]
    · rw [ht, dist_snoc, addTo_new (fun h => hno (mem_dist.1 h))]
      simp
  · refine .inr ⟨h0, ?_, ?_⟩
    · rw [ht, numb_old hm]
    · rw [ht, dist_snoc, addTo_in (mem_dist.2 hm)]
/-- A row's slice and its cells in a slice of rows. -/
theorem rows_at {w : World} {v : Value} {rows : List (List Int)} (h : LiesR w v rows) (hp : 0 < rows.length) : ∃ p o c, v = .slice (some ⟨p, o, none⟩) rows.length c ∧ rows.length ≤ 9223372036854775807 ∧
    ∀ (i : Nat) (r : List Int), rows[i]? = some r → ∃ u, w.cell? ⟨p, o + i, none⟩ = some u ∧ Lies (Value.int .i64) w u r := by
  obtain ⟨a, cap, rfl, hl, hc⟩ := h.row
  obtain ⟨p, o, u, rfl, _, _⟩ := hc 0 _ (List.getElem?_eq_getElem hp)
  refine ⟨p, o, cap, rfl, hl, fun i r hr => ?_⟩
  obtain ⟨p', o', u', h1, h2, h3⟩ := hc i r hr
  injection h1 with h1
  injection h1 with h1 h4
  subst h1; subst h4
  exact ⟨u', h2, h3⟩
set_option maxHeartbeats 1000000 in
theorem number_any (v : Value) (keys : List (List Int)) (w : World) (h : LiesR w v keys) (hk : keys.length ≤ 1000) :
    Calls Try.prog 90 #[v] w (Gives (Value.int .i64) 3 (numb keys) w) := by
  obtain ⟨i0, hi, hz0, hz1, hz2⟩ := info_parts Ints.infoI
  have HS := Lib.hid h
  obtain ⟨va, vc, rfl, hl63, _⟩ := h.row
  clear h
  have hO : Hid (Has (Value.int .i64) 3 (w.alloc (.cells #[] 3)) w.heap.size (.slice (some ⟨w.heap.size, 0, none⟩) 0 0) (numb (keys.take 0))) := has_lit0 (enc := Value.int .i64) rfl (Nat.le_refl _)
  have hB : Hid (Below w.heap.size w (w.alloc (.cells #[] 3))) := (Below.refl _ _).alloc (Nat.le_refl _) _
  go_enter Try.func90, Try.ntmps90
  go_wp2_with fail
  obtain ⟨W0, hW0⟩ : ∃ W, W = w.alloc (.cells #[] 3) := ⟨_, rfl⟩
  rw [← hW0] at hO hB ⊢
  clear hW0
  go_loopw [3, 4, 5] (fun o' n' i' wr => ∃ (i c : Nat), i ≤ keys.length ∧ i' = .int .i64 i ∧ n' = .int .i64 c ∧ Hid (c = (dist (keys.take i)).length) ∧ c ≤ i ∧ Hid (Has (Value.int .i64) 3 wr w.heap.size o' (numb (keys.take i))) ∧ Hid (Below w.heap.size w wr)) (fun _ _ i' _ => keys.length - (intOf i').toNat)
  case atStart => exact ⟨0, 0, Nat.zero_le _, rfl, rfl, rfl, Nat.le_refl _, hO, hB⟩
  case round =>
    clear hO hB
    obtain ⟨i, c, hil, rfl, rfl, hc, hci, hO, hB⟩ := hrel
    by_cases hlt : i < keys.length
    case neg =>
      have HX : Hid (Has (Value.int .i64) 3 wr w.heap.size u3 (numb keys)) := by
        have h1 := hO.out
        rw [List.take_of_length_le (by omega)] at h1
        exact h1
      obtain ⟨oa, oc, rfl, _⟩ := hO.out.form
      go_wp2
      go_ret
      exact ⟨_, rfl, HX.out, hB.out⟩
    case pos =>
      obtain ⟨key, hkey⟩ : ∃ x, keys[i]? = some x := ⟨_, List.getElem?_eq_getElem hlt⟩
      have HKEY := Lib.hid hkey
      have HNL : Hid ((numb (keys.take i)).length = i) := by show _ = _; rw [numb_len, List.length_take]; omega
      obtain ⟨vp, vo, vcap, hv, _, hrow⟩ := rows_at (HS.out.below hB.out) (by omega)
      injection hv with e1 e2 e3
      subst e1; subst e3
      have HROW := Lib.hid hrow
      clear hkey hrow e2
      obtain ⟨oa, oc, rfl, _⟩ := hO.out.form
      have HOC := Lib.hid hO.out.lies
      go_wp2
      go_loopw [6, 7] (fun f' k' wx => ∃ (k : Nat) (f : Int), k ≤ i ∧ k' = .int .i64 k ∧ f' = .int .i64 f ∧ Hid (FoundR keys i key k f) ∧ Hid (Below wr.heap.size wr wx)) (fun _ k' _ => i - (intOf k').toNat)
      case atStart => exact ⟨0, -1, Nat.zero_le _, rfl, rfl, .inl ⟨rfl, fun j hj => by omega⟩, Below.refl _ _⟩
      case round =>
        obtain ⟨k, f, hki, rfl, rfl, hF, hBx⟩ := hrel
        by_cases hgo : k < i ∧ f < 0
        case pos =>
          obtain ⟨hk2, hf⟩ := hgo
          have hdf := decide_eq_true hf
          obtain ⟨kx, hkx⟩ : ∃ x, keys[k]? = some x := ⟨_, List.getElem?_eq_getElem (by omega)⟩
          have HKX := Lib.hid hkx
          obtain ⟨u1, c1, l1⟩ := HROW.out k kx hkx
          obtain ⟨u2, c2, l2⟩ := HROW.out i key HKEY.out
          have q1 := old_cell hBx.out c1
          have q2 := old_cell hBx.out c2
          have L1 := Lib.hid (l1.below hBx.out)
          have L2 := Lib.hid (l2.below hBx.out)
          have hk3 : (k : Int) < (keys.length : Int) := by omega
          have hi3 : (i : Int) < (keys.length : Int) := by omega
          have hk0 : (0 : Int) ≤ (k : Int) := Int.natCast_nonneg _
          have hi0 : (0 : Int) ≤ (i : Int) := Int.natCast_nonneg _
          have hKT : (keys.take i)[k]? = some kx := by rw [List.getElem?_take, if_pos hk2, hkx]
          have HKT := Lib.hid hKT
          obtain ⟨m, hm⟩ : ∃ m : Int, m = (ix (dist (keys.take i)) kx : Int) := ⟨_, rfl⟩
          have hnk := numb_get hKT
          rw [← hm] at hnk
          obtain ⟨_, oa', oc', hv', _, hcl⟩ := HOC.out.below hBx.out
          injection hv' with f1 f2 f3
          obtain ⟨ob, oo, hoa, q3⟩ := hcl k m hnk
          rw [← f1] at hoa
          have hk4 : (k : Int) < ((numb (keys.take i)).length : Int) := by have := HNL.out; omega
          have hk5 : k < (numb (keys.take i)).length := by have := HNL.out; omega
          have HM := Lib.hid hm
          clear hkx c1 c2 l1 l2 hKT hnk hcl f1 f2 f3 hm hf
          subst hoa
          have HB4 := Lib.hid (fun n => below_drewN hBx.out n)
          by_cases he : kx = key
          · have HE := Lib.hid (decide_eq_true he)
            have HFN : Hid (FoundR keys i key (k + 1) m) := .inr ⟨by rw [HM.out]; exact Int.natCast_nonneg _, by rw [← he]; exact List.mem_of_getElem? HKT.out, by rw [HM.out, he]⟩
            clear he
            go_wp2
            go_quiet ((go_at_call 36; exact same_q L1.out L2.out HE.out))
            go_wp2
            go_roundw
            case rel => exact ⟨k + 1, m, by omega, by go_num, rfl, HFN, HB4.out _⟩
            case measure => simp [intOf]; omega
          · have HE := Lib.hid (decide_eq_false he)
            have HFN : Hid (FoundR keys i key (k + 1) f) := by
              rcases hF.out with ⟨h1, h2⟩ | h1
              · refine .inl ⟨h1, fun j hj hje => ?_⟩
                by_cases e : j = k
                · subst e
                  exact he (Option.some.inj (HKX.out.symm.trans hje))
                · exact h2 j (by omega) hje
              · exact .inr h1
            clear he
            go_wp2
            go_quiet ((go_at_call 36; exact same_q L1.out L2.out HE.out))
            go_wp2
            go_roundw
            case rel => exact ⟨k + 1, f, by omega, by go_num, rfl, HFN, HB4.out _⟩
            case measure => simp [intOf]; omega
        case neg =>
          have hxx := found_end HKEY.out hF.out (by omega) hki
          have HO5 := Lib.hid (hO.out.below hBx.out)
          have HB5 := Lib.hid (hB.out.trans (hBx.out.mono hB.out.size))
          have HZ5 := Lib.hid HB5.out.size
          rcases hxx with ⟨hf1, hn1, hd1⟩ | ⟨hf1, hn1, hd1⟩
          · have hki2 : ¬ k < i := fun h => hgo ⟨h, by omega⟩
            have hdf : decide (f < 0) = true := decide_eq_true (by omega)
            have HNN : Hid (numb (keys.take (i + 1)) = numb (keys.take i) ++ [(c : Int)]) := by show _ = _; rw [hn1, hc.out]
            have HDD : Hid (c + 1 = (dist (keys.take (i + 1))).length) := by show _ = _; rw [hd1, hc.out]
            clear hgo hn1 hd1 hf1
            go_wp2_with (at_builtin; refine append_one (enc := Value.int .i64) (e := 3) wr rfl _ _ 23 rfl w.heap.size i0 (.int .i64 0) 8 Try.underlying23 hi hz0 hz1 hz2 rfl (.slice oa (numb (keys.take i)).length oc) (numb (keys.take i)) rfl HO5.out (c : Int) rfl (fun _ => rfl) (by rw [HNL.out]; omega) (by rw [HNL.out]; omega) HZ5.out ?_; intro v' w' hown' hgrow')
            have hB4 : Hid (Below w.heap.size w w') := HO5.out.frame HB5.out (Nat.le_refl _) hgrow'
            have hO4 : Hid (Has (Value.int .i64) 3 w' w.heap.size v' (numb (keys.take (i + 1)))) := by show Has _ _ _ _ _ _; rw [HNN.out]; exact hown'
            clear hown' hgrow' HO5 HB5 HZ5
            go_wp2
            go_roundw
            case rel => exact ⟨i + 1, c + 1, by omega, by go_num, by go_num, HDD, by omega, hO4, hB4⟩
            case measure => simp [intOf]; omega
          · have hdf : decide (f < 0) = false := decide_eq_false (by omega)
            have HNN := Lib.hid hn1
            have HDD : Hid (c = (dist (keys.take (i + 1))).length) := by show _ = _; rw [hd1, hc.out]
            clear hgo hn1 hd1
            by_cases hki2 : k < i
            all_goals
              go_wp2_with (at_builtin; refine append_one (enc := Value.int .i64) (e := 3) wr rfl _ _ 23 rfl w.heap.size i0 (.int .i64 0) 8 Try.underlying23 hi hz0 hz1 hz2 rfl (.slice oa (numb (keys.take i)).length oc) (numb (keys.take i)) rfl HO5.out f rfl (fun _ => rfl) (by rw [HNL.out]; omega) (by rw [HNL.out]; omega) HZ5.out ?_; intro v' w' hown' hgrow')
              have hB4 : Hid (Below w.heap.size w w') := HO5.out.frame HB5.out (Nat.le_refl _) hgrow'
              have hO4 : Hid (Has (Value.int .i64) 3 w' w.heap.size v' (numb (keys.take (i + 1)))) := by show Has _ _ _ _ _ _; rw [HNN.out]; exact hown'
              clear hown' hgrow' HO5 HB5 HZ5
              go_wp2
              go_roundw
              case rel => exact ⟨i + 1, c, by omega, by go_num, rfl, HDD, by omega, hO4, hB4⟩
              case measure => simp [intOf]; omega
end Mins
end Go.Proofs.Ythnmighlgifoeaa
