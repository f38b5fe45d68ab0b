/- Contracts of slices.Grow and slices.Concat at ints, and of the program's ConjugatesOf and LeastConjugate. No conditions beyond those that each states. -/
import Derived.Lib.AppendZeros
import Derived.Test.YtcnejfihpaicdaaFacI
import Derived.Test.YtcnejfihpaicdaaLynMore
namespace Go.Proofs.Ytcnejfihpaicdaa
open Go.ChangeShapes Go.WideShapes Go.ChangeAt Go.RowKit
open Go.PlainAid Plain
set_option linter.unusedVariables false
namespace Lynd
open Fac Seqs
theorem tot_rows {k : Nat} : ∀ (l : List (List Int)), (∀ x ∈ l, x.length ≤ k) → tot l ≤ l.length * k
  | [], _ => by simp [tot]
  | x :: l, h => by
    have h1 := tot_rows l fun y hy => h y (List.mem_cons_of_mem _ hy)
    have h2 := h x (by simp)
    have e : tot (x :: l) = x.length + tot l := by simp [tot]
    rw [e, List.length_cons, Nat.succ_mul]
    omega
theorem conjV_size (u : List Int) : tot (conjV u) ≤ 4096 := by
  have h1 := tot_rows (k := 64) (conjV u) fun x hx => by have := conjV_row hx; omega
  have h2 := conjV_len u
  omega
theorem two_cells (w : World) (x y : Value) : ∀ (j : Nat) (u : Value), [x, y][j]? = some u → (w.alloc (.cells #[x, y] 22)).cell? ⟨w.heap.size, j, none⟩ = some u := by
  intro j u hj
  rw [cell_of_row _ w.heap.size j #[x, y] 22 (0, 0) (heap_alloc_new w _)]
  simpa using hj
theorem size_zeros (n : Nat) : (Builtin.zeroCells (Value.int .i64 0).cells n).size = n := by simp [Builtin.zeroCells, Value.cells]
set_option maxRecDepth 100000 in
set_option maxHeartbeats 2000000 in
/-- slices.Grow(nil, n): an empty slice with room. -/
theorem grow_nil (n : Nat) (w : World) (h0 : 0 < n) (hn : n ≤ 4194304) :
    Calls Try.prog 55 #[.slice none 0 0, .int .i64 n] w (Gives (Value.int .i64) 3 [] w) := by
  obtain ⟨i0, hi, hz0, hz1, hz2⟩ := info_parts Ints.infoI
  have hrz : ∀ ty, (Builtin.append_ #[22, 3] ty #[.slice none 0 0, .int .i64 (n : Int)]).run Try.prog w = .ok (.slice (some ⟨w.heap.size, 0, none⟩) n (grownCap w n 0 3)) (w.drew.alloc (.cells (Builtin.zeroCells (Value.int .i64 0).cells n ++ Builtin.zeroCells (Value.int .i64 0).cells (grownCap w n 0 3 - n)) 3)) := fun ty =>
    Lib.run_append_nil_zeros w 22 3 ty 3 i0 (.int .i64 0) .i64 .i64 Try.underlying22 Try.underlying3 hi hz0 n h0 (by omega) (by omega) (by rw [hz2]; omega)
  have hGn : n ≤ grownCap w n 0 3 := grownCap_ge w _ _ _
  have hGm : grownCap w n 0 3 ≤ maxLen := grownCap_le_maxLen w n 0 3 (by unfold maxLen; omega)
  obtain ⟨G, hG⟩ : ∃ G, G = grownCap w n 0 3 := ⟨_, rfl⟩
  rw [← hG] at hrz hGn hGm
  have hG63 : G ≤ 9223372036854775807 := by unfold maxLen at hGm; omega
  have HH : Hid (Has (Value.int .i64) 3 (w.drew.alloc (.cells (Builtin.zeroCells (Value.int .i64 0).cells n ++ Builtin.zeroCells (Value.int .i64 0).cells (G - n)) 3)) w.heap.size (.slice (some ⟨w.heap.size, 0, none⟩) 0 G) []) :=
    ⟨rfl, .inr ⟨w.heap.size, G, _, rfl, Nat.le_refl _, heap_alloc_new w.drew _, Nat.zero_le _, hGm, by rw [Array.size_append, size_zeros, size_zeros]; omega, by simp⟩⟩
  have HB : Hid (Below w.heap.size w (w.drew.alloc (.cells (Builtin.zeroCells (Value.int .i64 0).cells n ++ Builtin.zeroCells (Value.int .i64 0).cells (G - n)) 3))) := (below_drew' w).alloc (Nat.le_refl _) _
  obtain ⟨W1, hW1⟩ : ∃ W, W = w.drew.alloc (.cells (Builtin.zeroCells (Value.int .i64 0).cells n ++ Builtin.zeroCells (Value.int .i64 0).cells (G - n)) 3) := ⟨_, rfl⟩
  rw [← hW1] at HH HB hrz
  clear hG hW1
  go_enter Try.func55, Try.ntmps55
  go_wp2_with (at_builtin; refine Lib.wpList_append_run _ rfl _ _ _ _ rfl _ _ rfl rfl _ _ (hrz _) ?_)
  all_goals
    go_ret
    exact ⟨_, rfl, HH.out, HB.out⟩
set_option maxRecDepth 100000 in
set_option maxHeartbeats 4000000 in
/-- slices.Concat(u, u). -/
theorem concat2 (B : Nat) (a : Option Addr) (c : Nat) (u : List Int) (w : World) (hc0 : w.cell? ⟨B, 0, none⟩ = some (.slice a u.length c)) (hc1 : w.cell? ⟨B, 1, none⟩ = some (.slice a u.length c)) (h : Lies (Value.int .i64) w (.slice a u.length c) u) (h0 : 0 < u.length) (hs : u.length ≤ 1048576) :
    Calls Try.prog 40 #[.slice (some ⟨B, 0, none⟩) 2 2] w (Gives (Value.int .i64) 3 (u ++ u) w) := by
  obtain ⟨i0, hi, hz0, hz1, hz2⟩ := info_parts Ints.infoI
  have HU := Lib.hid h
  have HC0 := Lib.hid hc0
  have HC1 := Lib.hid hc1
  have HG := Lib.hid (grow_nil (u.length + u.length) w (by omega) (by omega))
  obtain ⟨n, hn⟩ : ∃ n, n = u.length := ⟨_, rfl⟩
  have HN := Lib.hid hn
  rw [← hn] at HC0 HC1 HU hc0 hc1 h0 hs HG
  rw [show ((n + n : Nat) : Int) = (n : Int) + (n : Int) from by omega] at HG
  clear h hn
  go_enter Try.func40, Try.ntmps40
  go_wp2
  go_loop [3, 5, 11] (fun s' x' i' => (i' = .int .i64 0 ∧ s' = .int .i64 0) ∨ (i' = .int .i64 1 ∧ s' = .int .i64 (n : Int)) ∨ (i' = .int .i64 2 ∧ s' = .int .i64 ((n : Int) + (n : Int)))) (fun _ _ i' => 2 - (intOf i').toNat)
  case atStart => exact .inl ⟨rfl, rfl⟩
  case round =>
    rcases hrel with ⟨rfl, rfl⟩ | ⟨rfl, rfl⟩ | ⟨rfl, rfl⟩
    · go_wp2
      go_round
      case rel => exact .inr (.inl ⟨by go_num, by go_num⟩)
      case measure => simp [intOf]
    · go_wp2
      go_round
      case rel => exact .inr (.inr ⟨by go_num, by go_num⟩)
      case measure => simp [intOf]
    · clear hc0 hc1
      go_wp2_with fail
      refine HG.out.mono ?_
      rintro e W1 ⟨v1, rfl, hv1, b1⟩
      have HV1 := Lib.hid hv1
      have HB1 := Lib.hid b1
      clear hv1 b1 HG
      go_wp2
      go_loopw [6, 8, 27] (fun r' x' i' wr => ∃ (i : Nat) (vr : Value) (L : List Int), i ≤ 2 ∧ i' = .int .i64 i ∧ vr = r' ∧ Hid (Has (Value.int .i64) 3 wr w.heap.size vr L) ∧ Hid (L ++ (if i = 0 then u ++ u else if i = 1 then u else []) = u ++ u) ∧ L.length ≤ 2097152 ∧ Hid (Below w.heap.size w wr)) (fun _ _ i' _ => 2 - (intOf i').toNat)
      case atStart => exact ⟨0, v1, [], by omega, rfl, rfl, HV1, rfl, by simp, HB1⟩
      case round =>
        clear HV1 HB1
        obtain ⟨i, vr, L, hi2, rfl, rfl, HV, HL, hll, HB⟩ := hrel
        obtain ⟨ra, rc, hvr, _⟩ := HV.out.form
        by_cases hlt : i < 2
        · have hcell : wr.cell? ⟨B, i, none⟩ = some (.slice a n c) := by
            rcases (show i = 0 ∨ i = 1 by omega) with rfl | rfl
            · exact (HB.out.cell (World.block_lt_of_cell? _ _ HC0.out)).trans HC0.out
            · exact (HB.out.cell (World.block_lt_of_cell? _ _ HC1.out)).trans HC1.out
          have HU1 := Lib.hid (HU.out.below HB.out)
          have hul : L.length + u.length ≤ 2097152 := by
            have := congrArg List.length HL.out
            rw [List.length_append, List.length_append] at this
            have hN := HN.out
            rcases (show i = 0 ∨ i = 1 by omega) with rfl | rfl
            · rw [if_pos rfl, List.length_append] at this; omega
            · rw [if_neg (by omega), if_pos rfl] at this; omega
          have HL2 : Hid ((L ++ u) ++ (if i + 1 = 0 then u ++ u else if i + 1 = 1 then u else []) = u ++ u) := by
            show _ = _
            have := HL.out
            rcases (show i = 0 ∨ i = 1 by omega) with rfl | rfl
            · simpa using this
            · simpa using this
          subst hvr
          go_wp2_with (at_builtin; refine append_lies (enc := (Value.int .i64)) (e := 3) wr rfl (.tmp 31) (.tmp 32) 22 rfl w.heap.size i0 (.int .i64 0) 8 Try.underlying22 hi hz0 hz1 hz2 rfl (.slice ra L.length rc) L rfl HV.out (.slice a n c) u rfl HU1.out (fun _ => rfl) (by omega) (by omega) HB.out.size ?_; intro vn wn hn hgn; have HV2 := Lib.hid hn; have HB2 := Lib.hid (HV.out.frame HB.out (Nat.le_refl _) hgn); clear hn hgn)
          go_roundw
          case rel => exact ⟨i + 1, _, _, by omega, by go_num, rfl, HV2, HL2, by rw [List.length_append]; exact hul, HB2⟩
          case measure => simp [intOf]; omega
        · obtain rfl : i = 2 := by omega
          have HE : Hid (L = u ++ u) := by have := HL.out; show _ = _; simpa using this
          clear hvr
          go_wp2
          go_ret
          exact ⟨_, rfl, by rw [← HE.out]; exact HV.out, HB.out⟩
set_option maxRecDepth 100000 in
set_option maxHeartbeats 2000000 in
theorem impl_conj (v : Value) (u : List Int) (w : World) (h : Lies (Value.int .i64) w v u) (hs : u.length ≤ 1048576) :
    Calls Try.prog 25 #[v] w (GivesR (conjV u) w) := by
  obtain ⟨_, a, ca, rfl, _, _⟩ := id h
  have HX := Lib.hid h
  clear h
  by_cases h0 : 0 < u.length
  · have hd0 : ((u.length : Int) == 0) = false := by simp; intro e; rw [e] at h0; simp at h0
    by_cases h64 : u.length ≤ 64
    · have hd64 := decide_eq_false (show ¬ (u.length : Int) > 64 by omega)
      have HE := Lib.hid (conjV_eq h0 h64)
      have hcc := concat2 w.heap.size a ca u (w.alloc (.cells #[.slice a u.length ca, .slice a u.length ca] 22)) (two_cells w _ _ 0 _ rfl) (two_cells w _ _ 1 _ rfl) (lies_alloc HX.out _) h0 hs
      have HCC := Lib.hid hcc
      have HB0 : Hid (Below w.heap.size w (w.alloc (.cells #[.slice a u.length ca, .slice a u.length ca] 22))) := (Below.refl _ _).alloc (Nat.le_refl _) _
      clear hcc
      go_enter Try.func25, Try.ntmps25
      go_wp2_with fail
      obtain ⟨W0, hW0⟩ : ∃ W, W = w.alloc (.cells #[.slice a u.length ca, .slice a u.length ca] 22) := ⟨_, rfl⟩
      rw [← hW0] at HCC HB0 ⊢
      clear hW0
      refine HCC.out.mono ?_
      rintro e W1 ⟨v1, rfl, hv1, b1⟩
      have HP := Lib.hid (parts v1 (u ++ u) u.length W1 W1 (LiesC.of_has hv1) (Below.refl _ _) (by simp; omega) (by omega))
      obtain ⟨a1, c1, rfl, _⟩ := hv1.form
      rw [← HE.out] at HP
      have HB1 := Lib.hid (HB0.out.trans (b1.mono HB0.out.size))
      have hll : (u ++ u).length = u.length + u.length := by simp
      obtain ⟨m, hm⟩ : ∃ m, m = (u ++ u).length := ⟨_, rfl⟩
      rw [← hm] at HP ⊢
      clear hv1 b1 HCC hm hll
      go_wp2_with fail
      refine HP.out.mono ?_
      rintro e W5 ⟨v5, us5, rfl, ho5, b5⟩
      have HO5 := Lib.hid ho5
      have HB5 := Lib.hid (HB1.out.trans (b5.mono HB1.out.size))
      have HLO := Lib.hid HB1.out.size
      clear ho5 b5 HP
      go_wp2
      go_ret
      have hr := HO5.out
      exact ⟨_, us5, rfl, ⟨hr.top.mono HLO.out, hr.lt, hr.le, hr.rows.lower HLO.out⟩, HB5.out⟩
    · have hd64 := decide_eq_true (show (u.length : Int) > 64 by omega)
      have HE := Lib.hid (conjV_big (u := u) (by omega))
      go_enter Try.func25, Try.ntmps25
      go_wp2
      go_ret
      exact ⟨_, [], rfl, by rw [HE.out]; exact ownR_nil _ _, Below.refl _ _⟩
  · have hd0 : ((u.length : Int) == 0) = true := by simp; exact List.eq_nil_of_length_eq_zero (by omega)
    have HE := Lib.hid (conjV_nil (u := u) (by omega))
    go_enter Try.func25, Try.ntmps25
    go_wp2
    go_ret
    exact ⟨_, [], rfl, by rw [HE.out]; exact ownR_nil _ _, Below.refl _ _⟩
set_option maxRecDepth 100000 in
set_option maxHeartbeats 2000000 in
theorem impl_lc (v : Value) (u : List Int) (w : World) (h : Lies (Value.int .i64) w v u) (hs : u.length ≤ 1048576) :
    Calls Try.prog 22 #[v] w (Gives (Value.int .i64) 3 (lcV u) w) := by
  have HC := Lib.hid (impl_conj v u w h hs)
  have HCL := Lib.hid (fun (W : World) (hb : Below w.heap.size w W) => Digits.clone_lies v u W (h.below hb) hs)
  obtain ⟨_, a, ca, rfl, _, _⟩ := id h
  clear h
  obtain ⟨L, hL⟩ : ∃ L, conjV u = L := ⟨_, rfl⟩
  rw [hL] at HC
  cases L with
  | nil =>
    rw [conjV_none hL]
    clear hL
    go_enter Try.func22, Try.ntmps22
    go_wp2_with fail
    refine HC.out.mono ?_
    rintro e W1 ⟨v1, us, rfl, ho, b1⟩
    have hlen := ho.rows.len
    obtain ⟨a1, c1, rfl, _⟩ := ho.top.form
    rw [hlen]
    have HB1 := Lib.hid b1
    clear ho hlen b1 HC
    go_wp2_with fail
    refine (HCL.out _ HB1.out).mono ?_
    rintro e W2 ⟨v2, rfl, hv2, b2⟩
    have HV2 := Lib.hid (hv2.mono HB1.out.size)
    have HB2 := Lib.hid (HB1.out.trans (b2.mono HB1.out.size))
    clear hv2 b2
    go_wp2
    go_ret
    exact ⟨_, rfl, HV2.out, HB2.out⟩
  | cons x l =>
    rw [lcV_head hL]
    clear hL
    go_enter Try.func22, Try.ntmps22
    go_wp2_with fail
    refine HC.out.mono ?_
    rintro e W1 ⟨v1, us, rfl, ho, b1⟩
    have hlen := ho.rows.len
    obtain ⟨uu, huu⟩ : ∃ uu, us[0]? = some uu := ⟨_, List.getElem?_eq_getElem (by rw [hlen]; simp)⟩
    have hsm := ho.top.small
    obtain ⟨a1, c1, rfl, _⟩ := ho.top.form
    obtain ⟨g, o, rfl, hcell⟩ := lies_at (enc := id) ho.top.lies huu
    have hr := ho.rows.row 0 uu x huu rfl
    obtain ⟨ea, ec, rfl⟩ := hr.form
    have HR := Lib.hid hr.has
    have HB1 := Lib.hid b1
    rw [hlen, List.length_cons] at hsm ⊢
    have hcell2 : W1.cell? ⟨g, o, none⟩ = some (.slice ea x.length ec) := hcell
    clear ho hlen huu hcell hr b1 HC
    obtain ⟨m, hm⟩ : ∃ m, m = l.length + 1 := ⟨_, rfl⟩
    rw [← hm] at hsm ⊢
    have hm0 : 0 < m := by omega
    have hmd : ((m : Int) == 0) = false := by simp; omega
    clear hm
    go_wp2
    go_ret
    exact ⟨_, rfl, HR.out, HB1.out⟩
end Lynd
end Go.Proofs.Ytcnejfihpaicdaa
