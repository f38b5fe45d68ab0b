/- Contracts of GreatestExponent and ExponentOf, of the model and of the program, and of the program's SquaresOf. No conditions beyond those that each states. -/
import Derived.Test.YtojmlhcgghaceaaPowI
import Derived.Test.YtojmlhcgghaceaaBorS2
namespace Go.Proofs.Ytojmlhcgghaceaa
open Go.ChangeShapes Go.WideShapes Go.ChangeAt Go.RowKit
open Go.PlainAid Plain
set_option linter.unusedVariables false
namespace Fac
theorem ret_ii {a b c d : Int} (h : a = b) (k : c = d) : Ending.returned (.tuple #[.int .i64 a, .int .i64 c]) = Ending.returned (.tuple #[.int .i64 b, .int .i64 d]) := by rw [h, k]
theorem div_facts {n g : Nat} (h : 0 < g) : ((n : Int) / (g : Int) = ((n / g : Nat) : Int)) ∧ ((n : Int).tdiv (g : Int) = ((n / g : Nat) : Int)) := ⟨rfl, rfl⟩
set_option maxHeartbeats 4000000 in
theorem low (e : Nat × Nat) (w : World) (h1 : e.1 ≤ 4194304) (h2 : e.2 ≤ 4194304) (h0 : 0 < e.2) :
    Calls Try.prog 44 #[.agg #[.int .i64 (e.1 : Int), .int .i64 (e.2 : Int)]] w fun en w' => en = .returned (.tuple #[.int .i64 ((e.1 / Nat.gcd e.1 e.2 : Nat) : Int), .int .i64 ((e.2 / Nat.gcd e.1 e.2 : Nat) : Int)]) ∧ Below w.heap.size w w' := by
  obtain ⟨a, b⟩ := e
  dsimp only at h1 h2 h0 ⊢
  have hgp : 0 < Nat.gcd a b := Nat.gcd_pos_of_pos_right _ h0
  have hgl : Nat.gcd a b ≤ b := Nat.gcd_le_right _ h0
  obtain ⟨g, hg⟩ : ∃ g, g = Nat.gcd a b := ⟨_, rfl⟩
  rw [← hg] at hgp hgl ⊢
  have HG0 : Hid (Nat.gcd a b = g) := hg.symm
  have hd1 := (div_facts (n := a) hgp).1
  have hd2 := (div_facts (n := b) hgp).1
  have hd3 := (div_facts (n := a) hgp).2
  have hd4 := (div_facts (n := b) hgp).2
  have hqa : a / g ≤ a := Nat.div_le_self _ _
  have hqb : b / g ≤ b := Nat.div_le_self _ _
  have hg0 : ((g : Int) == 0) = false := by simp; omega
  have hbn : CellsN (w.alloc (.cells #[.int .i64 (a : Int), .int .i64 (b : Int)] 44)) w.heap.size 44 [.int .i64 (a : Int), .int .i64 (b : Int)] := CellsN.new w 44 [.int .i64 (a : Int), .int .i64 (b : Int)]
  have HBN := Lib.hid hbn
  have HB0 : Hid (Below w.heap.size w (w.alloc (.cells #[.int .i64 (a : Int), .int .i64 (b : Int)] 44))) := (Below.refl _ _).alloc (Nat.le_refl _) _
  clear hbn hg
  obtain ⟨p, hp⟩ : ∃ p, p = a / g := ⟨_, rfl⟩
  obtain ⟨q, hq⟩ : ∃ q, q = b / g := ⟨_, rfl⟩
  rw [← hp] at hd1 hd3 hqa ⊢
  rw [← hq] at hd2 hd4 hqb ⊢
  clear hp hq
  go_enter Try.func44, Try.ntmps44
  go_wp2_with fail
  go_quiet (fail)
  go_wp2
  go_loopw [4, 5] (fun a' b' wr => ∃ x y : Nat, x ≤ 4194304 ∧ y ≤ 4194304 ∧ a' = .int .i64 x ∧ b' = .int .i64 y ∧ Hid (Nat.gcd x y = g) ∧ Hid (CellsN wr w.heap.size 44 [.int .i64 (a : Int), .int .i64 (b : Int)]) ∧ Hid (Below w.heap.size w wr)) (fun _ b' _ => (intOf b').toNat)
  case atStart => exact ⟨a, b, h1, h2, rfl, rfl, HG0, HBN.out.below (below_drewN (Below.refl _ _) _), below_drewN HB0.out _⟩
  case round =>
    obtain ⟨x, y, hx, hy, rfl, rfl, HG, HC, HB⟩ := hrel
    by_cases hy0 : 0 < y
    · have hb0 : ((y : Int) == 0) = false := by simp; omega
      have hm : x % y < y := Nat.mod_lt _ hy0
      obtain ⟨r, hr⟩ : ∃ r, r = x % y := ⟨_, rfl⟩
      have e1 : (x : Int) % (y : Int) = (r : Int) := by rw [hr]; rfl
      have e2 : (x : Int).tmod (y : Int) = (r : Int) := by rw [hr]; rfl
      have HG2 : Hid (Nat.gcd y r = g) := by show _ = _; rw [hr, gcd_step]; exact HG.out
      rw [← hr] at hm
      clear hr
      go_wp2_with fail
      go_quiet (fail)
      go_wp2
      go_roundw
      case rel => exact ⟨y, r, by omega, by omega, rfl, rfl, HG2, HC.out.below (below_drewN (Below.refl _ _) _), below_drewN HB.out _⟩
      case measure => simp [intOf]; omega
    · obtain rfl : y = 0 := by omega
      obtain rfl : x = g := by have := HG.out; rwa [Nat.gcd_zero_right] at this
      have c0 := HC.out.at_ (i := 0) rfl
      have c1 := HC.out.at_ (i := 1) rfl
      go_wp2_with fail
      go_quiet (fail)
      go_wp2
      go_ret2
      exact ⟨rfl, below_drewN HB.out _⟩
set_option maxHeartbeats 4000000 in
theorem maxf (v : Value) (L : List (Nat × Nat)) (base : Nat) (w : World) (h : OwnT 44 2 w base v (exL L)) (hl : 0 < L.length) (hm : ∀ e ∈ L, e.1 ≤ 100000 ∧ e.2 ≤ 100000) :
    Calls Try.prog 43 #[v, .func (.func 41) #[] #[]] w fun en w' => en = .returned (.agg #[.int .i64 ((mxE L).1 : Int), .int .i64 ((mxE L).2 : Int)]) ∧ Below w.heap.size w w' := by
  have eg : ∀ args w, (callFunc 41 args).run Try.prog w = .ok (.enter 41 args) w := enters_of Try.func41 (by kernel_rfl) rfl
  obtain ⟨a, c, rfl, hag⟩ := h.form
  have hsm := h.small
  obtain ⟨g, rfl⟩ := hag (by rw [exL_len]; exact hl)
  have HO := Lib.hid h
  have HM := Lib.hid hm
  rw [exL_len] at hsm ⊢
  obtain ⟨e0, he0⟩ : ∃ x, L[0]? = some x := ⟨_, List.getElem?_eq_getElem hl⟩
  have p0 := (h.below ((Below.refl w.heap.size w).alloc (Nat.le_refl _) (.cells #[.int .i64 0, .int .i64 0] 44))).cell (j := 0) (exL_at he0) rfl
  have p1 := (h.below ((Below.refl w.heap.size w).alloc (Nat.le_refl _) (.cells #[.int .i64 0, .int .i64 0] 44))).cell (j := 1) (exL_at he0) rfl
  rw [Nat.zero_mul, Nat.add_zero] at p0
  rw [Nat.zero_mul, Nat.zero_add] at p1
  have HS : Hid (mxE (L.take 1) = e0) := by
    cases L with
    | nil => simp at hl
    | cons x L => simp at he0; subst he0; rfl
  have hE0 := hm e0 (List.mem_of_getElem? he0)
  clear h hag hm he0
  obtain ⟨x0, y0⟩ := e0
  dsimp only at p0 p1 hE0
  have hl1 : ¬ L.length < 1 := by omega
  go_enter Try.func43, Try.ntmps43
  go_upto_region 4 with (fail)
  obtain ⟨W1, hW1⟩ : ∃ W, W = (w.alloc (.cells #[.int .i64 0, .int .i64 0] 44)).alloc (.cells #[.int .i64 (x0 : Int), .int .i64 (y0 : Int)] 44) := ⟨_, rfl⟩
  have hb1 : Below w.heap.size w W1 := by rw [hW1]; exact ((Below.refl _ _).alloc (Nat.le_refl _) _).alloc (by simp) _
  have hc1 : CellsN W1 w.heap.size 44 [.int .i64 0, .int .i64 0] := by rw [hW1]; exact (CellsN.new w 44 [.int .i64 0, .int .i64 0]).alloc _
  have hc2 : CellsN W1 (w.heap.size + 1) 44 [.int .i64 (x0 : Int), .int .i64 (y0 : Int)] := by
    rw [hW1]
    have := CellsN.new (w.alloc (.cells #[.int .i64 0, .int .i64 0] 44)) 44 [.int .i64 (x0 : Int), .int .i64 (y0 : Int)]
    rw [size_alloc'] at this
    exact this
  rw [← hW1]
  have HB1 := Lib.hid hb1
  have HC1 := Lib.hid hc1
  have HC2 := Lib.hid hc2
  clear hW1 hb1 hc1 hc2 p0 p1
  go_wp2
  go_loopw [6] (fun i' wr => ∃ (i x y : Nat), 0 < i ∧ i ≤ L.length ∧ i' = .int .i64 i ∧ x ≤ 100000 ∧ y ≤ 100000 ∧ Hid (mxE (L.take i) = (x, y)) ∧ Hid (CellsN wr w.heap.size 44 [.int .i64 0, .int .i64 0]) ∧ Hid (CellsN wr (w.heap.size + 1) 44 [.int .i64 (x : Int), .int .i64 (y : Int)]) ∧ Hid (Below w.heap.size w wr)) (fun i' _ => L.length - (intOf i').toNat)
  case atStart => exact ⟨1, x0, y0, by omega, by omega, rfl, hE0.1, hE0.2, HS, HC1, HC2, HB1⟩
  case round =>
    obtain ⟨i, x, y, hi0, hi, rfl, hx, hy, HX, HA, HC, HB⟩ := hrel
    by_cases hlt : i < L.length
    · obtain ⟨e, he⟩ : ∃ x, L[i]? = some x := ⟨_, List.getElem?_eq_getElem hlt⟩
      have HO1 := HO.out.below HB.out
      have p0 := HO1.cell (j := 0) (exL_at he) rfl
      have p1 := HO1.cell (j := 1) (exL_at he) rfl
      rw [Nat.add_zero] at p0
      have hE := HM.out e (List.mem_of_getElem? he)
      have HT : Hid (mxE (L.take (i + 1)) = if e.1 * y > x * e.2 then e else (x, y)) := by
        show _ = _
        rw [List.take_succ_eq_append_getElem hlt, mxE_snoc (by intro h; have h2 : (L.take i).length = 0 := (congrArg List.length h).trans rfl; rw [List.length_take] at h2; omega), HX.out]
        have e2 : L[i] = e := by rw [List.getElem?_eq_getElem hlt] at he; exact Option.some.inj he
        rw [e2]
      obtain ⟨ea, eb⟩ := e
      have c0 := HC.out.at_ (i := 0) rfl
      have c1 := HC.out.at_ (i := 1) rfl
      have f0 := HC.out.f 0
      have f1 := HC.out.f 1
      have hD : Below wr.heap.size wr wr.drew := below_drew' wr
      have HCC := Lib.hid (comp (ea, eb) (x, y) wr.drew hE.1 hE.2 hx hy)
      have HGT := cpE_gt (ea, eb) (x, y)
      have hrng := cpE_range (ea, eb) (x, y)
      obtain ⟨z, hz⟩ : ∃ z, z = cpE (ea, eb) (x, y) := ⟨_, rfl⟩
      rw [← hz] at HCC HGT hrng
      dsimp only at p0 p1 HCC HGT HT hE
      have hEa := hE.1
      have hEb := hE.2
      have hil : (i : Int) < (L.length : Int) := by omega
      clear hz he HO1 hE
      by_cases hc : z > 0
      · have HN : Hid (mxE (L.take (i + 1)) = (ea, eb)) := by have := HT.out; rw [if_pos (HGT.1 hc)] at this; exact this
        have hcd := decide_eq_true hc
        clear HGT HT
        go_wp2_with fail
        go_region_law (first | (go_simp; go_at_fn 41; (with_reducible refine HCC.out.mono ?_); rintro e W8 ⟨rfl, b8⟩; have bA : Below wr.heap.size wr W8 := hD.trans (b8.mono hD.size)))
        all_goals
          have HBA := Lib.hid bA
          have p0' := (HO.out.below (HB.out.trans (bA.mono HB.out.size)))
          have HA2 := Lib.hid (HA.out.below bA)
          have HC2 := Lib.hid (HC.out.below bA)
          have HB2 := Lib.hid (HB.out.trans (bA.mono HB.out.size))
          have q0 := (bA.cell (World.block_lt_of_cell? _ _ p0)).trans p0
          have q1 := (bA.cell (World.block_lt_of_cell? _ _ p1)).trans p1
          have g0 := HC2.out.f 0
          have g1 := HC2.out.f 1
          have k0 := HC2.out.at_ (i := 0) rfl
          have k1 := HC2.out.at_ (i := 1) rfl
          have k2 := (HC2.out.set 0 (.int .i64 (ea : Int))).at_ (i := 1) rfl
          clear p0 p1 c0 c1 f0 f1 b8 bA p0'
          go_upto_region 6 with (fail)
          have HA3 : Hid (CellsN ((W8.setCell ⟨w.heap.size + 1, 0, none⟩ (.int .i64 ea)).setCell ⟨w.heap.size + 1, 1, none⟩ (.int .i64 eb)) w.heap.size 44 [.int .i64 0, .int .i64 0]) := (HA2.out.other (by simp) _).other (by simp) _
          have HC3 : Hid (CellsN ((W8.setCell ⟨w.heap.size + 1, 0, none⟩ (.int .i64 ea)).setCell ⟨w.heap.size + 1, 1, none⟩ (.int .i64 eb)) (w.heap.size + 1) 44 [.int .i64 ea, .int .i64 eb]) := (HC2.out.set 0 _).set 1 _
          have HB3 : Hid (Below w.heap.size w ((W8.setCell ⟨w.heap.size + 1, 0, none⟩ (.int .i64 ea)).setCell ⟨w.heap.size + 1, 1, none⟩ (.int .i64 eb))) := (HB2.out.setCell (by simp) _).setCell (by simp) _
          go_wp2
          go_roundw
          case rel => exact ⟨i + 1, ea, eb, by omega, by omega, by go_num, hEa, hEb, HN, HA3, HC3, HB3⟩
          case measure => simp [intOf]; omega
      · have HN : Hid (mxE (L.take (i + 1)) = (x, y)) := by have := HT.out; rw [if_neg (fun h => hc (HGT.2 h))] at this; exact this
        have hcd := decide_eq_false hc
        clear HGT HT
        go_wp2_with fail
        go_region_law (first | (go_simp; go_at_fn 41; (with_reducible refine HCC.out.mono ?_); rintro e W8 ⟨rfl, b8⟩; have bA : Below wr.heap.size wr W8 := hD.trans (b8.mono hD.size)))
        all_goals
          have HA2 := Lib.hid (HA.out.below bA)
          have HC2 := Lib.hid (HC.out.below bA)
          have HB2 := Lib.hid (HB.out.trans (bA.mono HB.out.size))
          clear p0 p1 c0 c1 f0 f1 b8 bA
          go_wp2
          go_roundw
          case rel => exact ⟨i + 1, x, y, by omega, by omega, by go_num, hx, hy, HN, HA2, HC2, HB2⟩
          case measure => simp [intOf]; omega
    · obtain rfl : i = L.length := by omega
      have HE : Hid ((x, y) = mxE L) := by have := HX.out; rw [List.take_length] at this; exact this.symm
      have a0 := HA.out.at_ (i := 0) rfl
      have a1 := HA.out.at_ (i := 1) rfl
      have a2 := (HA.out.set 0 (.int .i64 (x : Int))).at_ (i := 1) rfl
      have c0 := HC.out.at_ (i := 0) rfl
      have c1 := HC.out.at_ (i := 1) rfl
      have f0 := HA.out.f 0
      have f1 := HA.out.f 1
      have r0 := ((HA.out.set 0 (.int .i64 (x : Int))).set 1 (.int .i64 (y : Int))).at_ (i := 0) rfl
      have r1 := ((HA.out.set 0 (.int .i64 (x : Int))).set 1 (.int .i64 (y : Int))).at_ (i := 1) rfl
      go_wp2
      refine bodyPost_ret (v := .agg #[.int .i64 (x : Int), .int .i64 (y : Int)]) (by simp [results, Try.results43, go_sem, r0, r1]) rfl ?_
      exact ⟨by rw [← HE.out], (HB.out.setCell (Nat.le_refl _) _).setCell (Nat.le_refl _) _⟩
end Fac
end Go.Proofs.Ytojmlhcgghaceaa
