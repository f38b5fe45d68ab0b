/- Contracts of the program's search for a part, OccurrencesOf and IsFactor. No conditions beyond those that each states. -/
import Derived.Test.YtojmlhcgghaceaaCmp
import Derived.Test.YtojmlhcgghaceaaCellsN2
import Derived.Deep.RegionHeld3
import Derived.Deep.DeepCutAuto
namespace Go.Proofs.Ytojmlhcgghaceaa
open Go.ChangeShapes Go.WideShapes Go.ChangeAt Go.RowKit
open Go.PlainAid Plain
set_option linter.unusedVariables false
namespace Fac
open Seqs
theorem has_set {α : Type} {enc : α → Value} {e : TypeId} {w : World} {base b o : Nat} {v : Value} {xs : List α} (h : Has enc e w base v xs) (hn : v.ownBlock ≠ some b) (x : Value) : Has enc e (w.setCell ⟨b, o, none⟩ x) base v xs :=
  h.of_same fun k hk => by
    have : b ≠ k := fun e => hn (by rw [hk, e])
    simp [World.setCell, Array.getElem?_modify, this]
/-- The borders of the first letters. -/
def bdT (u : List Int) (i : Nat) : List Int := (List.range (i + 1)).map (bd u)
theorem bdT_at (u : List Int) {i j : Nat} (h : j ≤ i) : (bdT u i)[j]? = some (bd u j) := by simp [bdT, show j < i + 1 from by omega]
theorem bdT_len (u : List Int) (i : Nat) : (bdT u i).length = i + 1 := by simp [bdT]
theorem bdT_succ (u : List Int) (i : Nat) : bdT u (i + 1) = bdT u i ++ [bd u (i + 1)] := by simp [bdT, List.range_succ (n := i + 1)]
theorem lies_some {w : World} {a : Option Addr} {n c : Nat} {xs : List Int} {i : Nat} {x : Int} (h : Lies (Value.int .i64) w (.slice a n c) xs) (hx : xs[i]? = some x) : ∃ b off, a = some ⟨b, off, none⟩ ∧ w.cell? ⟨b, off + i, none⟩ = some (.int .i64 x) := by
  obtain ⟨_, a', c', hv, _, hc⟩ := h
  injection hv with e1 e2 e3
  subst e1
  exact hc i x hx
theorem lies_form {w : World} {v : Value} {xs : List Int} (h : Lies (Value.int .i64) w v xs) : ∃ a c, v = .slice a xs.length c := by
  obtain ⟨_, a, c, rfl, _⟩ := h
  exact ⟨a, c, rfl⟩
set_option maxHeartbeats 1000000 in
theorem fit (vp vb : Value) (u : List Int) (n : Nat) (k c : Int) (w : World) (h1 : Lies (Value.int .i64) w vp u) (h2 : Lies (Value.int .i64) w vb (bdT u n)) (hk0 : -1 ≤ k) (hk1 : k < u.length) (hk2 : k ≤ n) :
    Calls Try.prog 82 #[.agg #[vp, vb], .int .i64 k, .int .i64 c] w fun e w' => e = .returned (.int .i64 (fa u k c)) ∧ Below w.heap.size w w' := by
  obtain ⟨pa, pc, rfl⟩ := lies_form h1
  obtain ⟨ba, bc, rfl⟩ := lies_form h2
  have hul := h1.1
  have HB : Hid (Below w.heap.size w (w.alloc (Obj.cells #[.slice pa u.length pc, .slice ba (bdT u n).length bc] 73))) := (Below.refl _ _).alloc (Nat.le_refl _) _
  have HP := Lib.hid (h1.below HB.out)
  have HD := Lib.hid (h2.below HB.out)
  have HC := Lib.hid (CellsN.new w 73 [.slice pa u.length pc, .slice ba (bdT u n).length bc])
  have HL := Lib.hid (bdT_len u n)
  clear h1 h2
  go_enter Try.func82, Try.ntmps82
  go_wp2_with fail
  obtain ⟨W, hW⟩ : ∃ W, W = w.alloc (Obj.cells #[.slice pa u.length pc, .slice ba (bdT u n).length bc] 73) := ⟨_, rfl⟩
  have e0 : [Value.slice pa u.length pc, Value.slice ba (bdT u n).length bc].toArray = #[Value.slice pa u.length pc, Value.slice ba (bdT u n).length bc] := rfl
  rw [e0] at HC
  rw [← hW] at HB HP HD HC ⊢
  have k0 := HC.out.at_ (i := 0) rfl
  have k1 := HC.out.at_ (i := 1) rfl
  clear hW e0
  go_loop [1] (fun f' => ∃ f : Int, f' = .int .i64 f ∧ -1 ≤ f ∧ f ≤ k ∧ Hid (fa u f c = fa u k c)) (fun f' => (intOf f' + 1).toNat)
  case atStart => exact ⟨k, rfl, hk0, by omega, rfl⟩
  case round =>
    obtain ⟨f, rfl, hf0, hfk, HF⟩ := hrel
    by_cases hf : f < 0
    · obtain rfl : f = -1 := by omega
      have HV : Hid (0 = fa u k c) := HF.out
      go_wp2
      go_ret
      exact ⟨ret_i HV.out, HB.out⟩
    · obtain ⟨m, hm⟩ : ∃ m : Nat, f = m := ⟨f.toNat, by omega⟩
      subst hm
      have hmu : m < u.length := by omega
      obtain ⟨x, hx⟩ : ∃ x, u[m]? = some x := ⟨_, List.getElem?_eq_getElem hmu⟩
      obtain ⟨p, o, hpa, hc1⟩ := lies_some HP.out hx
      obtain ⟨q, r, hba, hc2⟩ := lies_some HD.out (bdT_at u (i := n) (j := m) (by omega))
      subst hpa; subst hba
      have HX := Lib.hid hx
      clear hx
      have hbl : m < (bdT u n).length := by have := HL.out; omega
      by_cases hxc : x = c
      · subst hxc
        have HV : Hid ((m : Int) + 1 = fa u k x) := by rw [← HF.out, fa_hit HX.out]; rfl
        go_wp2
        go_ret
        exact ⟨ret_i HV.out, HB.out⟩
      · have HN : Hid (fa u (bd u m) c = fa u k c) := by
          rw [← HF.out]
          exact (fa_miss (fun h => hxc (Option.some.inj (HX.out.symm.trans h)))).symm
        have hbg := bd_ge u m
        have hd : (x != c) = true := by simpa using hxc
        clear hxc
        obtain ⟨g, hg⟩ : ∃ g, g = bd u m := ⟨_, rfl⟩
        rw [← hg] at hc2 HN hbg
        clear hg
        go_wp2
        go_round
        case rel => exact ⟨g, rfl, by omega, by omega, HN⟩
        case measure => simp [intOf]; omega
/-- What newFinder hands back: the part itself and its borders in a slice of the call's own. -/
def GivesF (vp : Value) (u : List Int) (w : World) (e : Ending) (w' : World) : Prop := ∃ vb, e = .returned (.agg #[vp, vb]) ∧ Has (Value.int .i64) 3 w' w.heap.size vb (bdT u u.length) ∧ Below w.heap.size w w'
set_option maxHeartbeats 1000000 in
theorem finder (v : Value) (u : List Int) (w : World) (h : Lies (Value.int .i64) w v u) (hs : u.length ≤ 4194304) :
    Calls Try.prog 70 #[v] w (GivesF v u w) := by
  obtain ⟨i0, hi, hz0, hz1, hz2⟩ := info_parts Ints.infoI
  obtain ⟨pa, pc, rfl⟩ := lies_form h
  have HU := Lib.hid h
  clear h
  have hb1 : Below w.heap.size w (((w.alloc (Obj.cells #[Value.slice none 0 0, Value.slice none 0 0] 73)).alloc (Obj.cells #[Value.int .i64 (-1)] 3)).alloc (Obj.cells #[Value.slice pa u.length pc, Value.slice (some ⟨w.heap.size + 1, 0, none⟩) 1 1] 73)) :=
    (((Below.refl _ _).alloc (Nat.le_refl _) _).alloc (by simp) _).alloc (by simp; omega) _
  have ho1 : Has (Value.int .i64) 3 (((w.alloc (Obj.cells #[Value.slice none 0 0, Value.slice none 0 0] 73)).alloc (Obj.cells #[Value.int .i64 (-1)] 3)).alloc (Obj.cells #[Value.slice pa u.length pc, Value.slice (some ⟨w.heap.size + 1, 0, none⟩) 1 1] 73)) w.heap.size (.slice (some ⟨w.heap.size + 1, 0, none⟩) 1 1) [-1] :=
    (has_lit1 (enc := (Value.int .i64)) (e := 3) (-1) (by simp) (Nat.le_succ _)).below ((Below.refl _ _).alloc (Nat.le_refl _) _)
  have hz1' := ((CellsN.new w 73 [Value.slice none 0 0, Value.slice none 0 0]).alloc (Obj.cells #[Value.int .i64 (-1)] 3)).alloc (Obj.cells #[Value.slice pa u.length pc, Value.slice (some ⟨w.heap.size + 1, 0, none⟩) 1 1] 73)
  have hf1 := CellsN.new ((w.alloc (Obj.cells #[Value.slice none 0 0, Value.slice none 0 0] 73)).alloc (Obj.cells #[Value.int .i64 (-1)] 3)) 73 [Value.slice pa u.length pc, Value.slice (some ⟨w.heap.size + 1, 0, none⟩) 1 1]
  rw [size_alloc', size_alloc'] at hf1
  have HB := Lib.hid hb1
  have HO := Lib.hid ho1
  have HZ := Lib.hid hz1'
  have HF := Lib.hid hf1
  clear hb1 ho1 hz1' hf1
  go_enter Try.func70, Try.ntmps70
  go_wp2
  go_loopw [4, 12] (fun f' i' wr => ∃ (i : Nat) (ba : Option Addr) (bc : Nat), i ≤ u.length ∧ f' = .int .i64 (bd u i) ∧ i' = .int .i64 i ∧ Hid (Has (Value.int .i64) 3 wr w.heap.size (.slice ba (i + 1) bc) (bdT u i)) ∧ Hid (CellsN wr (w.heap.size + 1 + 1) 73 [.slice pa u.length pc, .slice ba (i + 1) bc]) ∧ Hid (CellsN wr w.heap.size 73 [.slice none 0 0, .slice none 0 0]) ∧ Hid (Below w.heap.size w wr)) (fun _ i' _ => u.length - (intOf i').toNat)
  case atStart => exact ⟨0, _, _, Nat.zero_le _, rfl, rfl, HO, HF, HZ, HB⟩
  case round =>
    obtain ⟨i, ba, bc, hi', rfl, rfl, HOr, HFr, HZr, HBr⟩ := hrel
    by_cases hlt : i < u.length
    · obtain ⟨x, hx⟩ : ∃ x, u[i]? = some x := ⟨_, List.getElem?_eq_getElem hlt⟩
      obtain ⟨p, o, hpa, hc1⟩ := lies_some (HU.out.below HBr.out) hx
      subst hpa
      have hbg := bd_ge u i
      have hfit := fit _ _ u i (bd u i) x _ (HU.out.below HBr.out) HOr.out.lies hbg.1 (by omega) (by omega)
      rw [← bd_succ hx] at hfit
      have HFT := Lib.hid hfit
      clear hx hfit
      have k0 := HFr.out.at_ (i := 0) rfl
      have k1 := HFr.out.at_ (i := 1) rfl
      go_wp2_with fail
      refine HFT.out.mono ?_
      rintro e W1 ⟨rfl, b1⟩
      have HO1 := Lib.hid (HOr.out.below b1)
      have HF1 := Lib.hid (HFr.out.below b1)
      have HZ1 := Lib.hid (HZr.out.below b1)
      have HB1 := Lib.hid (HBr.out.trans (b1.mono HBr.out.size))
      have HL := Lib.hid (bdT_len u i)
      have HS := Lib.hid (bdT_succ u i)
      obtain ⟨g, hg⟩ : ∃ g, g = bd u (i + 1) := ⟨_, rfl⟩
      rw [← hg] at HS ⊢
      have HG := Lib.hid hg
      clear b1 HOr HFr HZr HBr HFT k0 k1 hbg hc1 hg
      have k1 := HF1.out.at_ (i := 1) rfl
      go_wp2_with (refine append_one (enc := (Value.int .i64)) (e := 3) W1 rfl _ _ 22 rfl w.heap.size i0 (.int .i64 0) 8 Try.underlying22 hi hz0 hz1 hz2 rfl (.slice ba (i + 1) bc) (bdT u i) rfl HO1.out g rfl (fun _ => rfl) (by have := HL.out; omega) (by have := HL.out; omega) HB1.out.size ?_; intro v' w1 ho hg; have hne := HF1.out.ne_has HO1.out (by decide); have HF2 := Lib.hid (HF1.out.grown hg hne); have HZ2 := Lib.hid (HZ1.out.grown hg (HZ1.out.ne_has HO1.out (by decide))); have HO2 := Lib.hid ho; have HB2 := Lib.hid (HO1.out.frame HB1.out (Nat.le_refl _) hg); obtain ⟨a', c', hv, _⟩ := ho.form; rw [show (bdT u i ++ [g]).length = i + 1 + 1 from by rw [List.length_append, HL.out]; rfl] at hv; subst hv; have m1 := HF2.out.at_ (i := 1) rfl; have m3 := HF2.out.f 1; clear hg ho hne)
      have HF3 := Lib.hid (HF2.out.set 1 (.slice a' (i + 1 + 1) c'))
      have HZ3 := Lib.hid (HZ2.out.other (a := ⟨w.heap.size + 1 + 1, 1, none⟩) (by simp; omega) (.slice a' (i + 1 + 1) c'))
      have HO3 := Lib.hid (has_set (b := w.heap.size + 1 + 1) (o := 1) HO2.out (HF2.out.ne_has HO2.out (by decide)) (.slice a' (i + 1 + 1) c'))
      have HB3 : Hid (Below w.heap.size w (w1.setCell ⟨w.heap.size + 1 + 1, 1, none⟩ (.slice a' (i + 1 + 1) c'))) := HB2.out.setCell (by show w.heap.size ≤ w.heap.size + 1 + 1; omega) _
      clear m1 m3 k1
      go_roundw
      case rel => exact ⟨i + 1, _, _, by omega, by rw [← HG.out], by go_num, by show Has _ _ _ _ _ _; rw [HS.out]; exact HO3.out, HF3, HZ3, HB3⟩
      case measure => simp [intOf]; omega
    · obtain rfl : i = u.length := by omega
      have k0 := HFr.out.at_ (i := 0) rfl
      have k1 := HFr.out.at_ (i := 1) rfl
      have z0 := HZr.out.at_ (i := 0) rfl
      have z1 := HZr.out.at_ (i := 1) rfl
      have z2 := HZr.out.f
      go_wp2
      have m0 := ((HZr.out.set 0 (.slice pa u.length pc)).set 1 (.slice ba (u.length + 1) bc)).at_ (i := 0) rfl
      have m1 := ((HZr.out.set 0 (.slice pa u.length pc)).set 1 (.slice ba (u.length + 1) bc)).at_ (i := 1) rfl
      have hne := HZr.out.ne_has HOr.out (by decide)
      refine bodyPost_ret (v := .agg #[.slice pa u.length pc, .slice ba (u.length + 1) bc]) (by simp [results, Try.results70, go_sem, m0, m1]) rfl ⟨_, rfl, has_set (has_set HOr.out hne _) hne _, ?_⟩
      exact (HBr.out.setCell (Nat.le_refl w.heap.size) _).setCell (Nat.le_refl w.heap.size) _
end Fac
end Go.Proofs.Ytojmlhcgghaceaa
