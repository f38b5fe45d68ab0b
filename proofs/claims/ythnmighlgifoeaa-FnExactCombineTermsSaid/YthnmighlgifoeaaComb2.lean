/- Contracts of wayOf and of CombineValues of the program. No conditions beyond those that each states. -/
import Derived.Test.YthnmighlgifoeaaComb1
import Derived.Test.YthnmighlgifoeaaCellsN2
import Derived.Laws.EntriesVeiled
namespace Go.Proofs.Ythnmighlgifoeaa
open Go.ChangeShapes Go.WideShapes Go.ChangeAt Go.RowKit
open Go.PlainAid Plain
set_option linter.unusedVariables false
namespace Comb
open Seqs
theorem l8_at (k : Nat) (h : k < 4) : ([.int .i64 1, .func (.func 68) #[] #[], .int .i64 2, .func (.func 69) #[] #[], .int .i64 3, .func (.func 71) #[] #[], .int .i64 4, .func (.func 72) #[] #[]] : List Value)[k * 2]? = some (.int .i64 ((k : Int) + 1)) ∧ ([.int .i64 1, .func (.func 68) #[] #[], .int .i64 2, .func (.func 69) #[] #[], .int .i64 3, .func (.func 71) #[] #[], .int .i64 4, .func (.func 72) #[] #[]] : List Value)[k * 2 + 1]? = some (wayV k) := by
  match k, h with
  | 0, _ => exact ⟨rfl, rfl⟩
  | 1, _ => exact ⟨rfl, rfl⟩
  | 2, _ => exact ⟨rfl, rfl⟩
  | 3, _ => exact ⟨rfl, rfl⟩
theorem way_yes (how : Int) (w : World) (h : 1 ≤ how ∧ how ≤ 4) :
    Calls Try.prog 40 #[.int .i64 how] w fun e w' => e = .returned (.tuple #[.agg #[.int .i64 how, .func (.func (wayF how)) #[] #[]], .bool true]) ∧ Below w.heap.size w w' := by
  obtain ⟨k, hk4, rfl⟩ : ∃ k : Nat, k < 4 ∧ how = (k : Int) + 1 := ⟨(how - 1).toNat, by omega, by omega⟩
  have hat : wayAt ((k : Int) + 1) = (k : Int) := by rw [wayAt, if_pos h]; omega
  obtain ⟨hw, hhw⟩ : ∃ hw : Int, hw = (k : Int) + 1 := ⟨_, rfl⟩
  obtain ⟨g, hg⟩ : ∃ g, g = wayF hw := ⟨_, rfl⟩
  have hu : .func (.func g) #[] #[] = wayV k := by rw [hg, hhw]; rfl
  have HU := Lib.hid hg
  rw [← hhw] at hat
  have HAT := Lib.hid hat
  have HHW := Lib.hid hhw
  have HUV := Lib.hid hu
  rw [← hhw]
  clear h hat hhw hu hg
  have hb0 : Below w.heap.size w (((w.alloc (.cells #[.int .i64 hw] 3)).alloc (.cells #[.int .i64 0, .nilFunc] 54)).alloc (.cells #[.int .i64 1, .func (.func 68) #[] #[], .int .i64 2, .func (.func 69) #[] #[], .int .i64 3, .func (.func 71) #[] #[], .int .i64 4, .func (.func 72) #[] #[]] 54)) := (((Below.refl _ _).alloc (Nat.le_refl _) _).alloc (by simp only [size_alloc'] <;> omega) _).alloc (by simp only [size_alloc'] <;> omega) _
  have c1 : CellsN (((w.alloc (.cells #[.int .i64 hw] 3)).alloc (.cells #[.int .i64 0, .nilFunc] 54)).alloc (.cells #[.int .i64 1, .func (.func 68) #[] #[], .int .i64 2, .func (.func 69) #[] #[], .int .i64 3, .func (.func 71) #[] #[], .int .i64 4, .func (.func 72) #[] #[]] 54)) w.heap.size 3 [.int .i64 hw] := ((CellsN.new w 3 [.int .i64 hw]).alloc (.cells #[.int .i64 0, .nilFunc] 54)).alloc (.cells #[.int .i64 1, .func (.func 68) #[] #[], .int .i64 2, .func (.func 69) #[] #[], .int .i64 3, .func (.func 71) #[] #[], .int .i64 4, .func (.func 72) #[] #[]] 54)
  have c2 : CellsN (((w.alloc (.cells #[.int .i64 hw] 3)).alloc (.cells #[.int .i64 0, .nilFunc] 54)).alloc (.cells #[.int .i64 1, .func (.func 68) #[] #[], .int .i64 2, .func (.func 69) #[] #[], .int .i64 3, .func (.func 71) #[] #[], .int .i64 4, .func (.func 72) #[] #[]] 54)) (w.heap.size + 1) 54 [.int .i64 0, .nilFunc] := by
    have h := (CellsN.new (w.alloc (.cells #[.int .i64 hw] 3)) 54 [.int .i64 0, .nilFunc]).alloc (.cells #[.int .i64 1, .func (.func 68) #[] #[], .int .i64 2, .func (.func 69) #[] #[], .int .i64 3, .func (.func 71) #[] #[], .int .i64 4, .func (.func 72) #[] #[]] 54)
    rw [size_alloc'] at h
    exact h
  have c3 : CellsN (((w.alloc (.cells #[.int .i64 hw] 3)).alloc (.cells #[.int .i64 0, .nilFunc] 54)).alloc (.cells #[.int .i64 1, .func (.func 68) #[] #[], .int .i64 2, .func (.func 69) #[] #[], .int .i64 3, .func (.func 71) #[] #[], .int .i64 4, .func (.func 72) #[] #[]] 54)) (w.heap.size + 1 + 1) 54 [.int .i64 1, .func (.func 68) #[] #[], .int .i64 2, .func (.func 69) #[] #[], .int .i64 3, .func (.func 71) #[] #[], .int .i64 4, .func (.func 72) #[] #[]] := by
    have h := CellsN.new ((w.alloc (.cells #[.int .i64 hw] 3)).alloc (.cells #[.int .i64 0, .nilFunc] 54)) 54 [.int .i64 1, .func (.func 68) #[] #[], .int .i64 2, .func (.func 69) #[] #[], .int .i64 3, .func (.func 71) #[] #[], .int .i64 4, .func (.func 72) #[] #[]]
    rw [size_alloc', size_alloc'] at h
    exact h
  have C1 := Lib.hid c1
  have C2 := Lib.hid c2
  have C3 := Lib.hid c3
  have HB := Lib.hid hb0
  clear c1 c2 c3 hb0
  go_enter Try.func40, Try.ntmps40
  go_wp2_with fail
  obtain ⟨W3, hW3⟩ : ∃ W, W = (((w.alloc (.cells #[.int .i64 hw] 3)).alloc (.cells #[.int .i64 0, .nilFunc] 54)).alloc (.cells #[.int .i64 1, .func (.func 68) #[] #[], .int .i64 2, .func (.func 69) #[] #[], .int .i64 3, .func (.func 71) #[] #[], .int .i64 4, .func (.func 72) #[] #[]] 54)) := ⟨_, rfl⟩
  rw [← hW3] at C1 C2 C3 HB ⊢
  clear hW3
  have hidx := way_index hw W3 (w.heap.size + 1 + 1) w.heap.size C1.out.lt C3.out.lt (C1.out.at_ rfl) (fun k hk => ⟨C3.out.at_ (l8_at k hk).1, C3.out.at_ (l8_at k hk).2⟩)
  rw [HAT.out] at hidx
  refine hidx.mono ?_
  rintro e W4 ⟨rfl, hb⟩
  have C24 := Lib.hid (C2.out.below hb)
  have C34 := Lib.hid (C3.out.below hb)
  have HB4 := Lib.hid (HB.out.trans (hb.mono HB.out.size))
  clear hb hidx C1 C2 C3 HB
  have x0 := C34.out.at_ (l8_at k hk4).1
  have x1 := C34.out.at_ (l8_at k hk4).2
  rw [← HHW.out] at x0
  rw [← HUV.out] at x1
  have f0 := C24.out.f
  have z0 := C24.out.at_ (i := 0) rfl
  have z1 := C24.out.at_ (i := 1) rfl
  have hd := decide_eq_false (show ¬ (k : Int) < 0 by omega)
  go_wp2
  have hn := (C24.out.set 0 (.int .i64 hw)).set 1 (.func (.func g) #[] #[])
  have n0 := hn.at_ (i := 0) rfl
  have n1 := hn.at_ (i := 1) rfl
  refine bodyPost_ret (v := .tuple #[.agg #[.int .i64 hw, .func (.func g) #[] #[]], .bool true]) (by simp [results, Try.results40, go_sem, n0, n1]) rfl ⟨by rw [HU.out], ?_⟩
  exact (HB4.out.setCell (by show _ ≤ _ + 1; omega) _).setCell (by show _ ≤ _ + 1; omega) _
theorem way_no (how : Int) (w : World) (h : ¬ (1 ≤ how ∧ how ≤ 4)) :
    Calls Try.prog 40 #[.int .i64 how] w fun e w' => e = .returned (.tuple #[.agg #[.int .i64 0, .nilFunc], .bool false]) ∧ Below w.heap.size w w' := by
  have hat : wayAt how = -1 := by rw [wayAt, if_neg h]
  have HAT := Lib.hid hat
  clear h hat
  have hb0 : Below w.heap.size w (((w.alloc (.cells #[.int .i64 how] 3)).alloc (.cells #[.int .i64 0, .nilFunc] 54)).alloc (.cells #[.int .i64 1, .func (.func 68) #[] #[], .int .i64 2, .func (.func 69) #[] #[], .int .i64 3, .func (.func 71) #[] #[], .int .i64 4, .func (.func 72) #[] #[]] 54)) := (((Below.refl _ _).alloc (Nat.le_refl _) _).alloc (by simp only [size_alloc'] <;> omega) _).alloc (by simp only [size_alloc'] <;> omega) _
  have c1 : CellsN (((w.alloc (.cells #[.int .i64 how] 3)).alloc (.cells #[.int .i64 0, .nilFunc] 54)).alloc (.cells #[.int .i64 1, .func (.func 68) #[] #[], .int .i64 2, .func (.func 69) #[] #[], .int .i64 3, .func (.func 71) #[] #[], .int .i64 4, .func (.func 72) #[] #[]] 54)) w.heap.size 3 [.int .i64 how] := ((CellsN.new w 3 [.int .i64 how]).alloc (.cells #[.int .i64 0, .nilFunc] 54)).alloc (.cells #[.int .i64 1, .func (.func 68) #[] #[], .int .i64 2, .func (.func 69) #[] #[], .int .i64 3, .func (.func 71) #[] #[], .int .i64 4, .func (.func 72) #[] #[]] 54)
  have c2 : CellsN (((w.alloc (.cells #[.int .i64 how] 3)).alloc (.cells #[.int .i64 0, .nilFunc] 54)).alloc (.cells #[.int .i64 1, .func (.func 68) #[] #[], .int .i64 2, .func (.func 69) #[] #[], .int .i64 3, .func (.func 71) #[] #[], .int .i64 4, .func (.func 72) #[] #[]] 54)) (w.heap.size + 1) 54 [.int .i64 0, .nilFunc] := by
    have h := (CellsN.new (w.alloc (.cells #[.int .i64 how] 3)) 54 [.int .i64 0, .nilFunc]).alloc (.cells #[.int .i64 1, .func (.func 68) #[] #[], .int .i64 2, .func (.func 69) #[] #[], .int .i64 3, .func (.func 71) #[] #[], .int .i64 4, .func (.func 72) #[] #[]] 54)
    rw [size_alloc'] at h
    exact h
  have c3 : CellsN (((w.alloc (.cells #[.int .i64 how] 3)).alloc (.cells #[.int .i64 0, .nilFunc] 54)).alloc (.cells #[.int .i64 1, .func (.func 68) #[] #[], .int .i64 2, .func (.func 69) #[] #[], .int .i64 3, .func (.func 71) #[] #[], .int .i64 4, .func (.func 72) #[] #[]] 54)) (w.heap.size + 1 + 1) 54 [.int .i64 1, .func (.func 68) #[] #[], .int .i64 2, .func (.func 69) #[] #[], .int .i64 3, .func (.func 71) #[] #[], .int .i64 4, .func (.func 72) #[] #[]] := by
    have h := CellsN.new ((w.alloc (.cells #[.int .i64 how] 3)).alloc (.cells #[.int .i64 0, .nilFunc] 54)) 54 [.int .i64 1, .func (.func 68) #[] #[], .int .i64 2, .func (.func 69) #[] #[], .int .i64 3, .func (.func 71) #[] #[], .int .i64 4, .func (.func 72) #[] #[]]
    rw [size_alloc', size_alloc'] at h
    exact h
  have C1 := Lib.hid c1
  have C2 := Lib.hid c2
  have C3 := Lib.hid c3
  have HB := Lib.hid hb0
  clear c1 c2 c3 hb0
  go_enter Try.func40, Try.ntmps40
  go_wp2_with fail
  obtain ⟨W3, hW3⟩ : ∃ W, W = (((w.alloc (.cells #[.int .i64 how] 3)).alloc (.cells #[.int .i64 0, .nilFunc] 54)).alloc (.cells #[.int .i64 1, .func (.func 68) #[] #[], .int .i64 2, .func (.func 69) #[] #[], .int .i64 3, .func (.func 71) #[] #[], .int .i64 4, .func (.func 72) #[] #[]] 54)) := ⟨_, rfl⟩
  rw [← hW3] at C1 C2 C3 HB ⊢
  clear hW3
  have hidx := way_index how W3 (w.heap.size + 1 + 1) w.heap.size C1.out.lt C3.out.lt (C1.out.at_ rfl) (fun k hk => ⟨C3.out.at_ (l8_at k hk).1, C3.out.at_ (l8_at k hk).2⟩)
  rw [HAT.out] at hidx
  refine hidx.mono ?_
  rintro e W4 ⟨rfl, hb⟩
  have C24 := Lib.hid (C2.out.below hb)
  have HB4 := Lib.hid (HB.out.trans (hb.mono HB.out.size))
  clear hb hidx C1 C2 C3 HB
  have f0 := C24.out.f
  have z0 := C24.out.at_ (i := 0) rfl
  have z1 := C24.out.at_ (i := 1) rfl
  go_wp2
  have hn := (C24.out.set 0 (.int .i64 0)).set 1 .nilFunc
  have n0 := hn.at_ (i := 0) rfl
  have n1 := hn.at_ (i := 1) rfl
  refine bodyPost_ret (v := .tuple #[.agg #[.int .i64 0, .nilFunc], .bool false]) (by simp [results, Try.results40, go_sem, n0, n1]) rfl ⟨rfl, ?_⟩
  exact (HB4.out.setCell (by show _ ≤ _ + 1; omega) _).setCell (by show _ ≤ _ + 1; omega) _
end Comb
end Go.Proofs.Ythnmighlgifoeaa
