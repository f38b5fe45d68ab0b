/- Contracts of EncodeVarint in the program and in the model: for every int both return the same string, the varint's bytes or the empty string; what was in memory stays as it was. -/
import Derived.Test.YtkplmhnhpkpppaaDoorRows
import Derived.WalkKit
import Derived.ProofKit
import Derived.OpenShut
import Derived.ShutString
import Derived.PlainAid
import Derived.Lib.Hide
import Derived.Test.YtkplmhnhpkpppaaDoorPlain
import Derived.Test.YtkplmhnhpkpppaaDoorKit
import Derived.Test.YtkplmhnhpkpppaaDoorCommon
namespace Go.Proofs.YtkplmhnhpkpppaaDoor
open Go.ChangeShapes Go.WideShapes Go.ChangeAt Go.RowKit
open Go.ChangeMaps (open_string shut_string)
open Go.PlainAid Plain
set_option linter.unusedVariables false
namespace VarintEnc
theorem info5 : (Tryd.prog.info? 5).map (fun i => (i.zero, i.size, i.bytes)) = some (some (.int .u8 0), 1, 1) := by kernel_rfl
theorem ret_str {a b : ByteArray} (h : a = b) : Ending.returned (.string a) = Ending.returned (.string b) := by rw [h]

theorem impl_ok (n : Int) (w : World) (h0 : 0 ≤ n) (h1 : n ≤ 562949953421311) :
    Calls Tryd.prog 9 #[.int .i64 n] w fun e w' => e = .returned (.string (strOfNums (vb 7 n))) ∧ Below w.heap.size w w' := by
  obtain ⟨i0, hi, hz0, hz1, hz2⟩ := info_parts info5
  have hst := Lib.hid (varint_start n h0 h1)
  have hd0 : decide (n < 0) = false := by simp; omega
  have hd1 : decide (562949953421311 < n) = false := by simp; omega
  go_enter Tryd.func9, Tryd.ntmps9
  go_wp2
  go_loopw [0, 3] (fun m' v wr => ∃ (m : Int) (cs : List Int), m' = .int .i64 m ∧ wr.ownsRow w.heap.size 5 1 v cs.length (cs.map (Value.int .u8)) ∧ Below w.heap.size w wr ∧ Hid (VarintAt n m cs)) (fun m' _ _ => (intOf m').toNat)
  case atStart => exact ⟨n, [], rfl, World.ownsRow_nil _ _ _ _, Below.refl _ _, hst.out⟩
  case round =>
    obtain ⟨m, cs, rfl, hown, hbel, hva⟩ := hrel
    obtain ⟨hb0, hb1, hb2⟩ := varint_bd hva.out
    by_cases hlt : 128 ≤ m
    · have HS := Lib.hid (varint_step hva.out hlt)
      go_wp2_with (at_builtin; refine append_new w wr rfl _ _ 22 rfl w.heap.size 5 i0 (.int .u8 0) 1 Tryd.underlying22 hi hz0 hz1 hz2 rfl _ _ _ rfl (by exact hown) [.int .u8 (m % 128 + 128)] 1 rfl (by simp [Value.oneCell']) (by simp; omega) (by simp; omega) hbel (by omega) hbel.size ?_; intro v' w1 hown1 hbel1)
      go_roundw
      case rel => exact ⟨m / 128, cs ++ [m % 128 + 128], rfl, by simpa using hown1, hbel1, HS⟩
      case measure => simp [intOf]; omega
    · have HE := Lib.hid (varint_end hva.out (by omega))
      go_wp2_with (at_builtin; refine append_new w wr rfl _ _ 22 rfl w.heap.size 5 i0 (.int .u8 0) 1 Tryd.underlying22 hi hz0 hz1 hz2 rfl _ _ _ rfl (by exact hown) [.int .u8 m] 1 rfl (by simp [Value.oneCell']) (by simp; omega) (by simp; omega) hbel (by omega) hbel.size ?_; intro v' w1 hown1 hbel1; have hcv := convert_owned (P := Tryd.prog) w1 22 5 9 Tryd.underlying22 Tryd.underlying5 Tryd.underlying9 w.heap.size v' (cs.length + 1) (cs ++ [m]) (by simpa using hown1))
      go_ret
      exact ⟨ret_str (by rw [HE.out]), hbel1⟩
theorem impl_no (n : Int) (w : World) (h : n < 0 ∨ 562949953421311 < n) :
    Calls Tryd.prog 9 #[.int .i64 n] w fun e w' => e = .returned (.string ⟨#[]⟩) ∧ w = w' := by
  by_cases h1 : n < 0
  · clear h
    go_enter Tryd.func9, Tryd.ntmps9
    go_wp2
    go_ret
    exact ⟨rfl, rfl⟩
  · have h2 : 562949953421311 < n := by omega
    clear h
    go_enter Tryd.func9, Tryd.ntmps9
    go_wp2
    go_ret
    exact ⟨rfl, rfl⟩
end VarintEnc
end Go.Proofs.YtkplmhnhpkpppaaDoor
