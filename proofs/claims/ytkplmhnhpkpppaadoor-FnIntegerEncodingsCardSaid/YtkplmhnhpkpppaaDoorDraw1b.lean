/- Contracts of the draws of the first chapter's law: some number, some short text, some number and width. No conditions beyond those that each states. -/
import Derived.Test.YtkplmhnhpkpppaaDoorRows
import Derived.WalkKit
import Derived.ProofKit
import Derived.OpenShut
import Derived.ShutString
import Derived.PlainAid
import Derived.Lib.Hide
import Derived.BigQuiet
import Derived.Deep.QuietTactic
import Derived.Laws.Bits128
import Derived.WalkSmall
import Derived.OneCell
import Derived.Test.YtkplmhnhpkpppaaDoorPlain
import Derived.Test.YtkplmhnhpkpppaaDoorKit
import Derived.Test.YtkplmhnhpkpppaaDoorBytes
import Derived.Test.YtkplmhnhpkpppaaDoorCursor
import Derived.Test.YtkplmhnhpkpppaaDoorDraw1
namespace Go.Proofs.YtkplmhnhpkpppaaDoor
open Go.ChangeShapes Go.WideShapes Go.ChangeAt Go.RowKit
open Go.ChangeMaps (open_string shut_string)
open Go.PlainAid Plain
set_option linter.unusedVariables false
namespace Cursor
def SomePair (P : Int → Int → Prop) (Q : World → Prop) (e : Ending) (w' : World) : Prop := ∃ n m : Int, P n m ∧ e = .returned (.tuple #[.int .i64 n, .int .i64 m]) ∧ Q w'
theorem new_stands {W w w' : World} {p : Nat} {a : Option Addr} {len cap : Nat} (hb : Below W.heap.size W w) (hp : w.heap.size ≤ p) (hg : w.grownBy w' none) (hc : CurIs w' p a len cap) : Stands W w' p a len cap :=
  ⟨hb.grown hg hb.size (fun k hk => by cases hk), Nat.le_trans hb.size hp, hc⟩
theorem drawNum (W w : World) (a : Option Addr) (len cap : Nat) (hlen : len ≤ 1048576) (hcode : CodeIs W W.heap.size a len) (hb : Below W.heap.size W w) :
    Calls Tryd.prog 7 #[.slice a len cap] w (SomeInt I64 (fun w' => Below W.heap.size W w')) := by
  have HN := Lib.hid (new W w a len cap hlen hcode hb)
  have HM := Lib.hid (fun (w : World) (p : Nat) (hs : Stands W w p a len cap) => num W w p a len cap hlen hcode hs)
  clear hcode
  go_enter Tryd.func7, Tryd.ntmps7
  go_wp2_with fail
  refine HN.out.mono ?_
  rintro e w1 ⟨p, rfl, hp, hg, hc⟩
  have hs := new_stands hb hp hg hc
  clear hg hc
  go_wp2_with fail
  refine (HM.out w1 p hs).mono ?_
  rintro e w2 ⟨x, hx, rfl, hs2⟩
  have HX := Lib.hid hx
  clear hx
  go_wp2
  go_ret
  exact ⟨x, HX.out, rfl, hs2.below⟩
theorem drawText (W w : World) (a : Option Addr) (len cap : Nat) (hlen : len ≤ 1048576) (hcode : CodeIs W W.heap.size a len) (hb : Below W.heap.size W w) :
    Calls Tryd.prog 8 #[.slice a len cap] w (SomeText 40 (fun w' => Below W.heap.size W w')) := by
  have HN := Lib.hid (new W w a len cap hlen hcode hb)
  have HM := Lib.hid (fun (w : World) (p : Nat) (hs : Stands W w p a len cap) => text W w p a len cap 40 (by decide) hlen hcode hs)
  clear hcode
  go_enter Tryd.func8, Tryd.ntmps8
  go_wp2_with fail
  refine HN.out.mono ?_
  rintro e w1 ⟨p, rfl, hp, hg, hc⟩
  have hs := new_stands hb hp hg hc
  clear hg hc
  go_wp2_with fail
  refine (HM.out w1 p hs).mono ?_
  rintro e w2 ⟨x, hx, rfl, hs2⟩
  go_wp2
  go_ret
  exact ⟨x, hx, rfl, hs2.below⟩
theorem drawPair (W w : World) (a : Option Addr) (len cap : Nat) (hlen : len ≤ 1048576) (hcode : CodeIs W W.heap.size a len) (hb : Below W.heap.size W w) :
    Calls Tryd.prog 11 #[.slice a len cap] w (SomePair (fun n m => I64 n ∧ -1 ≤ m ∧ m ≤ 8) (fun w' => Below W.heap.size W w')) := by
  have HN := Lib.hid (new W w a len cap hlen hcode hb)
  have HM := Lib.hid (fun (w : World) (p : Nat) (hs : Stands W w p a len cap) => num W w p a len cap hlen hcode hs)
  have HB := Lib.hid (fun (w : World) (p : Nat) (hs : Stands W w p a len cap) => below W w p a len cap 10 (by decide) (by decide) hlen hcode hs)
  clear hcode
  go_enter Tryd.func11, Tryd.ntmps11
  go_wp2_with fail
  refine HN.out.mono ?_
  rintro e w1 ⟨p, rfl, hp, hg, hc⟩
  have hs := new_stands hb hp hg hc
  clear hg hc
  go_wp2_with fail
  refine (HM.out w1 p hs).mono ?_
  rintro e w2 ⟨x, hx, rfl, hs2⟩
  have HX := Lib.hid hx
  clear hx
  go_wp2_with fail
  refine (HB.out w2 p hs2).mono ?_
  rintro e w3 ⟨y, ⟨hy0, hy1⟩, rfl, hg3, hc3⟩
  have hs3 := hs2.next hg3 hc3
  go_wp2
  go_ret2
  exact ⟨x, y - 1, ⟨HX.out, by omega, by omega⟩, rfl, hs3.below⟩
theorem big_no (w : World) (a : Option Addr) (len cap : Nat) (h : len ≤ 1048576) :
    Calls Tryd.prog 6 #[.slice a len cap] w fun e w' => e = .returned (.bool false) ∧ w = w' := by
  have hd : decide (1048576 < len) = false := decide_eq_false (by omega)
  go_enter Tryd.func6, Tryd.ntmps6
  go_wp2
  go_ret
  exact ⟨by simp; omega, rfl⟩
theorem big_yes (w : World) (a : Option Addr) (len cap : Nat) (h : 1048576 < len) :
    Calls Tryd.prog 6 #[.slice a len cap] w fun e w' => e = .returned (.bool true) ∧ w = w' := by
  go_enter Tryd.func6, Tryd.ntmps6
  go_wp2
  go_ret
  exact ⟨by simp; omega, rfl⟩
end Cursor
end Go.Proofs.YtkplmhnhpkpppaaDoor
