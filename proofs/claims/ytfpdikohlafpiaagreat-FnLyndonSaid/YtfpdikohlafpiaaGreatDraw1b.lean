/- Contracts of the draws of the first chapter's law: some number, some short text, some number and width. No conditions beyond those that each states. -/
import Derived.Test.YtfpdikohlafpiaaGreatRows
import Derived.WalkKit
import Derived.ProofKit
import Derived.OpenShut
import Derived.ShutString
import Derived.PlainAid
import Derived.Lib.Hide
import Derived.BigQuiet
import Derived.Deep.QuietTactic
import Derived.Laws.Bits128
import Derived.WalkSmall
import Derived.OneCell
import Derived.Test.YtfpdikohlafpiaaGreatPlain
import Derived.Test.YtfpdikohlafpiaaGreatKit
import Derived.Test.YtfpdikohlafpiaaGreatBytes
import Derived.Test.YtfpdikohlafpiaaGreatCursor
import Derived.Test.YtfpdikohlafpiaaGreatDraw1
namespace Go.Proofs.YtfpdikohlafpiaaGreat
open Go.ChangeShapes Go.WideShapes Go.ChangeAt Go.RowKit
open Go.ChangeMaps (open_string shut_string)
open Go.PlainAid Plain
set_option linter.unusedVariables false
namespace Cursor
def SomePair (P : Int → Int → Prop) (Q : World → Prop) (e : Ending) (w' : World) : Prop := ∃ n m : Int, P n m ∧ e = .returned (.tuple #[.int .i64 n, .int .i64 m]) ∧ Q w'
theorem new_stands {W w w' : World} {p : Nat} {a : Option Addr} {len cap : Nat} (hb : Below W.heap.size W w) (hp : w.heap.size ≤ p) (hg : w.grownBy w' none) (hc : CurIs w' p a len cap) : Stands W w' p a len cap :=
  ⟨hb.grown hg hb.size (fun k hk => by cases hk), Nat.le_trans hb.size hp, hc⟩
theorem big_no (w : World) (a : Option Addr) (len cap : Nat) (h : len ≤ 1048576) :
    Calls Tryz.prog 4 #[.slice a len cap] w fun e w' => e = .returned (.bool false) ∧ w = w' := by
  have hd : decide (1048576 < len) = false := decide_eq_false (by omega)
  go_enter Tryz.func4, Tryz.ntmps4
  go_wp2
  go_ret
  exact ⟨by simp; omega, rfl⟩
theorem big_yes (w : World) (a : Option Addr) (len cap : Nat) (h : 1048576 < len) :
    Calls Tryz.prog 4 #[.slice a len cap] w fun e w' => e = .returned (.bool true) ∧ w = w' := by
  go_enter Tryz.func4, Tryz.ntmps4
  go_wp2
  go_ret
  exact ⟨by simp; omega, rfl⟩
end Cursor
end Go.Proofs.YtfpdikohlafpiaaGreat
