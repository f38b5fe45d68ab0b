/- Plain facts on hexadecimal digits. No conditions beyond those that each fact states. -/
import Derived.Test.YtkplmhnhpkpppaaPlain
import Derived.Test.YtkplmhnhpkpppaaBytes
namespace Go.Proofs.Ytkplmhnhpkpppaa.Plain
open Go.PlainAid

/-- The sixteen digits; the digit of a number from 0 to 15. -/
def HEX : ByteArray := ⟨#[48, 49, 50, 51, 52, 53, 54, 55, 56, 57, 97, 98, 99, 100, 101, 102]⟩
def hexd (n : Int) : Int := bt HEX n.toNat
theorem hexd_bd (n : Int) : 0 ≤ hexd n ∧ hexd n ≤ 255 := ⟨bt_nonneg _ _, bt_le _ _⟩
/-- What EncodeHex writes for the first k bytes of s. -/
def hexl (s : ByteArray) : Nat → List Int
  | 0 => []
  | k + 1 => hexl s k ++ [hexd (bt s k / 16), hexd (bt s k % 16)]
theorem hexl_length (s : ByteArray) : ∀ k : Nat, (hexl s k).length = 2 * k
  | 0 => rfl
  | k + 1 => by simp [hexl, hexl_length s k]; omega
theorem and15 (x : Int) (h0 : 0 ≤ x) (h1 : x ≤ 255) : bits .and .u8 x 15 = x % 16 := Go.u8_and15 x h0 (by omega)
theorem hex_size : HEX.size = 16 := rfl
end Go.Proofs.Ytkplmhnhpkpppaa.Plain
