/- Plain facts on numbers and bytes that the proofs of this folder share: the number that the first bytes of a string encode, and 'or' of numbers whose bits do not meet. No conditions beyond those that each fact states. -/
import Derived.WalkKit
import Derived.PlainAid
import Derived.Laws.BitsLemmas
import Derived.Laws.BytesArg
import Derived.OwnWalk
import Derived.Lib.Hide
namespace Go.Proofs.YtfpdikohlafpiaaGreat.Plain
open Go.PlainAid

theorem wraps_i64 (n : Int) (h₀ : 0 ≤ n) (h₁ : n < 2 ^ 63) : IntKind.i64.wrap n = n := by rw [IntKind.wrap_i64]; omega
theorem or8 (x y : Int) (h₀ : 0 ≤ x) (hx : x ≤ 9007199254740991) (hy₀ : 0 ≤ y) (hy : y ≤ 255) : bits .or .i64 (x * 256) y = x * 256 + y :=
  bits_join .i64 63 (by decide) wraps_i64 8 (x * 256) y (by omega) (by omega) (by omega) hy₀ (by omega) (by omega)

/-- The number that the first k bytes of s encode, the most significant one first. -/
def pv (s : ByteArray) : Nat → Int
  | 0 => 0
  | k + 1 => pv s k * 256 + bt s k
theorem pv_succ (s : ByteArray) (k : Nat) : pv s (k + 1) = pv s k * 256 + bt s k := rfl
theorem pv_bd (s : ByteArray) : ∀ k : Nat, 0 ≤ pv s k ∧ pv s k < 256 ^ k
  | 0 => ⟨Int.le_refl _, by show (0 : Int) < 1; omega⟩
  | k + 1 => by
    have ih := pv_bd s k
    have h1 := bt_nonneg s k
    have h2 := bt_le s k
    rw [pv_succ, Int.pow_succ]
    omega
theorem pow_le (k : Nat) (h : k ≤ 6) : (256 : Int) ^ k ≤ 281474976710656 := by
  have : k = 0 ∨ k = 1 ∨ k = 2 ∨ k = 3 ∨ k = 4 ∨ k = 5 ∨ k = 6 := by omega
  rcases this with rfl | rfl | rfl | rfl | rfl | rfl | rfl <;> decide
theorem pv_small (s : ByteArray) (k : Nat) (h : k ≤ 6) : 0 ≤ pv s k ∧ pv s k ≤ 281474976710655 := by
  have := pv_bd s k
  have := pow_le k h
  omega

/-- string(b) of a slice that the call owns. -/
theorem convert_owned {P : Program} (w : World) (src e dst : TypeId) (hs : P.underlying src = some (.slice e)) (he : P.underlying e = some (.int .u8)) (hd : P.underlying dst = some .string)
    (base : Nat) (v : Value) (n : Nat) (xs : List Int) (hown : w.ownsRow base e 1 v n (xs.map (Value.int .u8))) : (convert src dst v).run P w = .ok (.string (strOfNums xs)) w := by
  have hl : xs.length = n := by simpa using hown.1
  rcases hown.2 with ⟨rfl, rfl⟩ | ⟨g, cap, cur, rfl, _⟩
  · obtain rfl : xs = [] := List.eq_nil_of_length_eq_zero hl
    exact run_convert_bytes_nil w src e hs he 0 0 dst hd
  · refine run_convert_bytes_arg w src e hs he g 0 n cap xs hl (fun i hi => ?_) dst hd
    rw [Nat.zero_add, hown.cellAt i (by omega)]
    simp [List.getElem?_eq_getElem (show i < xs.length by omega)]

/-- The bytes of a varint: seven bits a byte, the lowest first, at most f + 1 of them. -/
def vb : Nat → Int → List Int
  | 0, n => [n]
  | f + 1, n => if n < 128 then [n] else (n % 128 + 128) :: vb f (n / 128)
theorem vb_last (f : Nat) (n : Int) (h : n < 128) : vb f n = [n] := by
  cases f with
  | zero => rfl
  | succ f => rw [vb, if_pos h]
theorem vb_step (f : Nat) (n : Int) (h : 128 ≤ n) : vb (f + 1) n = (n % 128 + 128) :: vb f (n / 128) := by rw [vb, if_neg (by omega)]
/-- Where the writing of n's varint stands: cs is written, m is left, f bytes may still come. -/
def VarintAt (n m : Int) (cs : List Int) : Prop := ∃ f : Nat, cs.length + f = 7 ∧ 0 ≤ m ∧ m < 128 ^ f ∧ cs ++ vb f m = vb 7 n
theorem varint_start (n : Int) (h0 : 0 ≤ n) (h1 : n ≤ 562949953421311) : VarintAt n n [] :=
  ⟨7, rfl, h0, by have : (128 : Int) ^ 7 = 562949953421312 := by decide
                  omega, rfl⟩
theorem varint_bd {n m : Int} {cs : List Int} (h : VarintAt n m cs) : 0 ≤ m ∧ m ≤ 562949953421311 ∧ cs.length ≤ 7 := by
  obtain ⟨f, hl, h0, h1, _⟩ := h
  have hp : (128 : Int) ^ f ≤ 128 ^ 7 := by
    have : f = 0 ∨ f = 1 ∨ f = 2 ∨ f = 3 ∨ f = 4 ∨ f = 5 ∨ f = 6 ∨ f = 7 := by omega
    rcases this with rfl | rfl | rfl | rfl | rfl | rfl | rfl | rfl <;> decide
  have : (128 : Int) ^ 7 = 562949953421312 := by decide
  omega
theorem varint_step {n m : Int} {cs : List Int} (h : VarintAt n m cs) (hm : 128 ≤ m) : VarintAt n (m / 128) (cs ++ [m % 128 + 128]) := by
  obtain ⟨f, hl, h0, h1, he⟩ := h
  cases f with
  | zero => simp at h1; omega
  | succ f =>
    rw [Int.pow_succ] at h1
    refine ⟨f, by simp; omega, by omega, by omega, ?_⟩
    rw [← he, vb_step f m hm]
    simp
theorem varint_end {n m : Int} {cs : List Int} (h : VarintAt n m cs) (hm : m < 128) : cs ++ [m] = vb 7 n := by
  obtain ⟨f, _, _, _, he⟩ := h
  rw [← he, vb_last f m hm]
end Go.Proofs.YtfpdikohlafpiaaGreat.Plain
