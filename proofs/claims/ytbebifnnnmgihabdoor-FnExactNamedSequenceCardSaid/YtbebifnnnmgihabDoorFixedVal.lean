/- Plain facts on the encoding of a number as a fixed count of bytes, the most significant one first. No conditions beyond those that each fact states. -/
import Derived.Test.YtbebifnnnmgihabDoorPlain
import Derived.Test.YtbebifnnnmgihabDoorBytes
import Derived.Test.YtbebifnnnmgihabDoorKit
namespace Go.Proofs.YtbebifnnnmgihabDoor.Plain
open Go.PlainAid

/-- n as r bytes, the most significant one first; what is left of n behind r bytes. -/
def fb : Nat → Int → List Int
  | 0, _ => []
  | r + 1, n => fb r (n / 256) ++ [n % 256]
def dn : Nat → Int → Int
  | 0, n => n
  | r + 1, n => dn r (n / 256)
theorem fb_length : ∀ (r : Nat) (n : Int), (fb r n).length = r
  | 0, _ => rfl
  | r + 1, n => by simp [fb, fb_length r]
theorem dn_eq : ∀ (r : Nat) (n : Int), dn r n = n / 2 ^ (8 * r)
  | 0, n => by simp [dn]
  | r + 1, n => by
    rw [dn, dn_eq r, show 8 * (r + 1) = 8 + 8 * r from by omega, Int.pow_add, Int.ediv_ediv_of_nonneg (by decide)]
    rfl
theorem fb_bytes : ∀ (r : Nat) (n : Int), AreBytes (fb r n)
  | 0, _ => fun x hx => by simp [fb] at hx
  | r + 1, n => fun x hx => by
    simp only [fb, List.mem_append, List.mem_singleton] at hx
    rcases hx with hx | rfl
    · exact fb_bytes r _ x hx
    · omega
/-- Where the writing of n's w bytes stands: out is written, m is left, r bytes are still to come. -/
def FixedAt (n : Int) (w r : Nat) (m : Int) (out : List Int) : Prop := out.length + r = w ∧ fb r m ++ out = fb w n ∧ dn r m = dn w n
theorem fixed_start (n : Int) (w : Nat) : FixedAt n w w n [] := ⟨by simp, by simp, rfl⟩
theorem fixed_step {n : Int} {w r : Nat} {m : Int} {out : List Int} (h : FixedAt n w (r + 1) m out) : FixedAt n w r (m / 256) (m % 256 :: out) := by
  obtain ⟨h1, h2, h3⟩ := h
  exact ⟨by simp; omega, by rw [← h2]; simp [fb], h3⟩
theorem fixed_end {n : Int} {w : Nat} {m : Int} {out : List Int} (h : FixedAt n w 0 m out) : out = fb w n ∧ m = dn w n := by
  obtain ⟨_, h2, h3⟩ := h
  exact ⟨by simpa [fb] using h2, h3⟩
theorem strOfNums_append (a b : List Int) : strOfNums a ++ strOfNums b = strOfNums (a ++ b) := by
  apply ByteArray.ext
  simp [strOfNums, ByteArray.data_append]
/-- What EncodeFixed returns for a number that is not negative and a width in range. -/
def fixedStr (a : Nat) (n : Int) : ByteArray := if 0 < dn a n then ⟨#[]⟩ else strOfNums (fb a n)
theorem fixedStr_no {a : Nat} {n : Int} (h : 0 < dn a n) : fixedStr a n = ⟨#[]⟩ := if_pos h
theorem fixedStr_yes {a : Nat} {n : Int} (h : ¬ 0 < dn a n) : fixedStr a n = strOfNums (fb a n) := if_neg h
theorem dn_nonneg (a : Nat) (n : Int) (h : 0 ≤ n) : 0 ≤ dn a n := by rw [dn_eq]; exact Int.ediv_nonneg h (Int.le_of_lt (Int.pow_pos (by decide)))
theorem zeros_set (t : Nat) (x : Int) (out : List Int) : ((List.replicate (t + 1) (0 : Int) ++ out).map (Value.int .u8)).set t (.int .u8 x) = (List.replicate t (0 : Int) ++ x :: out).map (Value.int .u8) := by
  rw [List.replicate_succ', List.append_assoc, List.map_append, List.set_append_right _ _ (by simp)]
  simp
theorem zeros_at (t : Nat) (out : List Int) : ((List.replicate (t + 1) (0 : Int) ++ out).map (Value.int .u8))[t]? = some (.int .u8 0) := by
  rw [List.replicate_succ', List.append_assoc, List.map_append, List.getElem?_append_right (by simp)]
  simp
theorem zeros_made (a : Nat) : (madeCells (Value.int .u8 0).cells (a * 1)).toList = (List.replicate a (0 : Int) ++ []).map (Value.int .u8) := by
  rw [show (Value.int .u8 0).cells = #[Value.int .u8 0] from rfl, toList_madeCells_one]
  simp
/-- string([]byte{x}) of a block that was just laid. -/
theorem convert_lit {P : Program} (w : World) (src e dst : TypeId) (hs : P.underlying src = some (.slice e)) (he : P.underlying e = some (.int .u8)) (hd : P.underlying dst = some .string)
    (x : Int) : (convert src dst (.slice (some ⟨w.heap.size, 0, none⟩) 1 1)).run P (w.alloc (.cells #[.int .u8 x] e)) = .ok (.string (strOfNums [x])) (w.alloc (.cells #[.int .u8 x] e)) := by
  refine run_convert_bytes_arg _ src e hs he w.heap.size 0 1 1 [x] rfl (fun i hi => ?_) dst hd
  obtain rfl : i = 0 := by omega
  rw [Nat.zero_add, cell_of_row _ w.heap.size 0 #[.int .u8 x] e (0, 0) (heap_alloc_new w _)]
  rfl
end Go.Proofs.YtbebifnnnmgihabDoor.Plain
