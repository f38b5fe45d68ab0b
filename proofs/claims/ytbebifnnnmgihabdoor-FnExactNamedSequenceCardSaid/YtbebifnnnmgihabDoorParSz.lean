/- The size of what is read out of a text, and the library's variable that the world holds. No conditions beyond those that each fact states. -/
import Derived.Test.YtbebifnnnmgihabDoorParVal
import Derived.Test.YtbebifnnnmgihabDoorSeqs
import Derived.Test.YtbebifnnnmgihabDoorShelf
namespace Go.Proofs.YtbebifnnnmgihabDoor
open Go.PlainAid Plain
namespace Par
theorem tot_four : ∀ rows : List (List Int), (∀ r ∈ rows, r.length ≤ 4) → tot rows ≤ 4 * rows.length
  | [], _ => by simp [tot]
  | r :: rows, h => by
    have h1 := tot_four rows (fun x hx => h x (by simp [hx]))
    have h2 := h r (by simp)
    have h3 : tot (r :: rows) = r.length + tot rows := by simp [tot]
    rw [h3, List.length_cons]
    omega
theorem par_size (l : List UInt8) : tot (parVR l) + (parVO l).length ≤ 1000 := by
  cases hk : parK l with
  | false =>
    rw [(par_no hk).2.1, (par_no hk).2.2]
    simp [tot]
  | true =>
    rw [(par_yes hk).2.1, (par_yes hk).2.2]
    obtain ⟨_, b, rows, out, h1, _, _, h3, h4⟩ := parK_fmt hk
    rw [h3, h4]
    have hs := seqB_out h1
    have h5 := tot_four rows (fun r hr => by have := (hs.2.2.2.2.2.1 r hr).1; have := hs.2.1; omega)
    have := hs.2.2.2.1
    have := hs.2.2.2.2.1
    omega
theorem maxlen_cell {w : World} (h : w.ShapedOpen Tryd.prog) : ∃ m, w.cell? ⟨0, 0, none⟩ = some (.int .i64 m) := Tryd.laysM145.s1_3 w h
end Par
end Go.Proofs.YtbebifnnnmgihabDoor
