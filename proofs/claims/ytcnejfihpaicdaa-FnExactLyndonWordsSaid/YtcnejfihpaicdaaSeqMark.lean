/- Contracts of the exact laws' own helpers on sequences, fourth part: writing marks into one, asking for the marks. No conditions beyond those that each states. -/
import Derived.Test.YtcnejfihpaicdaaSeqSz
import Derived.Test.YtcnejfihpaicdaaCells3
import Derived.Outline
namespace Go.Proofs.Ytcnejfihpaicdaa
open Go.ChangeShapes Go.WideShapes Go.ChangeAt Go.RowKit
open Go.PlainAid Plain
set_option linter.unusedVariables false
namespace Seqs
open Ints
theorem lies_at {α : Type} {enc : α → Value} {w : World} {a : Option Addr} {n cap : Nat} {xs : List α} (h : Lies enc w (.slice a n cap) xs) {i : Nat} {x : α} (hx : xs[i]? = some x) : ∃ b off, a = some ⟨b, off, none⟩ ∧ w.cell? ⟨b, off + i, none⟩ = some (enc x) := by
  obtain ⟨_, a', cap', he, _, hc⟩ := h
  injection he with e1 e2 e3
  subst e1
  exact hc i x hx
/-- The rows' marks from k on. -/
def markedR (k : Int) (rows : List (List Int)) : List (List Int) := rows.mapIdx fun j r => marks (k + tot (rows.take j)) r.length
theorem markedR_at (k : Int) (rows : List (List Int)) (j : Nat) (r : List Int) (h : rows[j]? = some r) : (markedR k rows)[j]? = some (marks (k + tot (rows.take j)) r.length) := by simp [markedR, h]
theorem markedR_len (k : Int) (rows : List (List Int)) : (markedR k rows).length = rows.length := by simp [markedR]
/-- The marks are written into the rows before i. -/
def MarkAt (w : World) (lo hi : Nat) (us : List Value) (rows : List (List Int)) (k : Int) (i : Nat) : Prop :=
  ∀ (j : Nat) (u : Value) (r : List Int), us[j]? = some u → rows[j]? = some r → OwnI w lo hi u (if j < i then marks (k + tot (rows.take j)) r.length else r)
theorem MarkAt.step {w w' : World} {lo hi : Nat} {us : List Value} {rows : List (List Int)} {k : Int} {i : Nat} {u : Value} {r : List Int} (h : MarkAt w lo hi us rows k i)
    (hap : ∀ (i j : Nat) (u u' : Value), us[i]? = some u → us[j]? = some u' → i ≠ j → u.ownBlock = none ∨ u.ownBlock ≠ u'.ownBlock)
    (hu : us[i]? = some u) (hr : rows[i]? = some r) (hm : Has (Value.int .i64) 3 w' lo u (marks (k + tot (rows.take i)) r.length)) (hg : w.grownBy w' u.ownBlock) : MarkAt w' lo hi us rows k (i + 1) := by
  intro j u' r' hu' hr'
  by_cases e : j = i
  · subst e
    obtain rfl : u = u' := Option.some.inj (hu.symm.trans hu')
    obtain rfl : r = r' := Option.some.inj (hr.symm.trans hr')
    rw [if_pos (by omega)]
    have := h j u r hu hr
    exact ⟨hm, this.lt, Nat.le_trans this.le hg.size⟩
  · have h1 := (h j u' r' hu' hr').wrote (Wrote.of_grown hg) (fun x hx => by
      obtain rfl : x = u := by simpa using hx
      exact hap j i u' x hu' hu e)
    by_cases hj : j < i
    · rw [if_pos hj] at h1
      rw [if_pos (by omega)]
      exact h1
    · rw [if_neg hj] at h1
      rw [if_neg (by omega)]
      exact h1
theorem markR (v : Value) (us : List Value) (rows : List (List Int)) (w : World) (lo hi : Nat) (k : Int) (h : OwnR w lo hi v us rows) (h0 : 0 ≤ k) (h1 : k + tot rows ≤ 9223372036854775807) :
    Calls Try.prog 19 #[v, .int .i64 k] w fun e w' => e = .returned (.int .i64 (k + tot rows)) ∧ OwnRows w' lo hi us (markedR k rows) ∧ Wrote us w w' := by
  obtain ⟨a, ca, rfl, _⟩ := h.top.form
  have hlen := Lib.hid h.rows.len
  have hsm := h.top.small
  have HT := Lib.hid h.top
  have HAP := Lib.hid h.rows.apart
  have HM : Hid (MarkAt w lo hi us rows k 0) := fun j u r hu hr => by
    rw [if_neg (by omega)]
    exact h.rows.row j u r hu hr
  have HN := Lib.hid h.rows.row
  clear h
  go_enter Try.func19, Try.ntmps19
  go_wp2
  go_loopw [1, 5] (fun k' i' wr => ∃ (i : Nat) (m : Int), i ≤ us.length ∧ k' = .int .i64 m ∧ Hid (m = k + tot (rows.take i)) ∧ 0 ≤ m ∧ i' = .int .i64 i ∧ Hid (MarkAt wr lo hi us rows k i) ∧ Hid (Wrote us w wr)) (fun _ i' _ => us.length - (intOf i').toNat)
  case atStart => exact ⟨0, k, Nat.zero_le _, rfl, (by show k = k + tot []; simp [tot]), h0, rfl, HM, Wrote.refl _ _⟩
  case round =>
    obtain ⟨i, m, hile, rfl, hm, hm0, rfl, hat, hw⟩ := hrel
    by_cases hlt : i < us.length
    · obtain ⟨r, hr⟩ : ∃ r, rows[i]? = some r := ⟨_, List.getElem?_eq_getElem (by rw [← hlen.out]; exact hlt)⟩
      obtain ⟨u, hu⟩ : ∃ u, us[i]? = some u := ⟨_, List.getElem?_eq_getElem hlt⟩
      have HTr := Lib.hid (HT.out.of_same (w' := wr) fun b hb => hw.out.block b (HT.out.lt b hb).2 fun x hx e => by
        obtain ⟨j, hj⟩ := List.getElem?_of_mem hx
        obtain ⟨y, hy⟩ : ∃ y, rows[j]? = some y := ⟨_, List.getElem?_eq_getElem (by rw [← hlen.out]; exact (List.getElem?_eq_some_iff.1 hj).1)⟩
        rcases HT.out.ne_top (HN.out j x y hj hy).has with h2 | h2
        · rw [h2] at hb; cases hb
        · exact h2 (hb.trans e.symm))
      obtain ⟨b, off, rfl, hcell⟩ := lies_at HTr.out.lies hu
      have hcell' : wr.cell? ⟨b, off + i, none⟩ = some u := hcell
      have HO := Lib.hid (hat.out i u r hu hr)
      rw [if_neg (Nat.lt_irrefl i)] at HO
      have HTK := Lib.hid (tot_take rows i r hr)
      have hle := tot_take_le rows (i + 1)
      have hmle : m + r.length ≤ 9223372036854775807 := by have := HTK.out; have := hm.out; omega
      have HU := Lib.hid hu
      have HR := Lib.hid hr
      clear hcell hu hr HTr hle
      go_wp2_with fail
      refine (Ints.mark u r _ lo m HO.out.has hm0 hmle).mono ?_
      rintro e W1 ⟨rfl, hh, hg⟩
      rw [hm.out] at hh
      have HA1 := Lib.hid (hat.out.step HAP.out HU.out HR.out hh hg)
      have HW1 := Lib.hid (hw.out.trans ((Wrote.of_grown hg).mono (us' := us) fun x hx => by
        obtain rfl : x = u := by simpa using hx
        exact List.mem_of_getElem? HU.out))
      clear hh hg hat hw
      go_wp2
      go_roundw
      case rel => exact ⟨i + 1, m + r.length, by omega, rfl, (by show m + (r.length : Int) = k + tot (rows.take (i + 1)); have := HTK.out; have := hm.out; omega), by omega, by go_num, HA1.out, HW1.out⟩
      case measure => simp [intOf]; omega
    · have HE : Hid (m = k + tot rows) := by
        have := hm.out
        rw [List.take_of_length_le (by have := hlen.out; omega)] at this
        exact this
      have HZ : Hid (OwnRows wr lo hi us (markedR k rows)) := ⟨by rw [markedR_len, hlen.out], fun j u r hu hr => by
        obtain ⟨y, hy⟩ : ∃ y, rows[j]? = some y := ⟨_, List.getElem?_eq_getElem (by rw [← hlen.out]; exact (List.getElem?_eq_some_iff.1 hu).1)⟩
        have h2 := hat.out j u y hu hy
        rw [if_pos (by have := (List.getElem?_eq_some_iff.1 hu).1; omega)] at h2
        rw [markedR_at k rows j y hy] at hr
        obtain rfl := Option.some.inj hr
        exact h2, HAP.out⟩
      go_wp2
      go_ret
      exact ⟨ret_i HE.out, HZ.out, hw.out⟩
end Seqs
end Go.Proofs.Ytcnejfihpaicdaa
