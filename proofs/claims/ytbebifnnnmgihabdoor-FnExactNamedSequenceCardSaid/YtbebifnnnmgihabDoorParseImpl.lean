/- Contract of the program's ParseInt: it returns the number that the text is the numeral of, where that has at most nine digits, and true; else 0 and false; what was in memory stays as it was. It asks that the library's table of powers of ten hold its numbers. -/
import Derived.Test.YtbebifnnnmgihabDoorRows
import Derived.WalkKit
import Derived.ProofKit
import Derived.OpenShut
import Derived.ShutString
import Derived.PlainAid
import Derived.Lib.Hide
import Derived.Lib.OthersKept
import Derived.Laws.RangeAny
import Derived.WalkSmall
import Derived.BigQuiet
import Derived.Test.YtbebifnnnmgihabDoorPlain
import Derived.Test.YtbebifnnnmgihabDoorKit
import Derived.Test.YtbebifnnnmgihabDoorParseVal
import Derived.Test.YtbebifnnnmgihabDoorIntFmt
import Derived.Test.YtbebifnnnmgihabDoorShelf
import Derived.Test.YtbebifnnnmgihabDoorParse
namespace Go.Proofs.YtbebifnnnmgihabDoor
open Go.ChangeShapes Go.WideShapes Go.ChangeAt Go.RowKit
open Go.ChangeMaps (open_string shut_string)
open Go.PlainAid Plain
set_option linter.unusedVariables false
namespace Parse
theorem trim (s : ByteArray) (w : World) : Calls Tryd.prog 49 #[.string s, .string ⟨#[45]⟩] w fun e w' => e = .returned (.string (body s)) ∧ w = w' :=
  (Tryd.strings_TrimPrefix s ⟨#[45]⟩ w).mono fun e w' ⟨he, hw⟩ => ⟨by rw [he, ← trim_body], hw.symm⟩

set_option maxHeartbeats 1000000 in
theorem impl_any (s : ByteArray) (w : World) (hs : s.size ≤ maxLen) (htab : ∀ w', Below w.heap.size w w' → Lib.TabIs Tryd.prog w' "internal/strconv.uint64pow10" .u64 Lib.pow10Tab) :
    Calls Tryd.prog 35 #[.string s] w fun e w' => e = .returned (.tuple #[.int .i64 (resV s), .bool (resB s)]) ∧ Below w.heap.size w w' := by
  unfold maxLen at hs
  have HT := Lib.hid htab
  have HRB := Lib.hid (spec_impl s)
  have HVN : Hid (vn s = if 0 < s.size ∧ bt s 0 = 45 then -rv (body s) (body s).size 0 0 else rv (body s) (body s).size 0 0) := rfl
  have HIG : Hid (ImplGood s ↔ (body s).size ≤ 9 ∧ itoaS (vn s) = s) := Iff.rfl
  have hbs := body_size s
  have htr := fun W => trim s W
  obtain ⟨d, hd⟩ : ∃ d, d = body s := ⟨_, rfl⟩
  rw [← hd] at HVN HIG hbs htr
  have HTR := Lib.hid htr
  clear htab hd htr
  have hds : d.size ≤ s.size := by split at hbs <;> omega
  by_cases h9 : 9 < d.size
  · have HR := Lib.hid (res_no (s := s) (fun h => by have h1 := HIG.out.1 (HRB.out.1.1 h); omega))
    clear hbs
    go_enter Tryd.func35, Tryd.ntmps35
    go_wp2_with (go_at_call 49; refine (HTR.out _).mono ?_; rintro e w' ⟨rfl, rfl⟩)
    go_ret2
    exact ⟨ret_ib HR.out.1.symm HR.out.2.symm, Below.refl _ _⟩
  · have h9' : d.size ≤ 9 := by omega
    have hneg : d.size < s.size ↔ (0 < s.size ∧ bt s 0 = 45) := by
      split at hbs
      · rename_i hc; exact ⟨fun _ => hc, fun _ => by omega⟩
      · rename_i hc; exact ⟨fun h => by omega, fun h => absurd h hc⟩
    have HNG := Lib.hid hneg
    have hd9 : decide (9 < d.size) = false := decide_eq_false h9
    clear hneg hbs
    go_enter Tryd.func35, Tryd.ntmps35
    go_wp2_with (go_at_call 49; refine (HTR.out _).mono ?_; rintro e w' ⟨rfl, rfl⟩)
    go_loopw [5] (fun n' wr => ∃ (pos : Nat) (acc : Int), wr = w.iter d pos ∧ n' = .int .i64 acc ∧ Hid (RunesAt d pos acc)) (fun _ wr => d.size - wr.iterPos w.heap.size)
    case atStart => exact ⟨0, 0, rfl, rfl, runes_start d⟩
    case round =>
      obtain ⟨pos, acc, rfl, rfl, hat⟩ := hrel
      have hbd := runes_bd hat.out
      obtain ⟨hb0, hb1⟩ := hbd
      by_cases hlt : pos < d.size
      · have hnx := fun ty => run_next_any (P := Tryd.prog) w d pos ty hlt
        have HS := Lib.hid (runes_step hat.out hlt h9')
        have hr := Lib.rune_le d pos
        have hw := Lib.width_pos d pos
        obtain ⟨r, hrr⟩ : ∃ r : Nat, r = (Utf8.decode d pos).1 := ⟨_, rfl⟩
        obtain ⟨q, hqq⟩ : ∃ q : Nat, q = (Utf8.decode d pos).2 := ⟨_, rfl⟩
        rw [← hrr] at hnx HS hr
        rw [← hqq] at hnx HS hw
        clear hrr hqq hat
        go_wp2
        go_roundw
        case rel => exact ⟨pos + q, acc * 10 + ((r : Int) - 48), rfl, rfl, HS⟩
        case measure => rw [World.iterPos_iter, World.iterPos_iter]; omega
      · have hnx := fun ty => run_next_end (P := Tryd.prog) w d pos ty hlt
        have HE := Lib.hid (runes_end hat.out hlt)
        have hbel : Below w.heap.size w (w.iter d pos) := (Below.refl _ _).alloc (Nat.le_refl _) _
        clear hat
        by_cases hng : d.size < s.size
        · have hdn : decide (d.size < s.size) = true := decide_eq_true hng
          have HM := Lib.hid (show vn s = -acc from by rw [HVN.out, if_pos (HNG.out.1 hng), ← HE.out])
          by_cases he : itoaS (-acc) = s
          · have hg : ImplGood s := HIG.out.2 ⟨h9', by rw [HM.out]; exact he⟩
            have hsg : SpecGood s := HRB.out.1.2 hg
            have HR := Lib.hid (res_yes hsg)
            have HV := Lib.hid (HRB.out.2 hsg)
            have hq2 := beq_str he
            clear he hg hsg
            go_wp2_with (go_at_call 26; refine (IntFmt.impl_any _ _ (by omega) (by omega) (HT.out _ hbel)).mono ?_; rintro e w1 ⟨rfl, hb1⟩)
            go_ret2
            exact ⟨ret_ib (by rw [HR.out.1, ← HV.out, HM.out]) HR.out.2.symm, hbel.trans (hb1.mono hbel.size)⟩
          · have HR := Lib.hid (res_no (s := s) (fun h => by have h1 := (HIG.out.1 (HRB.out.1.1 h)).2; rw [HM.out] at h1; exact he h1))
            have hq2 := bne_str he
            clear he
            go_wp2_with (go_at_call 26; refine (IntFmt.impl_any _ _ (by omega) (by omega) (HT.out _ hbel)).mono ?_; rintro e w1 ⟨rfl, hb1⟩)
            go_ret2
            exact ⟨ret_ib HR.out.1.symm HR.out.2.symm, hbel.trans (hb1.mono hbel.size)⟩
        · have hdn : decide (d.size < s.size) = false := decide_eq_false hng
          have HM := Lib.hid (show vn s = acc from by rw [HVN.out, if_neg (fun h => hng (HNG.out.2 h)), ← HE.out])
          by_cases he : itoaS (acc) = s
          · have hg : ImplGood s := HIG.out.2 ⟨h9', by rw [HM.out]; exact he⟩
            have hsg : SpecGood s := HRB.out.1.2 hg
            have HR := Lib.hid (res_yes hsg)
            have HV := Lib.hid (HRB.out.2 hsg)
            have hq2 := beq_str he
            clear he hg hsg
            go_wp2_with (go_at_call 26; refine (IntFmt.impl_any _ _ (by omega) (by omega) (HT.out _ hbel)).mono ?_; rintro e w1 ⟨rfl, hb1⟩)
            go_ret2
            exact ⟨ret_ib (by rw [HR.out.1, ← HV.out, HM.out]) HR.out.2.symm, hbel.trans (hb1.mono hbel.size)⟩
          · have HR := Lib.hid (res_no (s := s) (fun h => by have h1 := (HIG.out.1 (HRB.out.1.1 h)).2; rw [HM.out] at h1; exact he h1))
            have hq2 := bne_str he
            clear he
            go_wp2_with (go_at_call 26; refine (IntFmt.impl_any _ _ (by omega) (by omega) (HT.out _ hbel)).mono ?_; rintro e w1 ⟨rfl, hb1⟩)
            go_ret2
            exact ⟨ret_ib HR.out.1.symm HR.out.2.symm, hbel.trans (hb1.mono hbel.size)⟩
end Parse
end Go.Proofs.YtbebifnnnmgihabDoor
