/- Several texts of this proof, one behind the other: each says ahead of it what it shows and under which conditions. -/
import Derived.Test.YtfpdikohlafpiaaGreatPW4
import Derived.Test.YtfpdikohlafpiaaGreatDigits
import Derived.WalkMore
import Derived.ScopeJumps
import Derived.Deep.RegionLawGrows
import Derived.Test.YtfpdikohlafpiaaGreatPW2
import Derived.BigQuiet
import Derived.Deep.RegionHeld3
import Derived.Deep.DeepCutAuto
import Derived.Test.YtfpdikohlafpiaaGreatSeqs3
import Derived.Test.YtfpdikohlafpiaaGreatPW1
import Derived.Test.YtfpdikohlafpiaaGreatCommon
import Derived.Test.YtfpdikohlafpiaaGreatInts
import Derived.Deep.RegionLaw
/- Contract of the program's LyndonFactors. No conditions beyond those that it states. -/
namespace Go.Proofs.YtfpdikohlafpiaaGreat
open Go.ChangeShapes Go.WideShapes Go.ChangeAt Go.RowKit
open Go.PlainAid Plain
set_option linter.unusedVariables false
namespace Lynd
open Fac Seqs
/-- A scope with one label: one walk from the label on, for whatever must hold at the jump. -/
theorem wp_scope_pass {P : Program} {a : Act} {w : World} {Q : Exit → Act → World → Prop} {R X : Code} (l : Nat) (J : Act → World → Prop) (μ : Act → World → Nat) (hf : findLabel (R.seq ((Code.label l).seq X)) l = some (Code.skip.seq X))
    (pass : ∀ (T : Act → World → Prop) a w, J a w → (∀ a' w', J a' w' → μ a' w' < μ a w → T a' w') → X.wp P (Exit.jump l T Q) a w)
    (ahead : R.wp P (Exit.then J fun _ _ _ => False) a w) : (Code.scope (R.seq ((Code.label l).seq X))).wp P Q a w :=
  wp_scope_jumps l J μ hf (wp_seq (wp_mono ahead fun e a w h => by
    cases e <;> first | exact absurd h id | exact wp_seq (wp_label (pass J a w h fun a' w' h _ => h)))) fun a w hJ => wp_seq (wp_skip (pass _ a w hJ fun a' w' h1 h2 => ⟨h1, h2⟩))
/-- 'v = append(v, x)', v a slice of rows of the call's own, x a new one. -/
theorem wpList_append_ownR {P : Program} {wr : World} {lo hi : Nat} {rows : List (List Int)} {us : List Value} {ops : Array Oper} {rest : List Oper} {o : Oper} {a : Act} {Q : Exit → Act → World → Prop} (hgd : o.guard = none) (s x : Operand) (t : TypeId)
    (ho : o.op = .call { callee := .builtin .append, args := #[s, x], argTypes := #[t, t] })
    (i : TypeInfo) (ht : P.underlying t = some (.slice 24)) (hi' : P.info? 24 = some i) (hz : i.zero = some (.slice none 0 0))
    (hsize : i.size = 1) (hby : i.bytes = 24) (v : Value) (hs : a.eval s = v) (hown : OwnR wr lo hi v us rows) (u : Value) (r : List Int) (hu : OwnI wr hi wr.heap.size u r)
    (g : Nat) (hx : a.eval x = .slice (some ⟨g, 0, none⟩) 1 1) (hgs : g = wr.heap.size) (hlen : rows.length ≤ 10000000) (hlo : lo ≤ hi)
    (h : ∀ v' w', OwnR w' lo w'.heap.size v' (us ++ [u]) (rows ++ [r]) → wr.grownBy w' v.ownBlock → wpList P ops Q rest (a.put o.dst v') w') :
    wpList P ops Q (o :: rest) a (wr.alloc (.cells #[u] 24)) := by
  subst hgs
  have h2 := hown.rows.len
  have hu1 : u.oneCell' = true := by
    obtain ⟨a, c, h5⟩ := hu.form
    rw [h5]
    rfl
  refine wpList_append_list (enc := id) (e := 24) hgd s x t ho lo i (.slice none 0 0) 24 ht hi' hz hsize hby rfl v us hs (has_alloc hown.top _) (.slice (some ⟨wr.heap.size, 0, none⟩) 1 1) [u] hx (lies_lit1v u rfl) (fun y hy => by simp at hy; subst hy; exact hu1) (by simp; omega) (by simp; omega) (by have := hown.le; simp; omega) ?_
  intro v' w' hv' hg hbk
  have hg' : wr.grownBy w' v.ownBlock := grown_alloc hg
  have hr := (hown.rows.snoc hu hlo hown.le).top_grown hown.top hg'
  exact h v' w' ⟨hv', fun k hk => (hv'.lt k hk).2, Nat.le_refl _, hr.mono hg'.size (Nat.le_refl _)⟩ hg'
/-- What holds at the label. -/
def AtL (u : List Int) (w : World) (a : Act) (wr : World) : Prop := ∃ (i : Nat) (va : Option Addr) (vc : Nat) (vo : Value) (us : List Value) (rows : List (List Int)) (u4 u5 u6 u7 u8 u9 u10 u11 u12 u13 u14 u15 u16 u17 u18 u19 u20 u21 u22 u23 u24 u25 u26 u27 u28 : Value),
  a = { tmps := #[.slice va (u.drop i).length vc, undef, .slice none 0 0, vo, u4, u5, u6, u7, u8, u9, u10, u11, u12, u13, u14, u15, u16, u17, u18, u19, u20, u21, u22, u23, u24, u25, u26, u27, u28], defers := [] } ∧ Hid (LiesC w (.slice va (u.drop i).length vc) (u.drop i)) ∧ Hid (OwnR wr w.heap.size wr.heap.size vo us rows) ∧ Hid (rows ++ lynF (u.drop i) = lynF u) ∧ Hid (Below w.heap.size w wr)
def lenOf : Value → Nat | .slice _ n _ => n | _ => 0
theorem ownR_start (w : World) : OwnR w w.heap.size w.heap.size (.slice none 0 0) [] [] := ⟨World.ownsRow_nil _ _ _ _, (fun k hk => by cases hk), Nat.le_refl _, OwnRows.nil _ _ _⟩
theorem ownR_form {w : World} {lo hi : Nat} {v : Value} {us : List Value} {rows : List (List Int)} (h : OwnR w lo hi v us rows) : ∃ a c, v = .slice a rows.length c := by
  obtain ⟨a, c, e, _⟩ := h.top.form
  exact ⟨a, c, by rw [e, h.rows.len]⟩
set_option maxRecDepth 100000 in
set_option maxHeartbeats 4000000 in
theorem impl_lf (v : Value) (u : List Int) (w : World) (h : LiesC w v u) (hs : u.length ≤ 1048576) :
    Calls Tryz.prog 6 #[v] w (GivesR (lynF u) w) := by
  obtain ⟨j0, hj, hy0, hy1, hy2⟩ := info_parts infoR'
  obtain ⟨a, ca, rfl, hcap⟩ := h.form
  have HX := Lib.hid h
  clear h
  go_enter Tryz.func6, Tryz.ntmps6
  go_wp2
  refine wp_scope_pass 0 (AtL u w) (fun a' _ => lenOf (a'.tmps.getD 0 undef)) rfl ?_ ?_
  · clear HX
    rintro T a' wz ⟨i, va, vc, vo, us, rows, u4, u5, u6, u7, u8, u9, u10, u11, u12, u13, u14, u15, u16, u17, u18, u19, u20, u21, u22, u23, u24, u25, u26, u27, u28, rfl, HX, HO, HE, HB⟩ hT
    have HT := Lib.hid hT
    have hul : (u.drop i).length ≤ 1048576 := by rw [List.length_drop]; omega
    obtain ⟨U, hU⟩ : ∃ U, U = u.drop i := ⟨_, rfl⟩
    have HU := Lib.hid hU
    rw [← hU] at HX HE hul HT ⊢
    clear hU hT
    have HF := Lib.hid (first _ U wz (HX.out.lies.below HB.out) (by omega))
    go_wp2_with fail
    refine HF.out.mono ?_
    rintro e W1 ⟨p, t, rfl, hf, b1⟩
    have HFF := Lib.hid hf
    have HX1 := HX
    have HO1 : Hid (OwnR W1 w.heap.size W1.heap.size vo us rows) := ⟨HO.out.top.below b1, fun k hk => (HO.out.top.below b1).lt k hk |>.2, Nat.le_refl _, (HO.out.rows.below b1).mono b1.size (Nat.le_refl _)⟩
    have HB1 := Lib.hid (HB.out.trans (b1.mono HB.out.size))
    have htp : t * p ≤ 1048576 := by
      by_cases h0 : 0 < U.length
      · have := (hf.2 h0).2.2.2.1; omega
      · have := (hf.1 (by omega)).2; rw [this]; omega
    have htl : t ≤ 1048576 := by
      by_cases h0 : 0 < U.length
      · obtain ⟨-, h1, -, h2, -⟩ := hf.2 h0
        have : t * 1 ≤ t * p := Nat.mul_le_mul_left t h1
        omega
      · have := (hf.1 (by omega)).2; rw [this]; omega
    have hpl : p ≤ 1048576 := by
      by_cases h0 : 0 < U.length
      · obtain ⟨-, -, h1, h2, -⟩ := hf.2 h0
        have : 1 * p ≤ t * p := Nat.mul_le_mul_right p h1
        omega
      · have := (hf.1 (by omega)).1; omega
    clear hf b1 HF HX HO HB
    go_wp2
    go_loopw [0, 3, 12] (fun s' o' m' wq => ∃ (m : Nat) (sa : Option Addr) (sc : Nat) (vq : Value) (us : List Value) (rows : List (List Int)), m ≤ t ∧ m' = .int .i64 m ∧ s' = .slice sa (U.drop (m * p)).length sc ∧ vq = o' ∧ Hid (LiesC w (.slice sa (U.drop (m * p)).length sc) (U.drop (m * p))) ∧ Hid (OwnR wq w.heap.size wq.heap.size vq us rows) ∧ Hid (rows ++ lynF (U.drop (m * p)) = lynF u) ∧ Hid (Below w.heap.size w wq)) (fun _ _ m' _ => t - (intOf m').toNat)
    case atStart => exact ⟨0, va, vc, vo, us, rows, Nat.zero_le _, rfl, by rw [Nat.zero_mul, List.drop_zero], rfl, by rw [Nat.zero_mul, List.drop_zero]; exact HX1, HO1, by rw [Nat.zero_mul, List.drop_zero]; exact HE, HB1⟩
    case round =>
      clear HX1 HO1 HB1 HE
      obtain ⟨m, sa, sc, vq, us', rows', hm, rfl, rfl, rfl, HXr, HOr, HEr, HBr⟩ := hrel
      obtain ⟨va', vc', hvq⟩ := ownR_form HOr.out
      have HRL := Lib.hid (lynF_part (b := []) HEr.out)
      obtain ⟨V, hV⟩ : ∃ V, V = U.drop (m * p) := ⟨_, rfl⟩
      have HV := Lib.hid hV
      rw [← hV] at HXr HEr ⊢
      have hVl : V.length ≤ 1048576 := by rw [hV, List.length_drop]; omega
      by_cases hlt : m < t
      · have h0 : 0 < U.length := by
          rcases Nat.eq_zero_or_pos U.length with e | e
          · have := (HFF.out.1 e).2; omega
          · exact e
        obtain ⟨-, hp0, -, htpl, hstep⟩ := HFF.out.2 h0
        have hst := hstep m hlt
        have hmp : (m + 1) * p ≤ t * p := Nat.mul_le_mul_right p hlt
        have hmq : (m + 1) * p = m * p + p := Nat.succ_mul m p
        have hpV : p ≤ V.length := by rw [hV, List.length_drop]; omega
        have hdd : U.drop ((m + 1) * p) = V.drop p := by rw [hV, List.drop_drop, hmq]
        have HDD := Lib.hid hdd
        rw [← hV, hdd] at hst
        have HEn : Hid ((rows' ++ [V.take p]) ++ lynF (V.drop p) = lynF u) := by
          show _ = _
          rw [List.append_assoc, ← HEr.out, hst]
          rfl
        obtain ⟨a1, c1, hsl, hc1⟩ := cut_to HXr.out hpV (H := (p : Int)) rfl
        obtain ⟨a2, c2, hsl2, hc2⟩ := cut_from HXr.out hpV (L := (p : Int)) rfl
        have HC1 := Lib.hid hc1
        have HC2 := Lib.hid hc2
        have hlen1 : (V.take p).length = p := by rw [List.length_take]; omega
        have HCL := Lib.hid (Digits.clone_lies _ (V.take p) wr (HC1.out.lies.below HBr.out) (by omega))
        have hrl : rows'.length ≤ 10000000 := by have := HRL.out; omega
        subst hvq
        have HLN := Lib.hid hlen1
        clear hV hstep hst hdd hmp hmq hc1 hc2 h0 hlen1
        go_wp2_with fail
        refine HCL.out.mono ?_
        rintro e W5 ⟨v5, rfl, hv5, b5⟩
        obtain ⟨x5, y5, hx5, _⟩ := hv5.form
        rw [HLN.out] at hx5
        have HI5 := Lib.hid (own_of_has hv5)
        have HO5 : Hid (OwnR W5 w.heap.size wr.heap.size (.slice va' rows'.length vc') us' rows') := ⟨HOr.out.top.below b5, HOr.out.lt, b5.size, HOr.out.rows.below b5⟩
        have HI6 : Hid (OwnI W5 wr.heap.size W5.heap.size v5 (V.take p)) := ⟨hv5, fun k hk => (hv5.lt k hk).2, Nat.le_refl _⟩
        have HB5 := Lib.hid (HBr.out.trans (b5.mono HBr.out.size))
        have HL5 := Lib.hid HBr.out.size
        subst hx5
        clear hv5 b5 HCL HI5
        go_wp2_with (refine wpList_append_ownR rfl _ _ 26 rfl j0 Tryz.underlying26 hj hy0 hy1 hy2 (.slice va' rows'.length vc') rfl HO5.out _ (V.take p) HI6.out _ rfl rfl hrl HL5.out ?_; intro v6 w6 ho6 hg6; have HO6 := Lib.hid ho6; have HB6 := Lib.hid (HO5.out.top.frame HB5.out (Nat.le_refl _) hg6); clear ho6 hg6)
        go_roundw
        case rel => exact ⟨m + 1, a2, c2, _, _, _, by omega, by go_num, by rw [HDD.out, List.length_drop], rfl, by rw [HDD.out]; exact HC2.out, HO6, by rw [HDD.out]; exact HEn, HB6⟩
        case measure => simp [intOf]; omega
      · obtain rfl : m = t := by omega
        subst hvq
        by_cases hne : 0 < V.length
        · have h0 : 0 < U.length := by rw [hV, List.length_drop] at hne; omega
          obtain ⟨-, hp0, ht0, htpl, -⟩ := HFF.out.2 h0
          have hmul : 1 * 1 ≤ m * p := Nat.mul_le_mul ht0 hp0
          have hlt2 : V.length < U.length := by rw [hV, List.length_drop]; omega
          have HVU : Hid (V = u.drop (i + m * p)) := by show _ = _; rw [hV, HU.out, List.drop_drop]
          have hd := decide_eq_true (show (V.length : Int) > 0 by omega)
          have HLT := Lib.hid hlt2
          clear hV hmul hlt2 h0
          go_wp2
          go_step3
          refine ⟨rfl, HT.out _ _ ⟨i + m * p, sa, sc, _, us', rows', _, _, _, _, _, _, _, _, _, _, _, _, _, _, _, _, _, _, _, _, _, _, _, _, _, by rw [← HVU.out], by rw [← HVU.out]; exact HXr, HOr, by rw [← HVU.out]; exact HEr, HBr⟩ ?_⟩
          exact HLT.out
        · have hd := decide_eq_false (show ¬ (V.length : Int) > 0 by omega)
          have HE2 : Hid (rows' = lynF u) := by
            have := HEr.out
            rw [lynF_nil (by omega), List.append_nil] at this
            exact this
          clear hV
          go_wp2
          simp only [Exit.jump]
          go_ret
          exact ⟨_, us', rfl, by rw [← HE2.out]; exact HOr.out, HBr.out⟩
  · go_wp2
    exact ⟨0, a, ca, _, [], [], _, _, _, _, _, _, _, _, _, _, _, _, _, _, _, _, _, _, _, _, _, _, _, _, _, rfl, HX, ownR_start w, rfl, Below.refl _ _⟩
end Lynd
end Go.Proofs.YtfpdikohlafpiaaGreat
/- Contract of the program's StandardSplit. No conditions beyond those that it states. -/
namespace Go.Proofs.YtfpdikohlafpiaaGreat
open Go.ChangeShapes Go.WideShapes Go.ChangeAt Go.RowKit
open Go.PlainAid Plain
set_option linter.unusedVariables false
namespace Lynd
open Fac Seqs
/-- Two new slices of ints, in intervals of their own, and a bool. -/
def GivesII (xs ys : List Int) (k : Bool) (w : World) (e : Ending) (w' : World) : Prop := ∃ v1 v2 m, e = .returned (.tuple #[v1, v2, .bool k]) ∧ OwnI w' m w'.heap.size v1 xs ∧ OwnI w' w.heap.size m v2 ys ∧ (w.heap.size ≤ m ∧ m ≤ w'.heap.size) ∧ Below w.heap.size w w'
/-- Two new slices of ints and a bool. -/
def GivesIS (xs ys : List Int) (k : Bool) (w : World) (e : Ending) (w' : World) : Prop := ∃ v1 v2, e = .returned (.tuple #[v1, v2, .bool k]) ∧ OwnI w' w.heap.size w'.heap.size v1 xs ∧ OwnI w' w.heap.size w'.heap.size v2 ys ∧ Below w.heap.size w w'
theorem ownI_nil (w : World) (lo : Nat) {hi : Nat} (h : hi ≤ w.heap.size) : OwnI w lo hi (.slice none 0 0) [] := ⟨World.ownsRow_nil _ _ _ _, (fun k hk => by cases hk), h⟩
theorem spK_no {u : List Int} (h : spK u = false) : spA u = [] ∧ spB u = [] := by unfold spA spB; simp [h]
theorem spK_yes {u : List Int} (h : spK u = true) : spA u = u.take (spN u) ∧ spB u = u.drop (spN u) := by unfold spA spB; simp [h]
theorem ii_no {u : List Int} {w w' : World} (h : spK u = false) (hb : Below w.heap.size w w') : GivesII (spA u) (spB u) (spK u) w (.returned (.tuple #[.slice none 0 0, .slice none 0 0, .bool false])) w' := by
  rw [h, (spK_no h).1, (spK_no h).2]
  exact ⟨_, _, w.heap.size, rfl, ownI_nil _ _ (Nat.le_refl _), ownI_nil _ _ hb.size, ⟨Nat.le_refl _, hb.size⟩, hb⟩
set_option maxRecDepth 100000 in
set_option maxHeartbeats 2000000 in
theorem impl_sp (v : Value) (u : List Int) (w : World) (h : LiesC w v u) (hs : u.length ≤ 1048576) :
    Calls Tryz.prog 25 #[v] w (GivesII (spA u) (spB u) (spK u) w) := by
  have HL := Lib.hid (impl_lyn v u w h.lies (by omega))
  obtain ⟨a, ca, rfl, hcap⟩ := h.form
  have HX := Lib.hid h
  clear h
  by_cases h2 : 2 ≤ u.length
  · have hd2 := decide_eq_false (show ¬ (u.length : Int) < 2 by omega)
    obtain ⟨c, hc⟩ : ∃ c, c = lyB u := ⟨_, rfl⟩
    rw [← hc] at HL
    cases c with
    | false =>
      have HK : Hid (spK u = false) := by show _ = _; unfold spK; rw [← hc, Bool.and_false]
      clear hc
      go_enter Tryz.func25, Tryz.ntmps25
      go_wp2_with (go_at_call 9; refine HL.out.mono ?_; rintro e W1 ⟨rfl, b1⟩)
      go_ret3
      exact ii_no HK.out b1
    | true =>
      have HK : Hid (spK u = true) := by show _ = _; unfold spK; rw [← hc, decide_eq_true h2, Bool.and_true]
      obtain ⟨hq0, hql, hlast, _, _⟩ := sp_spec h2
      obtain ⟨q, hq⟩ : ∃ q, q = spN u := ⟨_, rfl⟩
      rw [← hq] at hq0 hql hlast
      have HEA : Hid (spA u = u.take q) := by show _ = _; rw [(spK_yes HK.out).1, ← hq]
      have HEB : Hid (spB u = u.drop q) := by show _ = _; rw [(spK_yes HK.out).2, ← hq]
      obtain ⟨a2, c2, hsl, hc2⟩ := cut_from HX.out (l := 1) (by omega) (L := 1) (by omega)
      obtain ⟨V, hV⟩ : ∃ V, V = u.drop 1 := ⟨_, rfl⟩
      rw [← hV] at hsl hc2 hlast
      have hVl : V.length ≤ 1048576 := by rw [hV, List.length_drop]; omega
      obtain ⟨E, hE⟩ : ∃ E, E = u.drop q := ⟨_, rfl⟩
      rw [← hE] at hlast HEB
      have hEl : E.length = u.length - q := by rw [hE, List.length_drop]
      have hEq : (u.length : Int) - (E.length : Int) = (q : Int) := by omega
      have hEq2 : IntKind.i64.wrap ((u.length : Int) - (E.length : Int)) = (q : Int) := by rw [IntKind.wrap_i64]; omega
      have HLA := Lib.hid hlast
      have HC2 := Lib.hid hc2
      obtain ⟨a3, c3, hsl3, hc3⟩ := cut_to HX.out (h := q) (by omega) (H := (q : Int)) rfl
      have HC3 := Lib.hid hc3
      have hLV := lynF_len V
      clear hc hq hV hE hlast hc2 hc3 hEl hcap
      go_enter Tryz.func25, Tryz.ntmps25
      go_upto_region 3 with (go_at_call 9; refine HL.out.mono ?_; rintro e W1 ⟨rfl, b1⟩; have HB1 := Lib.hid b1; have HLF := Lib.hid (impl_lf _ V W1 (HC2.out.below b1) hVl); clear b1)
      go_wp2_with fail
      refine HLF.out.mono ?_
      rintro e W2 ⟨vr, us, rfl, hr, b2⟩
      have hl := hr.rows.len
      have hi0 : 0 < (lynF V).length := by
        rcases Nat.eq_zero_or_pos (lynF V).length with e | e
        · have := HLA.out; rw [List.eq_nil_of_length_eq_zero e] at this; simp at this
        · exact e
      have hat := HLA.out
      rw [List.getLast?_eq_getElem?] at hat
      obtain ⟨uu, huu⟩ : ∃ uu, us[(lynF V).length - 1]? = some uu := ⟨_, List.getElem?_eq_getElem (by omega)⟩
      obtain ⟨ra, rc, hvr, _⟩ := hr.top.form
      subst hvr
      obtain ⟨g, o, hra, hcell⟩ := lies_at (enc := id) hr.top.lies huu
      subst hra
      have hrow := hr.rows.row _ uu E huu hat
      obtain ⟨ea, ec, heu⟩ := hrow.form
      subst heu
      have HROW := Lib.hid hrow
      have HB2 := Lib.hid (HB1.out.trans (b2.mono HB1.out.size))
      obtain ⟨m, hm⟩ : ∃ m, (lynF V).length = m + 1 := ⟨(lynF V).length - 1, by omega⟩
      rw [hm] at hl hcell hLV
      rw [hl]
      have hcell2 : W2.cell? ⟨g, o + m, none⟩ = some (.slice ea E.length ec) := hcell
      have hm1 : ((m + 1 : Nat) : Int) - 1 = (m : Int) := by omega
      have HCL := Lib.hid (Digits.clone_lies _ (u.take q) W2 (HC3.out.lies.below HB2.out) (by rw [List.length_take]; omega))
      have HL1 := Lib.hid HB1.out.size
      clear hr hl hat huu hrow hcell hm b2 hi0 HLF HLA
      go_wp2_with fail
      refine HCL.out.mono ?_
      rintro e W5 ⟨v5, rfl, hv5, b5⟩
      obtain ⟨x5, y5, hx5, _⟩ := hv5.form
      have HI5 : Hid (OwnI W5 W2.heap.size W5.heap.size v5 (u.take q)) := ⟨hv5, fun k hk => (hv5.lt k hk).2, Nat.le_refl _⟩
      have HI6 := Lib.hid (HROW.out.below b5)
      have HB5 := Lib.hid (HB2.out.trans (b5.mono HB2.out.size))
      have HS5 := Lib.hid b5.size
      clear hv5 b5 HCL hx5
      go_wp2
      go_ret3
      rw [HK.out, HEA.out, HEB.out]
      exact ⟨_, _, W2.heap.size, rfl, HI5.out, HI6.out.mono HL1.out (Nat.le_refl _) HS5.out, ⟨HB2.out.size, HS5.out⟩, HB5.out⟩
  · have hd2 := decide_eq_true (show (u.length : Int) < 2 by omega)
    have HK : Hid (spK u = false) := by show _ = _; unfold spK; rw [decide_eq_false h2, Bool.false_and]
    clear h2
    go_enter Tryz.func25, Tryz.ntmps25
    go_wp2
    go_ret3
    exact ii_no HK.out (Below.refl _ _)
end Lynd
end Go.Proofs.YtfpdikohlafpiaaGreat
/- Contract of the model's StandardSplit. No conditions beyond those that it states. -/
namespace Go.Proofs.YtfpdikohlafpiaaGreat
open Go.ChangeShapes Go.WideShapes Go.ChangeAt Go.RowKit
open Go.PlainAid Plain
set_option linter.unusedVariables false
namespace Lynd
open Fac Seqs
theorem bel_drew {w W : World} (h : Below w.heap.size w W) : Below w.heap.size w W.drew := h.trans ((below_drew' W).mono h.size)
theorem bel_alloc {w W : World} (h : Below w.heap.size w W) (o : Obj) : Below w.heap.size w (W.alloc o) := h.alloc h.size o
/-- Inside a drawn region: 'append([]int{}, x...)', x not empty: a new slice. -/
theorem step_copy_new {P : Program} {ops : Array Oper} {o : Oper} {a : Act} {wx : World} {K : Act → World → Prop} {Q : Exit → Act → World → Prop} {E : Prop}
    (hgd : o.guard = none) (s x : Operand) (t : TypeId) (hop : o.op = Op.call { callee := Callee.builtin Builtin.append, args := #[s, x], argTypes := #[t, t] })
    (i : TypeInfo) (ht : P.underlying t = some (.slice 3)) (hi : P.info? 3 = some i) (hz : i.zero = some (.int .i64 0)) (hsize : i.size = 1) (hby : i.bytes = 8)
    (g : Addr) (hs : a.eval s = .slice (some g) 0 0) (W : World) (hW : Below W.heap.size W wx) (b off n c : Nat) (ys : List Int) (hx : a.eval x = .slice (some ⟨b, off, none⟩) n c) (hu : Lies (Value.int .i64) W (.slice (some ⟨b, off, none⟩) n c) ys)
    (h0 : 0 < ys.length) (hl : ys.length ≤ 1048576)
    (hK : ∀ v' w', Has (Value.int .i64) 3 w' W.heap.size v' ys → Below W.heap.size W w' → K (a.put o.dst v') w') :
    if Region.wanted o (yielded ops a.tmps) = true then Oper.wp P o a wx K Q else E := by
  have hu' := hu.below hW
  obtain ⟨_, _, _, hv, _, _⟩ := hu
  injection hv with e1 e2 e3
  subst e2
  refine step_append_grows hgd s x t hop 3 i (.int .i64 0) 1 8 ht hi hz hsize hby rfl (by decide) (some g) 0 0 [] hs (fun h => by cases h) rfl (fun _ _ j u h => by simp at h) ⟨b, off, none⟩ ys.length c (ys.map (Value.int .i64)) hx (by simp) (fun j u hj => ?_) (fun u hu => by obtain ⟨_, _, rfl⟩ := List.mem_map.1 hu; rfl) (by omega) (by unfold maxLen; omega) (by omega) fun v' w' hr hg => hK v' w' ?_ ?_
  · rw [List.getElem?_map, Option.map_eq_some_iff] at hj
    obtain ⟨x', hx', rfl⟩ := hj
    obtain ⟨b', o', he, hcell⟩ := lies_at (enc := (Value.int .i64)) hu' hx'
    cases he
    rw [addr_plus]
    exact hcell
  · refine Has.mono ?_ hW.size
    show World.ownsRow _ _ _ _ _ _ _
    simpa using hr
  · exact hW.trans ((below_of_grown hg).mono hW.size)
theorem is_no {u : List Int} {w w' : World} {g g' : Nat} (h : spK u = false) (h1 : OwnI w' w.heap.size w'.heap.size (.slice (some ⟨g, 0, none⟩) 0 0) []) (h2 : OwnI w' w.heap.size w'.heap.size (.slice (some ⟨g', 0, none⟩) 0 0) []) (hb : Below w.heap.size w w') : GivesIS (spA u) (spB u) (spK u) w (.returned (.tuple #[.slice (some ⟨g, 0, none⟩) 0 0, .slice (some ⟨g', 0, none⟩) 0 0, .bool false])) w' := by
  rw [h, (spK_no h).1, (spK_no h).2]
  exact ⟨_, _, rfl, h1, h2, hb⟩
theorem is_yes {u : List Int} {w w' : World} {v1 v2 : Value} {k : Nat} (hk : spK u = true) (h : k = spN u) (h1 : Has (Value.int .i64) 3 w' w.heap.size v1 (u.take k)) (h2 : Has (Value.int .i64) 3 w' w.heap.size v2 (u.drop k)) (hb : Below w.heap.size w w') : GivesIS (spA u) (spB u) (spK u) w (.returned (.tuple #[v1, v2, .bool true])) w' := by
  rw [hk, (spK_yes hk).1, (spK_yes hk).2, ← h]
  exact ⟨_, _, rfl, own_of_has h1, own_of_has h2, hb⟩
theorem two_lits (w W : World) (hb : Below w.heap.size w W) : Below w.heap.size w ((W.alloc (Obj.cells #[] 3)).alloc (Obj.cells #[] 3)) ∧ OwnI ((W.alloc (Obj.cells #[] 3)).alloc (Obj.cells #[] 3)) w.heap.size ((W.alloc (Obj.cells #[] 3)).alloc (Obj.cells #[] 3)).heap.size (.slice (some ⟨W.heap.size, 0, none⟩) 0 0) [] ∧ OwnI ((W.alloc (Obj.cells #[] 3)).alloc (Obj.cells #[] 3)) w.heap.size ((W.alloc (Obj.cells #[] 3)).alloc (Obj.cells #[] 3)).heap.size (.slice (some ⟨W.heap.size + 1, 0, none⟩) 0 0) [] := by
  refine ⟨(hb.alloc hb.size _).alloc (by have := hb.size; simp; omega) _, own_of_has ?_, own_of_has ?_⟩
  · exact has_alloc (has_lit0 rfl hb.size) _
  · exact has_lit0 (by simp) (by have := hb.size; omega)
set_option maxRecDepth 100000 in
set_option maxHeartbeats 4000000 in
theorem spec_sp (v : Value) (u : List Int) (w : World) (h : LiesC w v u) (hs : u.length ≤ 1048576) :
    Calls Tryz.prog 26 #[v] w (GivesIS (spA u) (spB u) (spK u) w) := by
  obtain ⟨i0, hi, hz0, hz1, hz2⟩ := info_parts Ints.infoI
  have HL := Lib.hid (fun (W : World) (hb : Below w.heap.size w W) => spec_lyn v u W (h.below hb))
  obtain ⟨a, ca, rfl, _⟩ := h.form
  have HX := Lib.hid h
  clear h
  obtain ⟨c, hc⟩ : ∃ c, c = lyB u := ⟨_, rfl⟩
  rw [← hc] at HL
  have HC := Lib.hid hc
  clear hc
  go_enter Tryz.func26, Tryz.ntmps26
  go_wp2
  go_loopw [5] (fun k' wr => ∃ k : Nat, k ≤ u.length ∧ k' = .int .i64 ((k : Int) + 1) ∧ Hid (∀ q, 0 < q → q < k + 1 → q < u.length → ¬ Lyn (u.drop q)) ∧ Hid (Below w.heap.size w wr)) (fun k' _ => u.length + 1 - (intOf k').toNat)
  case atStart => exact ⟨0, Nat.zero_le _, by go_num, fun q h1 h2 => by omega, Below.refl _ _⟩
  case round =>
    obtain ⟨k, hk, rfl, HK, HB⟩ := hrel
    by_cases hlt : k + 1 < u.length
    · have hlt1 : (k : Int) + 1 < (u.length : Int) := by omega
      have hlt2 := decide_eq_true hlt1
      have HLL := Lib.hid (HL.out wr HB.out)
      cases c with
      | false =>
        have HKF : Hid (spK u = false) := by show _ = _; unfold spK; rw [← HC.out, Bool.and_false]
        go_wp2_with (go_at_call 10; refine HLL.out.mono ?_; rintro e W5 ⟨rfl, b5⟩; have HB5 := Lib.hid (HB.out.trans (b5.mono HB.out.size)); clear b5)
        go_ret3
        obtain ⟨q1, q2, q3⟩ := two_lits w W5 HB5.out
        exact is_no HKF.out q2 q3 q1
      | true =>
        obtain ⟨a2, c2, hsl, hc2⟩ := cut_from HX.out (l := k + 1) (by omega) (L := (k : Int) + 1) (by omega)
        obtain ⟨V, hV⟩ : ∃ V, V = u.drop (k + 1) := ⟨_, rfl⟩
        rw [← hV] at hsl hc2
        have HVV := Lib.hid hV
        have HC2 := Lib.hid hc2
        have HLV := Lib.hid (fun (W : World) (hb : Below w.heap.size w W) => spec_lyn _ V W (hc2.below hb))
        obtain ⟨d, hd⟩ : ∃ d, d = lyB V := ⟨_, rfl⟩
        rw [← hd] at HLV
        have HD := Lib.hid hd
        clear hV hc2 hd
        go_upto_region 4 with (go_at_call 10; refine HLL.out.mono ?_; rintro e W5 ⟨rfl, b5⟩; have HB5 := Lib.hid (HB.out.trans (b5.mono HB.out.size)); clear b5)
        go_wp2_with fail
        refine (HLV.out _ HB5.out).mono ?_
        rintro e W6 ⟨rfl, b6⟩
        have HB6 := Lib.hid (HB5.out.trans (b6.mono HB5.out.size))
        clear b6 HB5
        cases d with
        | false =>
          have HK2 : Hid (∀ q, 0 < q → q < (k + 1) + 1 → q < u.length → ¬ Lyn (u.drop q)) := fun q h1 h2 h3 => by
            by_cases e2 : q = k + 1
            · rw [e2, ← HVV.out]
              intro e
              have := lyB_iff.2 e
              rw [← HD.out] at this
              cases this
            · exact HK.out q h1 (by omega) h3
          go_wp2
          go_roundw
          case rel => exact ⟨k + 1, by omega, by go_num, HK2, HB6⟩
          case measure => simp [intOf]; omega
        | true =>
          have HKT : Hid (spK u = true) := by show _ = _; unfold spK; rw [← HC.out, decide_eq_true (show 2 ≤ u.length by omega), Bool.true_and]
          have HKN := Lib.hid (sp_unique (w := u) (k := k + 1) (by omega) (by omega) hlt (by rw [← HVV.out]; exact lyB_iff.1 HD.out.symm) fun q h1 h2 => HK.out q h1 h2 (by omega))
          obtain ⟨a3, c3, hsl3, hc3⟩ := cut_to HX.out (h := k + 1) (by omega) (H := (k : Int) + 1) (by omega)
          obtain ⟨X, hX⟩ : ∃ X, X = u.take (k + 1) := ⟨_, rfl⟩
          rw [← hX] at hc3
          have HXX := Lib.hid hX
          have hXl : X.length ≤ 1048576 := by rw [hX, List.length_take]; omega
          have hVl : V.length ≤ 1048576 := by rw [HVV.out, List.length_drop]; omega
          have hX0 : 0 < X.length := by rw [hX, List.length_take]; omega
          have hV0 : 0 < V.length := by rw [HVV.out, List.length_drop]; omega
          have hl3 := hc3.lies.below HB6.out
          have hl2 := HC2.out.lies.below HB6.out
          obtain ⟨p3, o3, rfl, _⟩ := lies_at (enc := (Value.int .i64)) hl3 (List.getElem?_eq_getElem hX0)
          obtain ⟨p2, o2, rfl, _⟩ := lies_at (enc := (Value.int .i64)) hl2 (List.getElem?_eq_getElem hV0)
          have HC3 := Lib.hid hl3
          have HC2' := Lib.hid hl2
          clear hX hc3 hl3 hl2
          go_wp2_with fail
          go_region_law (first
            | (refine step_copy_new rfl (.tmp 20) (.tmp 23) 24 rfl i0 Tryz.underlying24 hi hz0 hz1 hz2 _ rfl W6 (by repeat (first | with_reducible exact Below.refl _ _ | with_reducible apply bel_drew | with_reducible apply bel_alloc)) p3 o3 (k + 1) c3 X rfl HC3.out hX0 hXl ?_; intro va wa hoa hba; have HVA := Lib.hid hoa; have HBA := Lib.hid hba; have HL2 := Lib.hid (HC2'.out.below hba); clear hoa hba)
            | (refine step_copy_new rfl (.tmp 25) (.tmp 28) 24 rfl i0 Tryz.underlying24 hi hz0 hz1 hz2 _ rfl wa (by repeat (first | with_reducible exact Below.refl _ _ | with_reducible apply bel_drew | with_reducible apply bel_alloc)) p2 o2 V.length c2 V rfl HL2.out hV0 hVl ?_; intro vb wb hob hbb; have HVB := Lib.hid (Has.mono hob HBA.out.size); have HVA2 := Lib.hid (HVA.out.below hbb); have HBB := Lib.hid (HBA.out.trans (hbb.mono HBA.out.size)); clear hob hbb))
          all_goals
            go_wp2
            go_ret3
            refine is_yes HKT.out HKN.out ?_ ?_ (HB6.out.trans (HBB.out.mono HB6.out.size))
            · rw [← HXX.out]; exact HVA2.out.mono HB6.out.size
            · rw [← HVV.out]; exact HVB.out.mono HB6.out.size
    · have hlt2 := decide_eq_false (show ¬ (k : Int) + 1 < (u.length : Int) by omega)
      have HKF : Hid (spK u = false) := by
        show _ = _
        unfold spK
        by_cases h2 : 2 ≤ u.length
        · exact absurd (sp_spec h2).2.2.2.1 (HK.out _ (sp_spec h2).1 (by have := (sp_spec h2).2.1; omega) (sp_spec h2).2.1)
        · rw [decide_eq_false h2, Bool.false_and]
      go_wp2
      go_ret3
      obtain ⟨q1, q2, q3⟩ := two_lits w wr HB.out
      exact is_no HKF.out q2 q3 q1
end Lynd
end Go.Proofs.YtfpdikohlafpiaaGreat
/- Contract of the model's insertion of a word into a list in order. No conditions beyond those that each states. -/
namespace Go.Proofs.YtfpdikohlafpiaaGreat
open Go.ChangeShapes Go.WideShapes Go.ChangeAt Go.RowKit
open Go.PlainAid Plain
set_option linter.unusedVariables false
namespace Fac
open Seqs
theorem putW_next (xs r : List Int) (c : Bool) (l : List (List Int)) : putW xs c (r :: l) = (if cmpW xs r < 0 ∧ c = false then [xs] else []) ++ r :: putW xs (c || decide (cmpW xs r ≤ 0)) l := rfl
theorem putW_len (xs : List Int) : ∀ (c : Bool) (l : List (List Int)), (putW xs c l).length ≤ l.length + 1
  | c, [] => by cases c <;> simp [putW]
  | c, x :: l => by
    have h1 := putW_len xs (c || decide (cmpW xs x ≤ 0)) l
    rw [putW_next]
    by_cases h : cmpW xs x < 0 ∧ c = false
    · have h2 : (c || decide (cmpW xs x ≤ 0)) = true := by simp; exact .inr (by omega)
      rw [if_pos h, h2, putW_true]
      simp
    · rw [if_neg h]
      simp at h1 ⊢
      exact h1
theorem put_drop {xs r : List Int} {rows : List (List Int)} {i : Nat} {c : Bool} (hr : rows[i]? = some r) : putW xs c (rows.drop i) = (if cmpW xs r < 0 ∧ c = false then [xs] else []) ++ r :: putW xs (c || decide (cmpW xs r ≤ 0)) (rows.drop (i + 1)) := by
  obtain ⟨h1, rfl⟩ := List.getElem?_eq_some_iff.1 hr
  rw [List.drop_eq_getElem_cons h1, putW_next]
set_option maxRecDepth 100000 in
set_option maxHeartbeats 4000000 in
theorem put (l v : Value) (rows : List (List Int)) (xs : List Int) (w : World) (lo base : Nat) (hl : RowsV w lo base l rows) (hx : Lies (Value.int .i64) w v xs) (hb : base ≤ w.heap.size) (hn : rows.length ≤ 10000) (hs : xs.length ≤ 4194304) :
    Calls Tryz.prog 33 #[l, v] w fun e w' => ∃ v', e = .returned v' ∧ RowsV w' w.heap.size base v' (putW xs false rows) ∧ Below w.heap.size w w' := by
  obtain ⟨i0, hi, hz0, hz1, hz2⟩ := info_parts Ints.infoI
  obtain ⟨j0, hj, hy0, hy1, hy2⟩ := info_parts infoR'
  obtain ⟨la, lc, rfl⟩ := hl.form
  obtain ⟨a, ca, rfl⟩ : ∃ a ca, v = .slice a xs.length ca := by obtain ⟨_, a, ca, h, _⟩ := hx; exact ⟨a, ca, h⟩
  have HL := Lib.hid hl
  have HX := Lib.hid hx
  have HB : Hid (Below w.heap.size w (w.alloc (Obj.cells #[] 24))) := (Below.refl _ _).alloc (Nat.le_refl _) _
  have HO : Hid (RowsV (w.alloc (Obj.cells #[] 24)) w.heap.size base (.slice (some ⟨w.heap.size, 0, none⟩) 0 0) []) := RowsV.nil (has_lit0 (enc := id) rfl (Nat.le_refl _))
  clear hl hx
  go_enter Tryz.func33, Tryz.ntmps33
  go_wp2
  go_loopw [5, 6, 7] (fun o' c' i' wr => ∃ (i : Nat) (c : Bool) (vo : Value) (done : List (List Int)), i ≤ rows.length ∧ vo = o' ∧ c' = .bool c ∧ i' = .int .i64 i ∧ Hid (RowsV wr w.heap.size base vo done) ∧ Hid (done ++ putW xs c (rows.drop i) = putW xs false rows) ∧ done.length ≤ 2 * i ∧ Hid (Below w.heap.size w wr)) (fun _ _ i' _ => rows.length - (intOf i').toNat)
  case atStart => exact ⟨0, false, _, [], Nat.zero_le _, rfl, rfl, rfl, HO, rfl, by simp, HB⟩
  case round =>
    obtain ⟨i, c, vo, done, hi', rfl, rfl, rfl, HOr, HD, hdl, HBr⟩ := hrel
    by_cases hlt : i < rows.length
    · obtain ⟨r, hr⟩ : ∃ r, rows[i]? = some r := ⟨_, List.getElem?_eq_getElem hlt⟩
      obtain ⟨p, o, ua, uc, hla, hcell, hhas⟩ := HL.out.row hr
      subst hla
      have HC0 := Lib.hid hcell
      have hcell := (HBr.out.cell (p := ⟨p, o + i, none⟩) (World.block_lt_of_cell? _ _ hcell)).trans hcell
      have HR := Lib.hid hhas
      have HP := Lib.hid (put_drop (xs := xs) (c := c) hr)
      have hD5 := HD.out
      rw [HP.out] at hD5
      have HD4 := Lib.hid hD5
      have HCC := Lib.hid (spec_cmp _ _ xs r wr (HX.out.below HBr.out) (HR.out.lies.below HBr.out))
      clear hr hhas hD5 HP HD
      go_wp2_with fail
      refine HCC.out.mono ?_
      rintro e W5 ⟨rfl, b5⟩
      have HB5 := Lib.hid (HBr.out.trans (b5.mono HBr.out.size))
      have HO5 := Lib.hid (HOr.out.below b5)
      have hcell := (b5.cell (p := ⟨p, o + i, none⟩) (World.block_lt_of_cell? _ _ hcell)).trans hcell
      clear HCC b5 HBr HOr
      rcases cmpW_three xs r with hk | hk | hk
      · rw [hk] at HD4 ⊢
        clear hk
        cases c with
        | false =>
          have HD5 : Hid ((done ++ [xs]) ++ (r :: putW xs true (rows.drop (i + 1))) = putW xs false rows) := by have := HD4.out; show _ = _; simpa using this
          clear HD4
          have HDL := Lib.hid hdl
          obtain ⟨va, vc, hvo⟩ := HO5.out.form
          subst hvo
          go_upto_region 12 with (first | (refine append_lies (enc := (Value.int .i64)) (e := 3) _ rfl (.tmp 31) (.tmp 32) 24 rfl (W5).heap.size i0 (.int .i64 0) 8 Tryz.underlying24 hi hz0 hz1 hz2 rfl (.slice (some ⟨(W5).heap.size, 0, none⟩) 0 0) [] rfl (has_lit0 rfl (Nat.le_refl _)) (.slice a xs.length ca) xs rfl (lies_alloc (HX.out.below HB5.out) _) (fun _ => rfl) (by simp; omega) (by simp; omega) (by simp) ?_; intro vn wn hn hgn; rw [List.nil_append] at hn; obtain ⟨an, cn, rfl, _⟩ := hn.form; have bn : Below (W5).heap.size W5 wn := grown_below2 (.inl (grown_alloc hgn)) (Nat.le_refl _); have HOn := Lib.hid (HO5.out.below bn); have HBn := Lib.hid (HB5.out.trans (bn.mono HB5.out.size)); have HVn := Lib.hid (hn.mono (Nat.le_trans hb HB5.out.size)); have HLn := Lib.hid HBn.out.size; clear hn hgn) | (refine wpList_append_rowV rfl (.tmp 30) (.tmp 34) 26 rfl j0 Tryz.underlying26 hj hy0 hy1 hy2 _ rfl HOn.out _ xs HVn.out _ rfl rfl (by have := HDL.out; omega) HLn.out ?_; intro vm wm hom hgm; have HOm := Lib.hid hom; have HBm := Lib.hid (HOn.out.frame HBn.out (Nat.le_refl _) hgm); clear hom hgm))
          have HB5 := HBm
          have HO5 := HOm
          have hdl : (done ++ [xs]).length ≤ 2 * i + 2 := by rw [List.length_append]; have := HDL.out; simp; omega
          have hcell := (HB5.out.cell (p := ⟨p, o + i, none⟩) (World.block_lt_of_cell? _ _ HC0.out)).trans HC0.out
          obtain ⟨va, vc, hvo⟩ := HO5.out.form
          subst hvo
          have HR5 := Lib.hid (HR.out.below HB5.out)
          have HL5 := Lib.hid HB5.out.size
          have HDL := Lib.hid hdl
          clear hdl
          go_wp2_with (refine wpList_append_rowV rfl _ _ 26 rfl j0 Tryz.underlying26 hj hy0 hy1 hy2 _ rfl HO5.out _ r HR5.out _ rfl rfl (by have := HDL.out; omega) HL5.out ?_; intro v6 w6 ho6 hg6; have HO6 := Lib.hid ho6; have HB6 := Lib.hid (HO5.out.frame HB5.out (Nat.le_refl _) hg6); clear ho6 hg6)
          go_roundw
          case rel => exact ⟨i + 1, _, _, _, by omega, rfl, rfl, by go_num, HO6, by show (_ ++ [r]) ++ _ = _; rw [List.append_assoc]; exact HD5.out, by rw [List.length_append]; have := HDL.out; simp at this ⊢; omega, HB6⟩
          case measure => simp [intOf]; omega
        | true =>
          have HD5 : Hid (done ++ (r :: putW xs true (rows.drop (i + 1))) = putW xs false rows) := by have := HD4.out; show _ = _; simpa using this
          clear HD4
          obtain ⟨va, vc, hvo⟩ := HO5.out.form
          subst hvo
          have HR5 := Lib.hid (HR.out.below HB5.out)
          have HL5 := Lib.hid HB5.out.size
          have HDL := Lib.hid hdl
          clear hdl
          go_wp2_with (refine wpList_append_rowV rfl _ _ 26 rfl j0 Tryz.underlying26 hj hy0 hy1 hy2 _ rfl HO5.out _ r HR5.out _ rfl rfl (by have := HDL.out; omega) HL5.out ?_; intro v6 w6 ho6 hg6; have HO6 := Lib.hid ho6; have HB6 := Lib.hid (HO5.out.frame HB5.out (Nat.le_refl _) hg6); clear ho6 hg6)
          go_roundw
          case rel => exact ⟨i + 1, _, _, _, by omega, rfl, rfl, by go_num, HO6, by show (_ ++ [r]) ++ _ = _; rw [List.append_assoc]; exact HD5.out, by rw [List.length_append]; have := HDL.out; simp at this ⊢; omega, HB6⟩
          case measure => simp [intOf]; omega
      · rw [hk] at HD4 ⊢
        clear hk
        have HD5 : Hid (done ++ (r :: putW xs true (rows.drop (i + 1))) = putW xs false rows) := by have := HD4.out; show _ = _; simpa using this
        clear HD4
        obtain ⟨va, vc, hvo⟩ := HO5.out.form
        subst hvo
        have HR5 := Lib.hid (HR.out.below HB5.out)
        have HL5 := Lib.hid HB5.out.size
        have HDL := Lib.hid hdl
        clear hdl
        go_wp2_with (refine wpList_append_rowV rfl _ _ 26 rfl j0 Tryz.underlying26 hj hy0 hy1 hy2 _ rfl HO5.out _ r HR5.out _ rfl rfl (by have := HDL.out; omega) HL5.out ?_; intro v6 w6 ho6 hg6; have HO6 := Lib.hid ho6; have HB6 := Lib.hid (HO5.out.frame HB5.out (Nat.le_refl _) hg6); clear ho6 hg6)
        go_roundw
        case rel => exact ⟨i + 1, _, _, _, by omega, rfl, rfl, by go_num, HO6, by show (_ ++ [r]) ++ _ = _; rw [List.append_assoc]; exact HD5.out, by rw [List.length_append]; have := HDL.out; simp at this ⊢; omega, HB6⟩
        case measure => simp [intOf]; omega
      · rw [hk] at HD4 ⊢
        clear hk
        have HD5 : Hid (done ++ (r :: putW xs c (rows.drop (i + 1))) = putW xs false rows) := by have := HD4.out; show _ = _; simpa using this
        clear HD4
        cases c with
        | false =>
          obtain ⟨va, vc, hvo⟩ := HO5.out.form
          subst hvo
          have HR5 := Lib.hid (HR.out.below HB5.out)
          have HL5 := Lib.hid HB5.out.size
          have HDL := Lib.hid hdl
          clear hdl
          go_wp2_with (refine wpList_append_rowV rfl _ _ 26 rfl j0 Tryz.underlying26 hj hy0 hy1 hy2 _ rfl HO5.out _ r HR5.out _ rfl rfl (by have := HDL.out; omega) HL5.out ?_; intro v6 w6 ho6 hg6; have HO6 := Lib.hid ho6; have HB6 := Lib.hid (HO5.out.frame HB5.out (Nat.le_refl _) hg6); clear ho6 hg6)
          go_roundw
          case rel => exact ⟨i + 1, _, _, _, by omega, rfl, rfl, by go_num, HO6, by show (_ ++ [r]) ++ _ = _; rw [List.append_assoc]; exact HD5.out, by rw [List.length_append]; have := HDL.out; simp at this ⊢; omega, HB6⟩
          case measure => simp [intOf]; omega
        | true =>
          obtain ⟨va, vc, hvo⟩ := HO5.out.form
          subst hvo
          have HR5 := Lib.hid (HR.out.below HB5.out)
          have HL5 := Lib.hid HB5.out.size
          have HDL := Lib.hid hdl
          clear hdl
          go_wp2_with (refine wpList_append_rowV rfl _ _ 26 rfl j0 Tryz.underlying26 hj hy0 hy1 hy2 _ rfl HO5.out _ r HR5.out _ rfl rfl (by have := HDL.out; omega) HL5.out ?_; intro v6 w6 ho6 hg6; have HO6 := Lib.hid ho6; have HB6 := Lib.hid (HO5.out.frame HB5.out (Nat.le_refl _) hg6); clear ho6 hg6)
          go_roundw
          case rel => exact ⟨i + 1, _, _, _, by omega, rfl, rfl, by go_num, HO6, by show (_ ++ [r]) ++ _ = _; rw [List.append_assoc]; exact HD5.out, by rw [List.length_append]; have := HDL.out; simp at this ⊢; omega, HB6⟩
          case measure => simp [intOf]; omega
    · have hE : rows.drop i = [] := List.drop_of_length_le (by omega)
      have hD := HD.out
      rw [hE] at hD
      have HDL := Lib.hid hdl
      cases c with
      | true =>
        have HE : Hid (done = putW xs false rows) := by have := hD; show _ = _; simpa [putW] using this
        clear hE hD HD
        go_wp2
        go_ret
        exact ⟨_, rfl, by have h6 := HOr.out; rw [HE.out] at h6; exact h6, HBr.out⟩
      | false =>
        have HE : Hid (done ++ [xs] = putW xs false rows) := by have := hD; show _ = _; simpa [putW] using this
        clear hE hD HD
        obtain ⟨va, vc, hvo⟩ := HOr.out.form
        subst hvo
        go_wp2_with (first | (refine append_lies (enc := (Value.int .i64)) (e := 3) _ rfl (.tmp 46) (.tmp 47) 24 rfl (wr).heap.size i0 (.int .i64 0) 8 Tryz.underlying24 hi hz0 hz1 hz2 rfl (.slice (some ⟨(wr).heap.size, 0, none⟩) 0 0) [] rfl (has_lit0 rfl (Nat.le_refl _)) (.slice a xs.length ca) xs rfl (lies_alloc (HX.out.below HBr.out) _) (fun _ => rfl) (by simp; omega) (by simp; omega) (by simp) ?_; intro vn wn hn hgn; rw [List.nil_append] at hn; obtain ⟨an, cn, rfl, _⟩ := hn.form; have bn : Below (wr).heap.size wr wn := grown_below2 (.inl (grown_alloc hgn)) (Nat.le_refl _); have HOn := Lib.hid (HOr.out.below bn); have HBn := Lib.hid (HBr.out.trans (bn.mono HBr.out.size)); have HVn := Lib.hid (hn.mono (Nat.le_trans hb HBr.out.size)); have HLn := Lib.hid HBn.out.size; clear hn hgn) | (refine wpList_append_rowV rfl (.tmp 45) (.tmp 49) 26 rfl j0 Tryz.underlying26 hj hy0 hy1 hy2 _ rfl HOn.out _ xs HVn.out _ rfl rfl (by have := HDL.out; omega) HLn.out ?_; intro vm wm hom hgm; have HOm := Lib.hid hom; have HBm := Lib.hid (HOn.out.frame HBn.out (Nat.le_refl _) hgm); clear hom hgm))
        go_ret
        exact ⟨_, rfl, by have h6 := HOm.out; rw [HE.out] at h6; exact h6, HBm.out⟩
end Fac
end Go.Proofs.YtfpdikohlafpiaaGreat
/- Contracts of the model's l11Turn, ConjugatesOf and LeastConjugate. No conditions beyond those that each states. -/
namespace Go.Proofs.YtfpdikohlafpiaaGreat
open Go.ChangeShapes Go.WideShapes Go.ChangeAt Go.RowKit
open Go.PlainAid Plain
set_option linter.unusedVariables false
namespace Lynd
open Fac Seqs
set_option maxRecDepth 100000 in
set_option maxHeartbeats 4000000 in
theorem spec_turn (v : Value) (u : List Int) (k : Nat) (w0 w : World) (h : LiesC w0 v u) (hb : Below w0.heap.size w0 w) (hk : k < u.length) (hs : u.length ≤ 1048576) :
    Calls Tryz.prog 34 #[v, .int .i64 k] w (Gives (Value.int .i64) 3 (u.drop k ++ u.take k) w) := by
  obtain ⟨i0, hi, hz0, hz1, hz2⟩ := info_parts Ints.infoI
  obtain ⟨a, ca, rfl, _⟩ := h.form
  obtain ⟨a2, c2, hsl, hc2⟩ := cut_from h (l := k) (by omega) (L := (k : Int)) rfl
  obtain ⟨a3, c3, hsl3, hc3⟩ := cut_to h (h := k) (by omega) (H := (k : Int)) rfl
  obtain ⟨V, hV⟩ : ∃ V, V = u.drop k := ⟨_, rfl⟩
  obtain ⟨X, hX⟩ : ∃ X, X = u.take k := ⟨_, rfl⟩
  rw [← hV] at hsl hc2
  rw [← hX] at hc3
  rw [← hV, ← hX]
  have hV0 : 0 < V.length := by rw [hV, List.length_drop]; omega
  have hVl : V.length ≤ 1048576 := by rw [hV, List.length_drop]; omega
  have hXl : X.length ≤ 1048576 := by rw [hX, List.length_take]; omega
  have hl2 := hc2.lies.below hb
  obtain ⟨p2, o2, rfl, _⟩ := lies_at (enc := (Value.int .i64)) hl2 (List.getElem?_eq_getElem hV0)
  have HC2 := Lib.hid hl2
  have HC3 := Lib.hid (hc3.lies.below hb)
  clear hc2 hc3 hl2 hV hX h hb
  go_enter Tryz.func34, Tryz.ntmps34
  go_wp2_with fail
  go_region_law (first
    | (refine step_copy_new rfl (.tmp 5) (.tmp 8) 24 rfl i0 Tryz.underlying24 hi hz0 hz1 hz2 _ rfl w (by repeat (first | with_reducible exact Below.refl _ _ | with_reducible apply bel_drew | with_reducible apply bel_alloc)) p2 o2 V.length c2 V rfl HC2.out hV0 hVl ?_; intro va wa hoa hba; have HVA := Lib.hid hoa; have HBA := Lib.hid hba; have HL3 := Lib.hid (HC3.out.below hba); have HBS := Lib.hid hba.size; clear hoa hba)
    | (refine step_append_list (enc := (Value.int .i64)) (e := 3) rfl (.tmp 9) (.tmp 12) 24 rfl w.heap.size i0 (.int .i64 0) 8 Tryz.underlying24 hi hz0 hz1 hz2 rfl va V rfl (by exact HVA.out) (.slice a3 k c3) X rfl (by exact HL3.out) (fun _ _ => rfl) (by omega) (by omega) (by exact HBS.out) ?_; intro vb wb hob hgb; have HVB := Lib.hid hob; have HBB := Lib.hid (HVA.out.frame HBA.out (Nat.le_refl _) hgb); clear hob hgb))
  all_goals
    go_wp2
    go_ret
    exact ⟨_, rfl, HVB.out, HBB.out⟩
set_option maxRecDepth 100000 in
set_option maxHeartbeats 4000000 in
theorem spec_conj (v : Value) (u : List Int) (w : World) (h : LiesC w v u) (hs : u.length ≤ 1048576) :
    Calls Tryz.prog 15 #[v] w (GivesV (conjV u) w) := by
  have HT := Lib.hid (fun (k : Nat) (W : World) (hb : Below w.heap.size w W) (hk : k < u.length) => spec_turn v u k w W h hb hk hs)
  obtain ⟨a, ca, rfl, _⟩ := h.form
  have HX := Lib.hid h
  have HB : Hid (Below w.heap.size w (w.alloc (Obj.cells #[] 24))) := (Below.refl _ _).alloc (Nat.le_refl _) _
  have HO : Hid (RowsV (w.alloc (Obj.cells #[] 24)) w.heap.size w.heap.size (.slice (some ⟨w.heap.size, 0, none⟩) 0 0) []) := RowsV.nil (has_lit0 (enc := id) rfl (Nat.le_refl _))
  clear h
  by_cases h64 : u.length ≤ 64
  · have hd64 := decide_eq_true (show (u.length : Int) ≤ 64 by omega)
    have HE : Hid (conjV u = sdl (rots u)) := by show _ = _; unfold conjV; rw [if_pos h64]
    go_enter Tryz.func15, Tryz.ntmps15
    go_wp2
    go_loopw [3, 4] (fun o' k' wr => ∃ (k : Nat) (vo : Value), k ≤ u.length ∧ vo = o' ∧ k' = .int .i64 k ∧ Hid (RowsV wr w.heap.size w.heap.size vo (sdl ((rots u).take k))) ∧ Hid (Below w.heap.size w wr)) (fun _ k' _ => u.length - (intOf k').toNat)
    case atStart => exact ⟨0, _, Nat.zero_le _, rfl, rfl, HO, HB⟩
    case round =>
      clear HO HB
      obtain ⟨k, vo, hk, rfl, rfl, HO, HB⟩ := hrel
      obtain ⟨va, vc, hvo⟩ := HO.out.form
      by_cases hlt : k < u.length
      · have HS := Lib.hid (sdl_snoc ((rots u).take k) (u.drop k ++ u.take k))
        have HR := Lib.hid (rots_take hlt)
        have hlen := sdl_len ((rots u).take k)
        have hrl : (u.drop k ++ u.take k).length ≤ 4194304 := by simp; omega
        rw [List.length_take, rots_len] at hlen
        obtain ⟨M, hM⟩ : ∃ M, M = sdl ((rots u).take k) := ⟨_, rfl⟩
        obtain ⟨X, hX⟩ : ∃ X, X = u.drop k ++ u.take k := ⟨_, rfl⟩
        rw [← hM, ← hX] at HS
        rw [← hM] at HO hvo hlen
        rw [← hX] at hrl HR
        have HTT := Lib.hid (HT.out k wr HB.out hlt)
        rw [← hX] at HTT
        subst hvo
        clear hM hX
        go_wp2_with fail
        refine HTT.out.mono ?_
        rintro e W4 ⟨v4, rfl, h4, b4⟩
        obtain ⟨xa, xc, hx4, _⟩ := h4.form
        have HP := Lib.hid (put (.slice va M.length vc) v4 M X W4 w.heap.size w.heap.size (HO.out.below b4) h4.lies (Nat.le_trans HB.out.size b4.size) (by omega) hrl)
        have HB4 := Lib.hid (HB.out.trans (b4.mono HB.out.size))
        have HL4 := Lib.hid (Nat.le_trans HB.out.size b4.size)
        subst hx4
        clear h4 b4 HTT
        go_wp2_with fail
        refine HP.out.mono ?_
        rintro e W5 ⟨v5, rfl, ho5, b5⟩
        rw [← HS.out, ← HR.out] at ho5
        have HO5 := Lib.hid (ho5.mono HL4.out (Nat.le_refl _))
        have HB5 := Lib.hid (HB4.out.trans (b5.mono HB4.out.size))
        clear ho5 b5 HP
        go_wp2
        go_roundw
        case rel => exact ⟨k + 1, _, by omega, rfl, by go_num, HO5, HB5⟩
        case measure => simp [intOf]; omega
      · have HE2 : Hid (RowsV wr w.heap.size w.heap.size vo (conjV u)) := by
          have := HO.out
          rw [rots_all (by omega), ← HE.out] at this
          exact this
        clear hvo
        go_wp2
        go_ret
        exact ⟨_, rfl, HE2.out.own, HB.out⟩
  · have hd64 := decide_eq_false (show ¬ (u.length : Int) ≤ 64 by omega)
    have hd0 := decide_eq_true (show (0 : Int) < (u.length : Int) by omega)
    have HE := Lib.hid (conjV_big (u := u) (by omega))
    go_enter Tryz.func15, Tryz.ntmps15
    go_wp2
    refine wp_loop_rounds 1 ?_
    rw [rounds_succ]
    go_wp2
    go_ret
    exact ⟨_, rfl, by rw [HE.out]; exact HO.out.own, HB.out⟩
set_option maxRecDepth 100000 in
set_option maxHeartbeats 2000000 in
theorem spec_lc (v : Value) (u : List Int) (w : World) (h : LiesC w v u) (hs : u.length ≤ 1048576) :
    Calls Tryz.prog 13 #[v] w (Gives (Value.int .i64) 3 (lcV u) w) := by
  obtain ⟨i0, hi, hz0, hz1, hz2⟩ := info_parts Ints.infoI
  have HC := Lib.hid (spec_conj v u w h hs)
  obtain ⟨a, ca, rfl, _⟩ := h.form
  have HX := Lib.hid h.lies
  clear h
  obtain ⟨L, hL⟩ : ∃ L, conjV u = L := ⟨_, rfl⟩
  rw [hL] at HC
  cases L with
  | nil =>
    rw [conjV_none hL]
    clear hL
    go_enter Tryz.func13, Tryz.ntmps13
    go_wp2_with fail
    refine HC.out.mono ?_
    rintro e W1 ⟨v1, rfl, ho, b1⟩
    obtain ⟨us, ht, _, _, hlen, _⟩ := ho
    obtain ⟨a1, c1, rfl, _⟩ := ht.form
    rw [hlen]
    have HB1 := Lib.hid b1
    have HX1 := Lib.hid (HX.out.below b1)
    clear ht hlen b1 HC
    go_wp2_with (at_builtin; refine append_lies (enc := (Value.int .i64)) (e := 3) _ rfl (.tmp 9) (.tmp 10) 24 rfl W1.heap.size i0 (.int .i64 0) 8 Tryz.underlying24 hi hz0 hz1 hz2 rfl (.slice (some ⟨W1.heap.size, 0, none⟩) 0 0) [] rfl (has_lit0 rfl (Nat.le_refl _)) (.slice a u.length ca) u rfl (lies_alloc HX1.out _) (fun _ => rfl) (by simp; omega) (by simp; omega) (by simp) ?_; intro vn wn hn hgn; rw [List.nil_append] at hn; have hbn : Below W1.heap.size W1 wn := (has_lit0 (enc := (Value.int .i64)) (e := 3) (w := W1) (base := W1.heap.size) rfl (Nat.le_refl _)).frame ((Below.refl _ _).alloc (Nat.le_refl _) _) (Nat.le_refl _) hgn; have HN := Lib.hid (hn.mono HB1.out.size); have HBN := Lib.hid (HB1.out.trans (hbn.mono HB1.out.size)); clear hn hgn hbn)
    go_ret
    exact ⟨_, rfl, HN.out, HBN.out⟩
  | cons x l =>
    rw [lcV_head hL]
    clear hL
    go_enter Tryz.func13, Tryz.ntmps13
    go_wp2_with fail
    refine HC.out.mono ?_
    rintro e W1 ⟨v1, rfl, ho, b1⟩
    obtain ⟨us, ht, _, _, hlen, hrow⟩ := ho
    obtain ⟨uu, huu⟩ : ∃ uu, us[0]? = some uu := ⟨_, List.getElem?_eq_getElem (by rw [hlen]; simp)⟩
    obtain ⟨a1, c1, rfl, _⟩ := ht.form
    obtain ⟨g, o, rfl, hcell⟩ := lies_at (enc := id) ht.lies huu
    have hr := hrow 0 uu x huu rfl
    obtain ⟨ea, ec, rfl⟩ := hr.form
    have HR := Lib.hid hr.has
    have HB1 := Lib.hid b1
    rw [hlen, List.length_cons]
    have hcell2 : W1.cell? ⟨g, o, none⟩ = some (.slice ea x.length ec) := hcell
    have hsm := ht.small
    rw [hlen, List.length_cons] at hsm
    clear ht hlen hrow huu hcell hr b1 HC
    obtain ⟨m, hm⟩ : ∃ m, m = l.length + 1 := ⟨_, rfl⟩
    rw [← hm] at hsm ⊢
    have hm0 : 0 < m := by omega
    have hmd : ((m : Int) == 0) = false := by simp; omega
    clear hm
    go_wp2
    go_ret
    exact ⟨_, rfl, HR.out, HB1.out⟩
end Lynd
end Go.Proofs.YtfpdikohlafpiaaGreat
/- Contracts of the model's borders, periods and root of a word. No conditions beyond those that each states. -/
namespace Go.Proofs.YtfpdikohlafpiaaGreat
open Go.ChangeShapes Go.WideShapes Go.ChangeAt Go.RowKit
open Go.PlainAid Plain
set_option linter.unusedVariables false
namespace Fac
/-- The longest borders of the first 1, 2, .. letters. -/
def blT (u : List Int) (i : Nat) : List Int := (List.range i).map fun k => bd u (k + 1)
theorem blT_at (u : List Int) {i j : Nat} (h : j < i) : (blT u i)[j]? = some (bd u (j + 1)) := by simp [blT, h]
theorem blT_len (u : List Int) (i : Nat) : (blT u i).length = i := by simp [blT]
theorem blT_succ (u : List Int) (i : Nat) : blT u (i + 1) = blT u i ++ [bd u (i + 1)] := by simp [blT, List.range_succ]
theorem lies_cell {w : World} {a : Option Addr} {n c : Nat} {xs : List Int} {i : Nat} {x : Int} (h : Lies (Value.int .i64) w (.slice a n c) xs) (hx : xs[i]? = some x) : ∃ b off, a = some ⟨b, off, none⟩ ∧ w.cell? ⟨b, off + i, none⟩ = some (.int .i64 x) := by
  obtain ⟨_, a', c', hv, _, hc⟩ := h
  injection hv with e1 e2 e3
  subst e1
  exact hc i x hx
theorem lies_shape {w : World} {v : Value} {xs : List Int} (h : Lies (Value.int .i64) w v xs) : ∃ a c, v = .slice a xs.length c := by
  obtain ⟨_, a, c, rfl, _⟩ := h
  exact ⟨a, c, rfl⟩
set_option maxRecDepth 100000 in
set_option maxHeartbeats 2000000 in
theorem spec_l9 (v : Value) (u : List Int) (w : World) (h : Lies (Value.int .i64) w v u) (hs : u.length ≤ 4194304) :
    Calls Tryz.prog 91 #[v] w (Gives (Value.int .i64) 3 (blT u u.length) w) := by
  obtain ⟨i0, hi, hz0, hz1, hz2⟩ := info_parts Ints.infoI
  obtain ⟨pa, pc, rfl⟩ := lies_shape h
  have HU := Lib.hid h
  have HB : Hid (Below w.heap.size w (w.alloc (Obj.cells #[] 3))) := (Below.refl _ _).alloc (Nat.le_refl _) _
  have HO : Hid (Has (Value.int .i64) 3 (w.alloc (Obj.cells #[] 3)) w.heap.size (.slice (some ⟨w.heap.size, 0, none⟩) 0 0) []) := has_lit0 rfl (Nat.le_refl _)
  clear h
  go_enter Tryz.func91, Tryz.ntmps91
  go_wp2
  go_loopw [3, 4, 5] (fun o' k' i' wr => ∃ (i k : Nat) (vo : Value), i ≤ u.length ∧ k ≤ i ∧ k' = .int .i64 k ∧ i' = .int .i64 i ∧ vo = o' ∧ Hid (0 < i → (k : Int) = bd u i) ∧ Hid (Has (Value.int .i64) 3 wr w.heap.size vo (blT u i)) ∧ Hid (Below w.heap.size w wr)) (fun _ _ i' _ => u.length - (intOf i').toNat)
  case atStart => exact ⟨0, 0, _, Nat.zero_le _, Nat.le_refl _, rfl, rfl, rfl, fun h => by omega, HO, HB⟩
  case round =>
    obtain ⟨i, k, vo, hi', hki, rfl, rfl, rfl, HK, HOr, HBr⟩ := hrel
    obtain ⟨oa, oc, rfl, _⟩ := HOr.out.form
    by_cases hlt : i < u.length
    · obtain ⟨x, hx⟩ : ∃ x, u[i]? = some x := ⟨_, List.getElem?_eq_getElem hlt⟩
      have HS := Lib.hid (blT_succ u i)
      by_cases h0 : i = 0
      · subst h0
        obtain rfl : k = 0 := by omega
        have HG : Hid ((0 : Int) = bd u (0 + 1)) := by show _ = _; rw [bd_succ hx, bd_zero, fa_none]
        have HL := Lib.hid (blT_len u 0)
        clear hx
        go_wp2_with (refine append_one (enc := (Value.int .i64)) (e := 3) wr rfl _ _ 24 rfl w.heap.size i0 (.int .i64 0) 8 Tryz.underlying24 hi hz0 hz1 hz2 rfl (.slice oa (blT u 0).length oc) (blT u 0) rfl HOr.out (0 : Int) rfl (fun _ => rfl) (by have := HL.out; omega) (by have := HL.out; omega) (HBr.out).size ?_; intro v' w4 ho hg; have HO4 := Lib.hid ho; have HB4 := Lib.hid ((HOr.out).frame (HBr.out) (Nat.le_refl _) hg); clear hg ho)
        go_roundw
        case rel => exact ⟨1, 0, _, by omega, by omega, rfl, rfl, rfl, fun _ => HG.out, by show Has _ _ _ _ _ _; rw [HS.out, ← HG.out]; exact HO4, HB4⟩
        case measure => simp [intOf]; omega
      · have hd0 : ((i : Int) == 0) = false := by simpa using h0
        have hbg := bd_succ hx
        rw [← HK.out (by omega)] at hbg
        have HX := Lib.hid hx
        have HF := Lib.hid hbg
        have hkl := bd_ge u i
        rw [← HK.out (by omega)] at hkl
        have hkl2 : k < i := by omega
        obtain ⟨p, o, hpa, hc1⟩ := lies_cell HU.out hx
        have HC1 := Lib.hid hc1
        subst hpa
        have HL := Lib.hid (blT_len u i)
        have HBL : Hid (∀ j, j < i → (blT u i)[j]? = some (bd u (j + 1))) := fun j hj => blT_at u hj
        obtain ⟨L, hL⟩ : ∃ L, L = blT u i := ⟨_, rfl⟩
        rw [← hL] at HOr HL HS HBL ⊢
        clear hL
        clear hx hbg hc1 hkl HK
        have hne : 0 < i := by omega
        go_wp2
        obtain ⟨W6, hW6⟩ : ∃ W : World, W = wr := ⟨_, rfl⟩
        rw [← hW6] at HOr HBr ⊢
        clear hW6
        go_loopw [4] (fun k' wr => ∃ k : Nat, k < i ∧ k' = .int .i64 k ∧ Hid (bd u (i + 1) = fa u k x) ∧ Hid (Has (Value.int .i64) 3 wr w.heap.size (.slice oa L.length oc) L) ∧ Hid (Below w.heap.size w wr)) (fun k' _ => (intOf k').toNat)
        case atStart => exact ⟨k, by omega, rfl, HF, HOr, HBr⟩
        case round =>
          obtain ⟨k, hk, rfl, HF, HOs, HBs⟩ := hrel
          obtain ⟨y, hy⟩ : ∃ y, u[k]? = some y := ⟨_, List.getElem?_eq_getElem (by omega)⟩
          obtain ⟨_, _, hpa, hc2⟩ := lies_cell (HU.out.below HBs.out) hy
          cases hpa
          have hc1 := (HBs.out.cell (p := ⟨p, o + i, none⟩) (World.block_lt_of_cell? _ _ HC1.out)).trans HC1.out
          have HY := Lib.hid hy
          clear hy
          by_cases hxy : y = x
          · subst hxy
            have HG : Hid ((k : Int) + 1 = bd u (i + 1)) := by rw [HF.out, fa_hit HY.out]; rfl
            have hd1 : (y != y) = false := by simp
            have hd2 : (y == y) = true := by simp
            by_cases hk0 : k = 0
            · subst hk0
              rw [Nat.add_zero] at hc2
              have hn0 : 0 < u.length := by omega
              go_wp2_with fail
              go_quiet (fail)
              go_wp2_with fail
              go_quiet (fail)
              go_wp2_with (refine append_one (enc := (Value.int .i64)) (e := 3) _ rfl _ _ 24 rfl w.heap.size i0 (.int .i64 0) 8 Tryz.underlying24 hi hz0 hz1 hz2 rfl (.slice oa L.length oc) L rfl (HOs.out.below (below_drewN (Below.refl _ _) _)) ((1 : Int)) rfl (fun _ => rfl) (by have := HL.out; omega) (by have := HL.out; omega) ((below_drewN HBs.out _)).size ?_; intro v' w4 ho hg; have HO4 := Lib.hid ho; have HB4 := Lib.hid (((HOs.out.below (below_drewN (Below.refl _ _) _))).frame ((below_drewN HBs.out _)) (Nat.le_refl _) hg); clear hg ho)
              go_roundw
              case rel => exact ⟨i + 1, 1, _, by omega, by omega, by go_num, by go_num, rfl, fun _ => HG.out, by show Has _ _ _ _ _ _; rw [HS.out, ← HG.out]; exact HO4, HB4⟩
              case measure => simp [intOf]; omega
            · have hkd := decide_eq_true (show 0 < k by omega)
              go_wp2_with fail
              go_quiet (fail)
              go_wp2_with fail
              go_quiet (fail)
              go_wp2_with (refine append_one (enc := (Value.int .i64)) (e := 3) _ rfl _ _ 24 rfl w.heap.size i0 (.int .i64 0) 8 Tryz.underlying24 hi hz0 hz1 hz2 rfl (.slice oa L.length oc) L rfl (HOs.out.below (below_drewN (Below.refl _ _) _)) ((k : Int) + 1) rfl (fun _ => rfl) (by have := HL.out; omega) (by have := HL.out; omega) ((below_drewN HBs.out _)).size ?_; intro v' w4 ho hg; have HO4 := Lib.hid ho; have HB4 := Lib.hid (((HOs.out.below (below_drewN (Below.refl _ _) _))).frame ((below_drewN HBs.out _)) (Nat.le_refl _) hg); clear hg ho)
              go_roundw
              case rel => exact ⟨i + 1, k + 1, _, by omega, by omega, by go_num, by go_num, rfl, fun _ => HG.out, by show Has _ _ _ _ _ _; rw [HS.out, ← HG.out]; exact HO4, HB4⟩
              case measure => simp [intOf]; omega
          · have hd1 : (x != y) = true := by simp; exact fun e => hxy e.symm
            have hd2 : (x == y) = false := by simp; exact fun e => hxy e.symm
            have hmiss := fa_miss (u := u) (k := k) (c := x) (fun h => hxy (Option.some.inj (HY.out.symm.trans h)))
            clear hxy
            by_cases hk0 : k = 0
            · subst hk0
              rw [Nat.add_zero] at hc2
              have hn0 : 0 < u.length := by omega
              have HG : Hid ((0 : Int) = bd u (i + 1)) := by rw [HF.out, hmiss]; rfl
              go_wp2_with fail
              go_quiet (fail)
              go_wp2_with fail
              go_quiet (fail)
              go_wp2_with (refine append_one (enc := (Value.int .i64)) (e := 3) _ rfl _ _ 24 rfl w.heap.size i0 (.int .i64 0) 8 Tryz.underlying24 hi hz0 hz1 hz2 rfl (.slice oa L.length oc) L rfl (HOs.out.below (below_drewN (Below.refl _ _) _)) ((0 : Int)) rfl (fun _ => rfl) (by have := HL.out; omega) (by have := HL.out; omega) ((below_drewN HBs.out _)).size ?_; intro v' w4 ho hg; have HO4 := Lib.hid ho; have HB4 := Lib.hid (((HOs.out.below (below_drewN (Below.refl _ _) _))).frame ((below_drewN HBs.out _)) (Nat.le_refl _) hg); clear hg ho)
              go_roundw
              case rel => exact ⟨i + 1, 0, _, by omega, by omega, by go_num, by go_num, rfl, fun _ => HG.out, by show Has _ _ _ _ _ _; rw [HS.out, ← HG.out]; exact HO4, HB4⟩
              case measure => simp [intOf]; omega
            · have hkd := decide_eq_true (show 0 < k by omega)
              obtain ⟨m, hm⟩ : ∃ m : Nat, bd u k = m := ⟨(bd u k).toNat, by have := bd_pos u (n := k) (by omega); omega⟩
              have hmk : m < k := by have := bd_ge u k; omega
              rw [hm] at hmiss
              have HF2 : Hid (bd u (i + 1) = fa u m x) := by rw [HF.out]; exact hmiss
              have hat := HBL.out (k - 1) (by omega)
              rw [show k - 1 + 1 = k from by omega, hm] at hat
              have HAT := Lib.hid hat
              clear hmiss hm hat
              obtain ⟨q, r, hoa, hc3⟩ := lies_cell HOs.out.lies HAT.out
              have HOA := Lib.hid hoa
              subst hoa
              have hkl3 : k ≤ L.length := by have := HL.out; omega
              go_wp2_with fail
              go_quiet (fail)
              obtain ⟨j, rfl⟩ : ∃ j, k = j + 1 := ⟨k - 1, by omega⟩
              rw [Nat.add_sub_cancel] at hc3
              have e1 : ((j + 1 : Nat) : Int) - 1 = (j : Int) := by omega
              have hjl : j < L.length := by omega
              go_wp2
              go_roundw
              case rel => exact ⟨m, by omega, rfl, HF2, Lib.hid (HOs.out.below (below_drewN (Below.refl _ _) _)), Lib.hid (below_drewN HBs.out _)⟩
              case measure => simp [intOf]; omega
    · have HE : Hid (Has (Value.int .i64) 3 wr w.heap.size (.slice oa (blT u i).length oc) (blT u u.length)) := by
        have h := HOr.out
        rw [show i = u.length from by omega] at h ⊢
        exact h
      have HL := Lib.hid (blT_len u i)
      obtain rfl : i = u.length := by omega
      go_wp2
      go_ret
      exact ⟨_, rfl, HE.out, HBr.out⟩
end Fac
end Go.Proofs.YtfpdikohlafpiaaGreat
/- Contracts of the model's BordersOf, PeriodsOf, LeastPeriod, IsPrimitive and RootOf. No conditions beyond those that each states. -/
namespace Go.Proofs.YtfpdikohlafpiaaGreat
open Go.ChangeShapes Go.WideShapes Go.ChangeAt Go.RowKit
open Go.PlainAid Plain
set_option linter.unusedVariables false
namespace Fac
theorem brs_more {u xs : List Int} {k m : Nat} (h : brs u k ++ xs = brV u) (hk : 0 < k) (hm : bd u k = m) : brs u m ++ ([(m : Int)] ++ xs) = brV u := by
  rw [brs_pos u hk, hm, Int.toNat_natCast, List.append_assoc] at h
  exact h
theorem brs_left {u xs : List Int} {k : Nat} (h : brs u k ++ xs = brV u) : xs.length ≤ u.length := by
  have h1 := congrArg List.length h
  rw [List.length_append] at h1
  have := brV_len u
  omega
set_option maxHeartbeats 2000000 in
theorem spec_bor (v : Value) (u : List Int) (w : World) (h : Lies (Value.int .i64) w v u) (hs : u.length ≤ 4194304) :
    Calls Tryz.prog 73 #[v] w (Gives (Value.int .i64) 3 (brV u) w) := by
  obtain ⟨i0, hi, hz0, hz1, hz2⟩ := info_parts Ints.infoI
  obtain ⟨pa, pc, rfl⟩ := lies_shape h
  have HU := Lib.hid h
  have HB : Hid (Below w.heap.size w (w.alloc (Obj.cells #[] 3))) := (Below.refl _ _).alloc (Nat.le_refl _) _
  have HO : Hid (Has (Value.int .i64) 3 (w.alloc (Obj.cells #[] 3)) w.heap.size (.slice (some ⟨w.heap.size, 0, none⟩) 0 0) []) := has_lit0 rfl (Nat.le_refl _)
  clear h
  go_enter Tryz.func73, Tryz.ntmps73
  go_wp2_with fail
  refine (spec_l9 _ u _ (HU.out.below HB.out) hs).mono ?_
  rintro e W1 ⟨vb, rfl, hv, b1⟩
  obtain ⟨ba, bc, hvb, _⟩ := hv.form
  rw [blT_len] at hvb
  subst hvb
  have HV := Lib.hid hv.lies
  have HO1 := Lib.hid (HO.out.below b1)
  have HB1 := Lib.hid (HB.out.trans (b1.mono HB.out.size))
  clear hv b1 HO HB
  go_wp2
  go_loopw [3, 5] (fun o' k' wr => ∃ (k : Nat) (vo : Value) (xs : List Int), k ≤ u.length ∧ k' = .int .i64 k ∧ vo = o' ∧ Hid (brs u k ++ xs = brV u) ∧ Hid (Has (Value.int .i64) 3 wr w.heap.size vo xs) ∧ Hid (Below W1.heap.size W1 wr)) (fun _ k' _ => (intOf k').toNat)
  case atStart => exact ⟨u.length, _, [], Nat.le_refl _, rfl, rfl, List.append_nil _, HO1, Below.refl _ _⟩
  case round =>
    obtain ⟨k, vo, xs, hk, rfl, rfl, HX, HOr, HBr⟩ := hrel
    obtain ⟨oa, oc, rfl, _⟩ := HOr.out.form
    by_cases h0 : 0 < k
    · obtain ⟨j, rfl⟩ : ∃ j, k = j + 1 := ⟨k - 1, by omega⟩
      obtain ⟨m, hm⟩ : ∃ m : Nat, bd u (j + 1) = m := ⟨(bd u (j + 1)).toNat, by have := bd_pos u h0; omega⟩
      have hmk : m < j + 1 := by have := bd_ge u (j + 1); omega
      have HX2 := Lib.hid (brs_more HX.out h0 hm)
      have HL := Lib.hid (brs_left HX.out)
      have hat := blT_at u (i := u.length) (j := j) (by omega)
      rw [hm] at hat
      obtain ⟨q, r, hba, hc⟩ := lies_cell (HV.out.below HBr.out) hat
      have HBA := Lib.hid hba
      subst hba
      have e1 : ((j + 1 : Nat) : Int) - 1 = (j : Int) := by omega
      have hjl : j < u.length := by omega
      have hlit := Lib.hid (Has.lit (enc := (Value.int .i64)) (e := 3) wr [(m : Int)] HBr.out.size (by simp))
      have hl := Lib.hid (HOr.out.lies.below ((Below.refl wr.heap.size wr).alloc (Nat.le_refl _) (.cells #[.int .i64 (m : Int)] 3)))
      clear hm hat
      go_wp2_with (at_builtin; refine append_lies (enc := (Value.int .i64)) (e := 3) _ rfl _ _ 24 rfl W1.heap.size i0 (.int .i64 0) 8 Tryz.underlying24 hi hz0 hz1 hz2 rfl _ [(m : Int)] rfl hlit.out (.slice oa xs.length oc) xs rfl hl.out (fun _ => rfl) (by have := HL.out; simp; omega) (by have := HL.out; simp; omega) (by have := HBr.out.size; simp; omega) ?_; intro v' w' hown' hgrow')
      have hb' : Hid (Below W1.heap.size W1 w') := hlit.out.frame (HBr.out.alloc HBr.out.size _) (Nat.le_refl _) hgrow'
      have HO' := Lib.hid (hown'.mono HB1.out.size)
      clear hown' hgrow' hlit hl
      go_wp2
      go_roundw
      case rel => exact ⟨m, _, _, by omega, rfl, rfl, HX2, HO', hb'⟩
      case measure => simp [intOf]; omega
    · obtain rfl : k = 0 := by omega
      have HE : Hid (Has (Value.int .i64) 3 wr w.heap.size (.slice oa xs.length oc) (brV u)) := by
        have h := HOr.out
        rw [← HX.out, brs_zero]
        exact h
      go_wp2
      go_ret
      exact ⟨_, rfl, HE.out, HB1.out.trans (HBr.out.mono HB1.out.size)⟩
def prT (u : List Int) (k : Nat) : List Int := ((brV u).drop k).reverse.map fun b => (u.length : Int) - b
theorem prT_end (u : List Int) : prT u (brV u).length = [] := by simp [prT]
theorem prT_zero (u : List Int) : prT u 0 = prV u := rfl
theorem prT_succ {u : List Int} {k : Nat} {x : Int} (h : (brV u)[k]? = some x) : prT u k = prT u (k + 1) ++ [(u.length : Int) - x] := by
  obtain ⟨h1, rfl⟩ := List.getElem?_eq_some_iff.1 h
  unfold prT
  rw [List.drop_eq_getElem_cons h1, List.reverse_cons, List.map_append]
  rfl
theorem prT_len (u : List Int) (k : Nat) : (prT u k).length ≤ u.length := by
  have := brV_len u
  simp [prT]
  omega
/-- 'v = append(v, x)', x an int; where the slice lies then. -/
theorem append_blk {P : Program} (wr : World) {ops : Array Oper} {rest : List Oper} {o : Oper} {a : Act} {Q : Exit → Act → World → Prop} (hgd : o.guard = none) (s x : Operand) (t : TypeId)
    (ho : o.op = .call { callee := .builtin .append, args := #[s, x], argTypes := #[t, t] })
    (base : Nat) (i : TypeInfo) (ht : P.underlying t = some (.slice 3)) (hi : P.info? 3 = some i) (hz : i.zero = some (.int .i64 0))
    (hsize : i.size = 1) (hby : i.bytes = 8)
    (v : Value) (xs : List Int) (hs : a.eval s = v) (hown : Has (Value.int .i64) 3 wr base v xs) (y : Int) (hx : a.eval x = .slice (some ⟨wr.heap.size, 0, none⟩) 1 1)
    (hlen : xs.length ≤ 100000000) (hb2 : base ≤ wr.heap.size)
    (h : ∀ v' w', Has (Value.int .i64) 3 w' base v' (xs ++ [y]) → wr.grownBy w' v.ownBlock → (∀ k, v'.ownBlock = some k → v.ownBlock = some k ∨ wr.heap.size ≤ k) → wpList P ops Q rest (a.put o.dst v') w') :
    wpList P ops Q (o :: rest) a (wr.alloc (.cells #[.int .i64 y] 3)) := by
  refine wpList_append_list (enc := (Value.int .i64)) (e := 3) hgd s x t ho base i (.int .i64 0) 8 ht hi hz hsize hby rfl v xs hs (has_alloc hown _) (.slice (some ⟨wr.heap.size, 0, none⟩) 1 1) [y] hx (lies_lit1 (enc := (Value.int .i64)) y rfl) (fun _ _ => rfl) (by simp; omega) (by simp; omega) (by simp; omega) ?_
  intro v' w' hv' hg hbk
  exact h v' w' hv' (grown_alloc hg) (fun k hk => (hbk k hk).imp id fun h => by simp at h; omega)
/-- A slice ahead of another one's making, or made behind it, shares no block with it. -/
def Beside (lo hi : Nat) (v : Value) : Prop := ∀ k, v.ownBlock = some k → k < lo ∨ hi ≤ k
theorem Beside.step {lo hi : Nat} {v v' : Value} {W : World} (h : Beside lo hi v) (hk : ∀ k, v'.ownBlock = some k → v.ownBlock = some k ∨ W.heap.size ≤ k) (hW : hi ≤ W.heap.size) : Beside lo hi v' := fun k h1 =>
  (hk k h1).elim (fun h2 => h k h2) fun h2 => .inr (by omega)
theorem Has.keep {e : TypeId} {α : Type} {enc : α → Value} {w w' : World} {lo hi : Nat} {v vo : Value} {xs : List α} (h : Has enc e w lo v xs) (hh : ∀ k, v.ownBlock = some k → k < hi) (hb : Beside lo hi vo) (hg : w.grownBy w' vo.ownBlock) : Has enc e w' lo v xs := by
  refine h.grown hg ?_
  cases hk : v.ownBlock with
  | none => exact .inl rfl
  | some k =>
    refine .inr fun e => ?_
    have h1 := (h.lt k hk).1
    have h2 := hh k hk
    have h3 := hb k e.symm
    omega
set_option maxHeartbeats 2000000 in
theorem spec_per (v : Value) (u : List Int) (w : World) (h : Lies (Value.int .i64) w v u) (hs : u.length ≤ 4194304) :
    Calls Tryz.prog 65 #[v] w (Gives (Value.int .i64) 3 (prV u) w) := by
  obtain ⟨i0, hi, hz0, hz1, hz2⟩ := info_parts Ints.infoI
  obtain ⟨pa, pc, rfl⟩ := lies_shape h
  have HU := Lib.hid h
  have HB : Hid (Below w.heap.size w (w.alloc (Obj.cells #[] 3))) := (Below.refl _ _).alloc (Nat.le_refl _) _
  have HO : Hid (Has (Value.int .i64) 3 (w.alloc (Obj.cells #[] 3)) w.heap.size (.slice (some ⟨w.heap.size, 0, none⟩) 0 0) []) := has_lit0 rfl (Nat.le_refl _)
  clear h
  go_enter Tryz.func65, Tryz.ntmps65
  go_wp2_with fail
  refine (spec_bor _ u _ (HU.out.below HB.out) hs).mono ?_
  rintro e W1 ⟨vb, rfl, hv, b1⟩
  obtain ⟨ba, bc, rfl, _⟩ := hv.form
  have HV := Lib.hid hv
  have HVL : Hid (∀ k, Value.ownBlock (.slice ba (brV u).length bc) = some k → k < W1.heap.size) := fun k hk => (hv.lt k hk).2
  have HS1 := Lib.hid b1.size
  have HO1 := Lib.hid (HO.out.below b1)
  have HB1 := Lib.hid (HB.out.trans (b1.mono HB.out.size))
  have HBL := Lib.hid (brV_len u)
  have HBG : Hid (∀ x, x ∈ brV u → 0 ≤ x ∧ x < u.length) := fun x hx => brs_range u _ x hx
  have HS : Hid (∀ (k : Nat) (x : Int), (brV u)[k]? = some x → prT u k = prT u (k + 1) ++ [(u.length : Int) - x]) := fun k x hx => prT_succ hx
  have HZ := Lib.hid (prT_end u)
  have HBS : Hid (Beside (w.heap.size + 1) W1.heap.size (.slice (some ⟨w.heap.size, 0, none⟩) 0 0)) := fun k hk => .inl (by simp [Value.ownBlock] at hk; omega)
  obtain ⟨L, hL⟩ : ∃ L, L = brV u := ⟨_, rfl⟩
  rw [← hL] at HV HVL HBL HBG HS HZ ⊢
  rw [size_alloc'] at HV
  have hlv : L.length ≤ 4194304 := by have := HBL.out; omega
  clear hv b1 HO HB hL
  go_wp2
  go_loopw [3, 5] (fun o' k' wr => ∃ (k : Nat) (vo : Value), k ≤ L.length ∧ k' = .int .i64 ((k : Int) - 1) ∧ vo = o' ∧ Hid (Has (Value.int .i64) 3 wr w.heap.size vo (prT u k)) ∧ Hid (Has (Value.int .i64) 3 wr (w.heap.size + 1) (.slice ba L.length bc) L) ∧ Hid (Beside (w.heap.size + 1) W1.heap.size vo) ∧ Hid (Below w.heap.size w wr) ∧ Hid (W1.heap.size ≤ wr.heap.size)) (fun _ k' _ => (intOf k' + 1).toNat)
  case atStart => exact ⟨L.length, _, Nat.le_refl _, by go_num, rfl, by show Has _ _ _ _ _ _; rw [HZ.out]; exact HO1.out, HV, HBS, HB1, Nat.le_refl _⟩
  case round =>
    obtain ⟨k, vo, hk, rfl, rfl, HOr, HVr, HBSr, HBr, HSr⟩ := hrel
    obtain ⟨oa, oc, rfl, _⟩ := HOr.out.form
    by_cases h0 : 0 < k
    · obtain ⟨j, rfl⟩ : ∃ j, k = j + 1 := ⟨k - 1, by omega⟩
      have hj : j < L.length := by omega
      obtain ⟨x, hx⟩ : ∃ x, L[j]? = some x := ⟨_, List.getElem?_eq_getElem hj⟩
      obtain ⟨q, r, hba, hc⟩ := lies_cell HVr.out.lies hx
      have HBA := Lib.hid hba
      subst hba
      have hxr := HBG.out x (List.mem_of_getElem? hx)
      have HE := Lib.hid (HS.out j x hx)
      have HL := Lib.hid (prT_len u (j + 1))
      clear hx
      go_wp2_with (at_builtin; go_loud (refine append_blk wr rfl _ _ 24 rfl w.heap.size i0 Tryz.underlying24 hi hz0 hz1 hz2 (.slice oa (prT u (j + 1)).length oc) (prT u (j + 1)) rfl HOr.out ((u.length : Int) - x) rfl (by have := HL.out; omega) HBr.out.size ?_; intro v' w' hown' hgrow' hblk'))
      have HO' := Lib.hid hown'
      have HB' := Lib.hid (HOr.out.frame HBr.out (Nat.le_refl _) hgrow')
      have HV' := Lib.hid (Has.keep HVr.out HVL.out HBSr.out hgrow')
      have HBS' := Lib.hid (HBSr.out.step hblk' HSr.out)
      have HS' := Lib.hid (Nat.le_trans HSr.out hgrow'.size)
      clear hown' hgrow' hblk'
      go_roundw
      case rel => exact ⟨j, _, by omega, by go_num, rfl, by show Has _ _ _ _ _ _; rw [HE.out]; exact HO'.out, HV', HBS', HB', HS'⟩
      case measure => simp [intOf] <;> omega
    · obtain rfl : k = 0 := by omega
      go_wp2
      go_ret
      exact ⟨_, rfl, HOr.out, HBr.out⟩
set_option maxHeartbeats 2000000 in
theorem spec_lp (v : Value) (u : List Int) (w : World) (h : Lies (Value.int .i64) w v u) (hs : u.length ≤ 4194304) :
    Calls Tryz.prog 57 #[v] w fun e w' => e = .returned (.int .i64 (lpV u)) ∧ Below w.heap.size w w' := by
  have HC := Lib.hid (spec_per v u w h hs)
  have HPL := Lib.hid (prV_len u)
  by_cases h0 : 0 < u.length
  · have hp := prV_pos h0
    have HF := Lib.hid (prV_first h0)
    obtain ⟨L, hL⟩ : ∃ L, L = prV u := ⟨_, rfl⟩
    obtain ⟨y, hy⟩ : ∃ y, y = lpV u := ⟨_, rfl⟩
    rw [← hL] at HC HPL hp HF
    rw [← hy] at HF ⊢
    have hlv : L.length ≤ 4194304 := by have := HPL.out; omega
    clear hL hy h
    have hd := decide_eq_false (show ¬ L.length = 0 by omega)
    go_enter Tryz.func57, Tryz.ntmps57
    go_wp2_with fail
    refine HC.out.mono ?_
    rintro e W1 ⟨vb, rfl, hv, b1⟩
    obtain ⟨ba, bc, rfl, _⟩ := hv.form
    obtain ⟨q, r, hba, hc⟩ := lies_cell hv.lies HF.out
    rw [Nat.add_zero] at hc
    subst hba
    have hd0 : ((L.length : Int) == 0) = false := by simp; exact fun e => by rw [e] at hp; simp at hp
    have HB := Lib.hid b1
    clear hv b1
    go_wp2
    go_ret
    exact ⟨rfl, HB.out⟩
  · have HN := Lib.hid (prV_nil (u := u) (by omega))
    have HV := Lib.hid (lpV_nil (u := u) (by omega))
    rw [HN.out] at HC
    rw [HV.out]
    clear h
    go_enter Tryz.func57, Tryz.ntmps57
    go_wp2_with fail
    refine HC.out.mono ?_
    rintro e W1 ⟨vb, rfl, hv, b1⟩
    obtain ⟨ba, bc, rfl, _⟩ := hv.form
    have HB := Lib.hid b1
    clear hv b1
    go_wp2
    go_ret
    exact ⟨rfl, HB.out⟩
theorem tmod_nat (n p : Nat) : (n : Int).tmod (p : Int) = ((n % p : Nat) : Int) := rfl
theorem LiesC.to {w : World} {a : Option Addr} {c : Nat} {xs : List Int} {h : Nat} {H : Int} (hl : LiesC w (.slice a xs.length c) xs) (h2 : h ≤ xs.length) (hH : H = h) :
    ∃ a' c', (∀ W : World, (Instr.slice 24 (.slice a xs.length c) none (some (.int .i64 H)) none).run Tryz.prog W = .ok (.slice a' h c') W) ∧ LiesC w (.slice a' h c') (xs.take h) := by
  have hcut := hl.cut (Nat.zero_le h) h2
  have hcap := hl.2 _ _ _ rfl
  rw [Nat.sub_zero, List.drop_zero] at hcut
  subst hH
  refine ⟨_, _, fun W => ?_, hcut⟩
  have := run_slice_h (P := Tryz.prog) (w := W) (t := 24) (a := a) (len := xs.length) (cap := c) (by rw [elem_tr]; exact Tryz.underlying24) .i64 (h : Int) (by omega) (by omega)
  rw [this, elem_tr]
  simp [go_sem, Result.andThen]
set_option maxHeartbeats 2000000 in
theorem spec_root (v : Value) (u : List Int) (w : World) (h : LiesC w v u) (hs : u.length ≤ 4194304) :
    Calls Tryz.prog 50 #[v] w (Gives (Value.int .i64) 3 (rtV u) w) := by
  obtain ⟨i0, hi, hz0, hz1, hz2⟩ := info_parts Ints.infoI
  obtain ⟨pa, pc, rfl, hcap⟩ := h.form
  have HC := Lib.hid (spec_lp _ u w h.lies hs)
  have HX := Lib.hid h
  clear h
  by_cases h0 : 0 < u.length
  · have hr := lpV_range h0
    have hyes := fun p => rtV_yes (u := u) (p := p) h0
    have hno := rtV_no h0
    obtain ⟨p, hp⟩ : ∃ p : Nat, lpV u = p := ⟨(lpV u).toNat, by omega⟩
    rw [hp] at HC hr hyes hno
    rw [tmod_nat] at hyes hno
    have hd0 : ((u.length : Int) == 0) = false := by simp; intro e; rw [e] at h0; simp at h0
    have hp0 : ((p : Int) == 0) = false := by simp; omega
    clear hp
    by_cases e2 : u.length % p = 0
    · have hR := hyes p (by rw [e2]; rfl) rfl
      have hm : (u.length : Int) % (p : Int) = 0 := by omega
      obtain ⟨a1, c1, hsl, hto⟩ := HX.out.to (h := p) (H := (p : Int)) (by omega) rfl
      have hpl : (u.take p).length = p := by rw [List.length_take]; omega
      rw [hR]
      clear hyes hno hR e2
      go_enter Tryz.func50, Tryz.ntmps50
      go_wp2_with fail
      refine HC.out.mono ?_
      rintro e W1 ⟨rfl, b1⟩
      have HB1 := Lib.hid b1
      have HT := Lib.hid (hto.lies.below b1)
      have HTL := Lib.hid hpl
      clear b1 HC hto hpl
      obtain ⟨T, hT⟩ : ∃ T, T = u.take p := ⟨_, rfl⟩
      rw [← hT] at HT HTL ⊢
      have hTl := HTL.out
      have HTE := Lib.hid hT
      clear hT
      have hTs : T.length ≤ 4194304 := by omega
      subst hTl
      go_wp2_with (at_builtin; refine append_lies (enc := (Value.int .i64)) (e := 3) _ rfl _ _ 24 rfl (W1).heap.size i0 (.int .i64 0) 8 Tryz.underlying24 hi hz0 hz1 hz2 rfl (.slice (some ⟨(W1).heap.size, 0, none⟩) 0 0) [] rfl (has_lit0 rfl (Nat.le_refl _)) (.slice a1 T.length c1) T rfl ((HT.out).below ((Below.refl _ _).alloc (Nat.le_refl _) _)) (fun _ => rfl) (by simp <;> omega) (by simp <;> omega) (by simp) ?_; intro vn wn hn hgn)
      rw [List.nil_append] at hn
      have HBn : Below (W1).heap.size W1 wn := (has_lit0 (enc := (Value.int .i64)) (e := 3) (w := W1) (base := (W1).heap.size) rfl (Nat.le_refl _)).frame ((Below.refl _ _).alloc (Nat.le_refl _) _) (Nat.le_refl _) hgn
      have HN := Lib.hid (hn.mono HB1.out.size)
      have HBw := Lib.hid (HB1.out.trans (HBn.mono HB1.out.size))
      clear hn hgn HBn
      go_ret
      exact ⟨_, rfl, by show Has _ _ _ _ _ (List.take _ u); rw [← HTE.out]; exact HN.out, HBw.out⟩
    · rw [hno (by omega)]
      have hm : ((u.length : Int) % (p : Int) != 0) = true := by simp; omega
      have hm2 : ((u.length : Int) % (p : Int) == 0) = false := by simp; omega
      clear hyes hno
      go_enter Tryz.func50, Tryz.ntmps50
      go_wp2_with fail
      refine HC.out.mono ?_
      rintro e W1 ⟨rfl, b1⟩
      have HB1 := Lib.hid b1
      have HT := Lib.hid (HX.out.lies.below b1)
      clear b1 HC
      go_wp2_with (at_builtin; refine append_lies (enc := (Value.int .i64)) (e := 3) _ rfl _ _ 24 rfl (W1).heap.size i0 (.int .i64 0) 8 Tryz.underlying24 hi hz0 hz1 hz2 rfl (.slice (some ⟨(W1).heap.size, 0, none⟩) 0 0) [] rfl (has_lit0 rfl (Nat.le_refl _)) (.slice pa u.length pc) u rfl ((HT.out).below ((Below.refl _ _).alloc (Nat.le_refl _) _)) (fun _ => rfl) (by simp <;> omega) (by simp <;> omega) (by simp) ?_; intro vn wn hn hgn)
      rw [List.nil_append] at hn
      have HBn : Below (W1).heap.size W1 wn := (has_lit0 (enc := (Value.int .i64)) (e := 3) (w := W1) (base := (W1).heap.size) rfl (Nat.le_refl _)).frame ((Below.refl _ _).alloc (Nat.le_refl _) _) (Nat.le_refl _) hgn
      have HN := Lib.hid (hn.mono HB1.out.size)
      have HBw := Lib.hid (HB1.out.trans (HBn.mono HB1.out.size))
      clear hn hgn HBn
      go_ret
      exact ⟨_, rfl, HN.out, HBw.out⟩
  · cases u with
    | cons x l => simp at h0
    | nil =>
      rw [lpV_nil rfl] at HC
      rw [rtV_nil rfl]
      clear h0 hs
      have HX0 : Hid (LiesC w (.slice pa 0 pc) []) := HX
      clear HX
      go_enter Tryz.func50, Tryz.ntmps50
      go_wp2_with fail
      refine HC.out.mono ?_
      rintro e W1 ⟨rfl, b1⟩
      have HB1 := Lib.hid b1
      have HT := Lib.hid (HX0.out.lies.below b1)
      clear b1 HC
      go_wp2_with (at_builtin; refine append_lies (enc := (Value.int .i64)) (e := 3) _ rfl _ _ 24 rfl (W1).heap.size i0 (.int .i64 0) 8 Tryz.underlying24 hi hz0 hz1 hz2 rfl (.slice (some ⟨(W1).heap.size, 0, none⟩) 0 0) [] rfl (has_lit0 rfl (Nat.le_refl _)) (.slice pa 0 pc) ([] : List Int) rfl ((HT.out).below ((Below.refl _ _).alloc (Nat.le_refl _) _)) (fun _ => rfl) (by simp <;> omega) (by simp <;> omega) (by simp) ?_; intro vn wn hn hgn)
      rw [List.nil_append] at hn
      have HBn : Below (W1).heap.size W1 wn := (has_lit0 (enc := (Value.int .i64)) (e := 3) (w := W1) (base := (W1).heap.size) rfl (Nat.le_refl _)).frame ((Below.refl _ _).alloc (Nat.le_refl _) _) (Nat.le_refl _) hgn
      have HN := Lib.hid (hn.mono HB1.out.size)
      have HBw := Lib.hid (HB1.out.trans (HBn.mono HB1.out.size))
      clear hn hgn HBn
      go_ret
      exact ⟨_, rfl, HN.out, HBw.out⟩
end Fac
end Go.Proofs.YtfpdikohlafpiaaGreat
/- Contracts of the model's draws for the law on Lyndon words, and of the comparison of two lists of words. No conditions beyond those that each states. -/
namespace Go.Proofs.YtfpdikohlafpiaaGreat
open Go.ChangeShapes Go.WideShapes Go.ChangeAt Go.RowKit
open Go.PlainAid Plain
set_option linter.unusedVariables false
namespace Cursor
open Seqs Ints Mor
set_option maxRecDepth 100000 in
set_option maxHeartbeats 2000000 in
theorem any11 (W w : World) (c : Nat) (a : Option Addr) (len cap : Nat) (hlen : len ≤ 1048576) (hcode : CodeIs W W.heap.size a len) (hs : Stands W w c a len cap) :
    Calls Tryz.prog 27 #[.pointer (some ⟨c, 0, none⟩)] w (SomeList (fun xs => xs.length ≤ 301) w (fun w' => w.grownBy w' (some c) ∧ CurIs w' c a len cap)) := by
  have HO := Lib.hid (fun (w : World) (hs : Stands W w c a len cap) => once W w c a len cap 3 (by decide) (by decide) hlen hcode hs)
  have HW := Lib.hid (fun (w : World) (hs : Stands W w c a len cap) => word7 W w c a len cap 3 (by decide) (by decide) hlen hcode hs)
  have HA := Lib.hid (fun (w : World) (hs : Stands W w c a len cap) => any8 W w c a len cap hlen hcode hs)
  have HS := Lib.hid hs
  clear hcode hs
  go_enter Tryz.func27, Tryz.ntmps27
  go_wp2_with fail
  refine (HO.out _ HS.out).mono ?_
  rintro e W1 ⟨t, rfl, hg1, hc1⟩
  have HS1 := Lib.hid (HS.out.next hg1 hc1)
  have HG1 := Lib.hid hg1
  have hz1 := hg1.size
  clear hg1 hc1
  cases t with
  | true =>
    go_wp2_with fail
    refine (HW.out _ HS1.out).mono ?_
    rintro e W2 ⟨v2, xs, hxl, rfl, ho, hg2, hc2⟩
    have HS2 := Lib.hid (HS1.out.next hg2 hc2)
    have HG2 := Lib.hid (grown_add HG1.out hg2)
    have hz2 := hg2.size
    have HL := Lib.hid (Lynd.spec_lc v2 xs W2 (Fac.LiesC.of_has ho) (by omega))
    obtain ⟨xa, xc, rfl, _⟩ := ho.form
    clear ho hg2 hc2
    go_wp2_with fail
    refine HL.out.mono ?_
    rintro e W3 ⟨v3, rfl, h3, b3⟩
    have HO3 := Lib.hid (h3.mono (show w.heap.size ≤ W2.heap.size by omega))
    have HG3 := Lib.hid (grown_bel HG2.out b3)
    have HS3 := Lib.hid (HS2.out.bel b3)
    clear h3 b3 HL
    go_wp2
    go_ret
    exact ⟨_, _, by show (lcV xs).length ≤ 301; rw [lcV_len]; omega, rfl, HO3.out, HG3.out, HS3.out.cur⟩
  | false =>
    go_wp2_with fail
    refine (HA.out _ HS1.out).mono ?_
    rintro e W2 ⟨v2, xs, hxl, rfl, ho, hg2, hc2⟩
    have HS2 := Lib.hid (HS1.out.next hg2 hc2)
    have HG2 := Lib.hid (grown_add HG1.out hg2)
    have HO2 := Lib.hid (ho.mono hz1)
    clear ho hg2 hc2
    go_wp2
    go_ret
    exact ⟨_, _, hxl, rfl, HO2.out, HG2.out, HS2.out.cur⟩
set_option maxRecDepth 100000 in
set_option maxHeartbeats 2000000 in
theorem drawLF (w : World) (a : Option Addr) (len cap : Nat) (hlen : len ≤ 1048576) (hcode : CodeIs w w.heap.size a len) :
    Calls Tryz.prog 5 #[.slice a len cap] w fun e w' => ∃ v xs, xs.length ≤ 301 ∧ e = .returned v ∧ OwnI w' w.heap.size w'.heap.size v xs ∧ Below w.heap.size w w' := by
  have HN := Lib.hid (new w w a len cap hlen hcode (Below.refl _ _))
  have HA := Lib.hid (fun (W : World) (c : Nat) (hs : Stands w W c a len cap) => any11 w W c a len cap hlen hcode hs)
  clear hcode
  go_enter Tryz.func5, Tryz.ntmps5
  go_wp2_with fail
  refine HN.out.mono ?_
  rintro e W1 ⟨c, rfl, hp, hg, hc⟩
  have HS1 := Lib.hid (new_st (Below.refl w.heap.size w) hp hg hc)
  have hz := hg.size
  clear hp hg hc
  go_wp2_with fail
  refine (HA.out _ c HS1.out).mono ?_
  rintro e W2 ⟨v, xs, hxl, rfl, ho, hg2, hc2⟩
  have HS2 := Lib.hid (HS1.out.next hg2 hc2)
  have HO2 := Lib.hid (ho.mono hz)
  clear ho hg2 hc2
  go_wp2
  go_ret
  exact ⟨_, _, hxl, rfl, own_of_has HO2.out, HS2.out.below⟩
set_option maxRecDepth 100000 in
set_option maxHeartbeats 2000000 in
theorem nums11 (w : World) (a : Option Addr) (len cap : Nat) (hlen : len ≤ 1048576) (hcode : CodeIs w w.heap.size a len) :
    Calls Tryz.prog 35 #[.slice a len cap] w fun e w' => ∃ x y : Int, e = .returned (.tuple #[.int .i64 x, .int .i64 y]) ∧ Below w.heap.size w w' := by
  have HN := Lib.hid (new w w a len cap hlen hcode (Below.refl _ _))
  have HB := Lib.hid (fun (W : World) (c : Nat) (n : Int) (hn0 : 1 ≤ n) (hn1 : n ≤ 9223372036854775807) (hs : Stands w W c a len cap) => below w W c a len cap n hn0 hn1 hlen hcode hs)
  clear hcode
  go_enter Tryz.func35, Tryz.ntmps35
  go_wp2_with fail
  refine HN.out.mono ?_
  rintro e W1 ⟨c, rfl, hp, hg, hc⟩
  have HS1 := Lib.hid (new_st (Below.refl w.heap.size w) hp hg hc)
  clear hp hg hc
  go_wp2_with fail
  refine (HB.out _ c 6 (by decide) (by decide) HS1.out).mono ?_
  rintro e W3 ⟨x, ⟨hx0, hx1⟩, rfl, hg3, hc3⟩
  have HS3 := Lib.hid (HS1.out.next hg3 hc3)
  clear hg3 hc3 hx0 hx1
  go_wp2_with fail
  refine (HB.out _ c 10 (by decide) (by decide) HS3.out).mono ?_
  rintro e W4 ⟨y, ⟨hy0, hy1⟩, rfl, hg4, hc4⟩
  have HS4 := Lib.hid (HS3.out.next hg4 hc4)
  clear hg4 hc4 hy0 hy1
  go_wp2
  go_ret2
  exact ⟨x, y, rfl, HS4.out.below⟩
set_option maxRecDepth 100000 in
set_option maxHeartbeats 2000000 in
theorem drawLW (w : World) (a : Option Addr) (len cap : Nat) (hlen : len ≤ 1048576) (hcode : CodeIs w w.heap.size a len) :
    Calls Tryz.prog 17 #[.slice a len cap] w fun e w' => ∃ x y : Int, e = .returned (.tuple #[.int .i64 x, .int .i64 y]) ∧ Below w.heap.size w w' := by
  have HN := Lib.hid (nums11 w a len cap hlen hcode)
  clear hcode
  go_enter Tryz.func17, Tryz.ntmps17
  go_wp2_with fail
  refine HN.out.mono ?_
  rintro e W1 ⟨x, y, rfl, hb⟩
  go_wp2
  go_ret2
  exact ⟨x, y, rfl, hb⟩
set_option maxRecDepth 100000 in
set_option maxHeartbeats 2000000 in
theorem drawSS (w : World) (a : Option Addr) (len cap : Nat) (hlen : len ≤ 1048576) (hcode : CodeIs w w.heap.size a len) :
    Calls Tryz.prog 24 #[.slice a len cap] w fun e w' => ∃ v xs, xs.length ≤ 301 ∧ e = .returned v ∧ OwnI w' w.heap.size w'.heap.size v xs ∧ Below w.heap.size w w' := by
  have HN := Lib.hid (new w w a len cap hlen hcode (Below.refl _ _))
  have HW := Lib.hid (fun (W : World) (c : Nat) (hs : Stands w W c a len cap) => word7 w W c a len cap 3 (by decide) (by decide) hlen hcode hs)
  clear hcode
  go_enter Tryz.func24, Tryz.ntmps24
  go_wp2_with fail
  refine HN.out.mono ?_
  rintro e W1 ⟨c, rfl, hp, hg, hc⟩
  have HS1 := Lib.hid (new_st (Below.refl w.heap.size w) hp hg hc)
  have hz := hg.size
  clear hp hg hc
  go_wp2_with fail
  refine (HW.out _ c HS1.out).mono ?_
  rintro e W2 ⟨v2, xs, hxl, rfl, ho, hg2, hc2⟩
  have HS2 := Lib.hid (HS1.out.next hg2 hc2)
  have hz2 := hg2.size
  have HL := Lib.hid (Lynd.spec_lc v2 xs W2 (Fac.LiesC.of_has ho) (by omega))
  obtain ⟨xa, xc, rfl, _⟩ := ho.form
  clear ho hg2 hc2
  go_wp2_with fail
  refine HL.out.mono ?_
  rintro e W3 ⟨v3, rfl, h3, b3⟩
  have hll : (lcV xs).length = xs.length := lcV_len
  obtain ⟨ys, hys⟩ : ∃ ys, ys = lcV xs := ⟨_, rfl⟩
  rw [← hys] at h3 hll
  have hyl : ys.length ≤ 301 := by omega
  have HB3 := Lib.hid (HS2.out.below.trans (b3.mono HS2.out.below.size))
  have HR := Lib.hid (Fac.spec_root v3 ys W3 (Fac.LiesC.of_has h3) (by omega))
  obtain ⟨ya, yc, rfl, _⟩ := h3.form
  clear h3 b3 HL hll hys
  go_wp2_with fail
  refine HR.out.mono ?_
  rintro e W4 ⟨v4, rfl, h4, b4⟩
  have HO4 := Lib.hid (h4.mono HB3.out.size)
  have HB4 := Lib.hid (HB3.out.trans (b4.mono HB3.out.size))
  clear h4 b4 HR
  go_wp2
  go_ret
  exact ⟨_, _, by have := rtV_len ys; omega, rfl, own_of_has HO4.out, HB4.out⟩
end Cursor
namespace Lynd
open Seqs
set_option maxRecDepth 100000 in
set_option maxHeartbeats 2000000 in
/-- Two lists of the same words. -/
theorem same_words (u v : Value) (rows : List (List Int)) (w : World) (h1 : LiesR w u rows) (h2 : LiesR w v rows) :
    Calls Tryz.prog 7 #[u, v] w fun e w' => e = .returned (.bool true) ∧ Below w.heap.size w w' := by
  obtain ⟨a, ca, rfl, hsm, hr1⟩ := h1.row
  obtain ⟨b, cb, rfl, _, hr2⟩ := h2.row
  have HR1 := Lib.hid hr1
  have HR2 := Lib.hid hr2
  clear h1 h2 hr1 hr2
  go_enter Tryz.func7, Tryz.ntmps7
  go_wp2
  go_loopw [5] (fun i' wr => ∃ k : Nat, k ≤ rows.length ∧ i' = .int .i64 k ∧ Hid (Below w.heap.size w wr)) (fun i' _ => rows.length - (intOf i').toNat)
  case atStart => exact ⟨0, Nat.zero_le _, rfl, Below.refl _ _⟩
  case round =>
    obtain ⟨k, hk, rfl, HB⟩ := hrel
    by_cases hlt : k < rows.length
    · obtain ⟨r, hr⟩ : ∃ r, rows[k]? = some r := ⟨_, List.getElem?_eq_getElem hlt⟩
      obtain ⟨p, o, x, rfl, c1, l1⟩ := HR1.out k r hr
      obtain ⟨q, s, y, rfl, c2, l2⟩ := HR2.out k r hr
      have hlI : (k : Int) < (rows.length : Int) := by omega
      have c1 := (HB.out.cell (World.block_lt_of_cell? _ _ c1)).trans c1
      have c2 := (HB.out.cell (World.block_lt_of_cell? _ _ c2)).trans c2
      have HS := Lib.hid (fun (W : World) (hb : Below wr.heap.size wr W) => Ints.same_yes x y r W ((l1.below HB.out).below hb) ((l2.below HB.out).below hb))
      obtain ⟨_, xa, xc, rfl, _, _⟩ := l1
      obtain ⟨_, ya, yc, rfl, _, _⟩ := l2
      clear hr
      go_wp2_with fail
      go_region_law (go_simp; go_at_call 11; (with_reducible refine (HS.out _ (below_drew' wr)).mono ?_); rintro e Wn ⟨rfl, fbn⟩; have HB5 := Lib.hid (HB.out.trans (((below_drew' wr).trans (fbn.mono (below_drew' wr).size)).mono HB.out.size)); clear fbn)
      all_goals
        go_wp2
        go_roundw
        case rel => exact ⟨k + 1, by omega, by go_num, HB5⟩
        case measure => simp [intOf]; omega
    · go_wp2
      go_ret
      exact ⟨rfl, HB.out⟩
end Lynd
end Go.Proofs.YtfpdikohlafpiaaGreat
/- Plain facts for the law on Lyndon words: what it asks of the factors, of the counts and of the split. No conditions beyond those that each fact states. -/
set_option linter.unusedVariables false
namespace Go.Proofs.YtfpdikohlafpiaaGreat.Plain
theorem fac_lyn {w x : List Int} {i : Nat} (h : (lynF w)[i]? = some x) : lyB x = true := lyB_iff.2 (lynF_lyn w x (List.mem_of_getElem? h))
theorem fac_down {w x y : List Int} {i : Nat} (h : (lynF w)[i]? = some x) (h' : (lynF w)[i + 1]? = some y) : ¬ cmpW x y < 0 := by
  have := lynF_down w i x y h h'
  rw [cmpW_neg y x]
  omega
theorem fac_one {w : List Int} (h : 0 < w.length) : decide ((lynF w).length = 1) = lyB w := by
  rw [Bool.eq_iff_iff, decide_eq_true_eq, lyB_iff]
  exact lynF_one h
theorem count_lyn {a n : Int} (h : lwK a n = true) : clN a n = ((lwV a n).length : Int) := by
  have e : lwV a n = lynW a.toNat n.toNat := by unfold lwV; rw [if_pos h]
  simp only [lwK, Bool.and_eq_true, decide_eq_true_eq] at h
  obtain ⟨⟨h1, h2, h3, h4⟩, h5⟩ := h
  unfold clN
  rw [if_pos (by omega), e]
  exact (cl_words (by omega) (by omega) h5).symm
theorem split_is (s : List Int) : spK s = (lyB s && decide (1 < s.length)) := by
  unfold spK
  rw [Bool.and_comm]
  congr 1
theorem split_lyn {s : List Int} (h : spK s = true) : lyB (spA s) = true ∧ lyB (spB s) = true ∧ cmpW (spA s) (spB s) < 0 := by
  have h' := h
  simp only [spK, Bool.and_eq_true, decide_eq_true_eq] at h'
  obtain ⟨h2, hl⟩ := h'
  obtain ⟨k0, k1, _, k2, k3⟩ := sp_spec h2
  have e1 : spA s = s.take (spN s) := by unfold spA; rw [if_pos h]
  have e2 : spB s = s.drop (spN s) := by unfold spB; rw [if_pos h]
  obtain ⟨q1, q2⟩ := lyn_split (lyB_iff.1 hl) k0 k1 k2 k3
  rw [e1, e2]
  exact ⟨lyB_iff.2 q1, lyB_iff.2 k2, q2⟩
theorem flat_next {L : List (List Int)} {i : Nat} {x : List Int} (h : L[i]? = some x) : (L.take (i + 1)).flatten = (L.take i).flatten ++ x := by
  obtain ⟨h1, rfl⟩ := List.getElem?_eq_some_iff.1 h
  rw [List.take_succ_eq_append_getElem h1, List.flatten_append]
  simp
theorem flat_le (L : List (List Int)) (i : Nat) : (L.take i).flatten.length ≤ L.flatten.length := by
  have := congrArg List.length (congrArg List.flatten (List.take_append_drop i L))
  rw [List.flatten_append, List.length_append] at this
  omega
end Go.Proofs.YtfpdikohlafpiaaGreat.Plain
/- Contracts of CountLyndon and CountNecklaces, of the model and of the program, with what they call. No conditions beyond those that each states. -/
namespace Go.Proofs.YtfpdikohlafpiaaGreat
open Go.ChangeShapes Go.WideShapes Go.ChangeAt Go.RowKit
open Go.PlainAid Plain
set_option linter.unusedVariables false
namespace Lynd
open Fac
theorem pow_nx (a i : Nat) : ((a ^ i : Nat) : Int) * (a : Int) = ((a ^ (i + 1) : Nat) : Int) := by rw [Nat.pow_succ]; exact (Int.natCast_mul _ _).symm
theorem spec_pw (a n : Nat) (w : World) (ha : a ≤ 4) (hn : n ≤ 20) :
    Calls Tryz.prog 42 #[.int .i64 a, .int .i64 n] w fun e w' => e = .returned (.int .i64 ((a ^ n : Nat) : Int)) ∧ w = w' := by
  go_enter Tryz.func42, Tryz.ntmps42
  go_wp2
  go_loop [5, 6] (fun x' i' => ∃ i : Nat, i ≤ n ∧ i' = .int .i64 i ∧ x' = .int .i64 ((a ^ i : Nat) : Int)) (fun _ i' => n - (intOf i').toNat)
  case atStart => exact ⟨0, Nat.zero_le _, rfl, rfl⟩
  case round =>
    obtain ⟨i, hi, rfl, rfl⟩ := hrel
    by_cases hlt : i < n
    · have hb := pow_top (i := i + 1) ha hn (by omega)
      have hb1 := pow_top (i := i) ha hn (by omega)
      have hnx := pow_nx a i
      obtain ⟨p, hp⟩ : ∃ p, p = a ^ i := ⟨_, rfl⟩
      obtain ⟨q, hq⟩ : ∃ q, q = a ^ (i + 1) := ⟨_, rfl⟩
      rw [← hp] at hb1
      rw [← hq] at hb
      rw [← hp, ← hq] at hnx
      have HQ := Lib.hid hq
      rw [← hp]
      clear hp hq
      have h0 : 0 ≤ (p : Int) * (a : Int) := by omega
      have h9 : (p : Int) * (a : Int) ≤ 1099511627776 := by omega
      have HN := Lib.hid hnx
      clear hnx
      go_wp2
      go_round
      case rel => exact ⟨i + 1, by omega, by go_num, by rw [HN.out, HQ.out]⟩
      case measure => simp [intOf]; omega
    · obtain rfl : i = n := by omega
      go_wp2
      go_ret
      exact ⟨rfl, rfl⟩
theorem impl_pw (a n : Nat) (w : World) (ha : a ≤ 4) (hn : n ≤ 20) :
    Calls Tryz.prog 37 #[.int .i64 a, .int .i64 n] w fun e w' => e = .returned (.int .i64 ((a ^ n : Nat) : Int)) ∧ w = w' := by
  go_enter Tryz.func37, Tryz.ntmps37
  go_wp2
  go_loop [5, 7] (fun x' i' => ∃ i : Nat, i ≤ n ∧ i' = .int .i64 i ∧ x' = .int .i64 ((a ^ i : Nat) : Int)) (fun _ i' => n - (intOf i').toNat)
  case atStart => exact ⟨0, Nat.zero_le _, rfl, rfl⟩
  case round =>
    obtain ⟨i, hi, rfl, rfl⟩ := hrel
    by_cases hlt : i < n
    · have hb := pow_top (i := i + 1) ha hn (by omega)
      have hb1 := pow_top (i := i) ha hn (by omega)
      have hnx := pow_nx a i
      obtain ⟨p, hp⟩ : ∃ p, p = a ^ i := ⟨_, rfl⟩
      obtain ⟨q, hq⟩ : ∃ q, q = a ^ (i + 1) := ⟨_, rfl⟩
      rw [← hp] at hb1
      rw [← hq] at hb
      rw [← hp, ← hq] at hnx
      have HQ := Lib.hid hq
      rw [← hp]
      clear hp hq
      have h0 : 0 ≤ (p : Int) * (a : Int) := by omega
      have h9 : (p : Int) * (a : Int) ≤ 1099511627776 := by omega
      have HN := Lib.hid hnx
      clear hnx
      go_wp2
      go_round
      case rel => exact ⟨i + 1, by omega, by go_num, by rw [HN.out, HQ.out]⟩
      case measure => simp [intOf]; omega
    · obtain rfl : i = n := by omega
      go_wp2
      go_ret
      exact ⟨rfl, rfl⟩
theorem mob_go {f p n : Nat} {m : Int} (h : p ≤ n) (hf : n + 1 ≤ p + f) : ∃ f', n + 1 ≤ (p + 1) + f' ∧ mobA f p n m = if n % p = 0 then (if n / p % p = 0 then 0 else mobA f' (p + 1) (n / p) (-m)) else mobA f' (p + 1) n m := by
  cases f with
  | zero => omega
  | succ f =>
    refine ⟨f, by omega, ?_⟩
    conv => lhs; unfold mobA
    rw [if_pos h]
set_option maxRecDepth 100000 in
set_option maxHeartbeats 2000000 in
theorem spec_mob (n : Nat) (w : World) (h0 : 0 < n) (hn : n ≤ 20) :
    Calls Tryz.prog 47 #[.int .i64 n] w fun e w' => e = .returned (.int .i64 (mob n)) ∧ w = w' := by
  go_enter Tryz.func47, Tryz.ntmps47
  go_wp2
  go_loop [0, 3, 4] (fun n' m' p' => ∃ (p q f : Nat) (m : Int), n' = .int .i64 q ∧ m' = .int .i64 m ∧ p' = .int .i64 p ∧ 2 ≤ p ∧ q ≤ 20 ∧ q + 1 ≤ p + f ∧ (m = 1 ∨ m = -1) ∧ Hid (mobA f p q m = mob n)) (fun n' _ p' => (intOf n' + 1 - intOf p').toNat)
  case atStart => exact ⟨2, n, n, 1, rfl, rfl, rfl, by omega, hn, by omega, .inl rfl, rfl⟩
  case round =>
    obtain ⟨p, q, f, m, rfl, rfl, rfl, hp, hq, hf, hm, HM⟩ := hrel
    by_cases hle : p ≤ q
    · obtain ⟨f', hf', hgo⟩ := mob_go (m := m) hle hf
      by_cases h0 : q % p = 0
      · rw [if_pos h0] at hgo
        obtain ⟨r, hr⟩ : ∃ r, r = q / p := ⟨_, rfl⟩
        have hrq : r ≤ q := by rw [hr]; exact Nat.div_le_self _ _
        have e1 : (q : Int) / (p : Int) = (r : Int) := by rw [hr]; rfl
        have e2 : (q : Int).tdiv (p : Int) = (r : Int) := by rw [hr]; rfl
        have e3 : (q : Int) % (p : Int) = 0 := by rw [← Int.natCast_emod, h0]; rfl
        have e4 : (q : Int).tmod (p : Int) = 0 := by show ((q % p : Nat) : Int) = 0; rw [h0]; rfl
        rw [← hr] at hgo
        by_cases h1 : r % p = 0
        · have e5 : (r : Int) % (p : Int) = 0 := by rw [← Int.natCast_emod, h1]; rfl
          have e6 : (r : Int).tmod (p : Int) = 0 := by show ((r % p : Nat) : Int) = 0; rw [h1]; rfl
          rw [if_pos h1] at hgo
          have HE : Hid (0 = mob n) := by have := HM.out; rw [hgo] at this; exact this
          clear hr h0 h1 hgo hf hf' HM
          go_wp2
          go_ret
          exact ⟨ret_i HE.out, rfl⟩
        · obtain ⟨t, ht⟩ : ∃ t, t = r % p := ⟨_, rfl⟩
          have e5 : (r : Int) % (p : Int) = (t : Int) := by rw [ht]; rfl
          have e6 : (r : Int).tmod (p : Int) = (t : Int) := by rw [ht]; rfl
          have e7 : ((t : Int) == 0) = false := by simp; omega
          rw [if_neg h1] at hgo
          have HE : Hid (mobA f' (p + 1) r (-m) = mob n) := by have := HM.out; rw [hgo] at this; exact this
          have hff : r + 1 ≤ p + 1 + f' := by omega
          have hmm : -m = 1 ∨ -m = -1 := by omega
          have hmn : -9223372036854775808 ≤ -m ∧ -m ≤ 9223372036854775807 := by omega
          clear hr h0 h1 hgo hf hf' HM ht hm
          go_wp2
          go_round
          case rel => exact ⟨p + 1, r, f', -m, rfl, rfl, by go_num, by omega, by omega, by omega, hmm, HE⟩
          case measure => simp [intOf]; omega
      · obtain ⟨t, ht⟩ : ∃ t, t = q % p := ⟨_, rfl⟩
        have e3 : (q : Int) % (p : Int) = (t : Int) := by rw [ht]; rfl
        have e4 : (q : Int).tmod (p : Int) = (t : Int) := by rw [ht]; rfl
        have e7 : ((t : Int) == 0) = false := by simp; omega
        have e8 : ((t : Int) != 0) = true := by simp; omega
        rw [if_neg h0] at hgo
        have HE : Hid (mobA f' (p + 1) q m = mob n) := by have := HM.out; rw [hgo] at this; exact this
        clear h0 hgo hf HM ht
        go_wp2
        go_round
        case rel => exact ⟨p + 1, q, f', m, rfl, rfl, by go_num, by omega, by omega, by omega, hm, HE⟩
        case measure => simp [intOf]; omega
    · have HE : Hid (m = mob n) := by have := HM.out; rw [mobA_end (by omega)] at this; exact this
      go_wp2
      go_ret
      exact ⟨ret_i HE.out, rfl⟩
set_option maxRecDepth 100000 in
set_option maxHeartbeats 2000000 in
theorem impl_mob (n : Nat) (w : World) (h0 : 0 < n) (hn : n ≤ 20) :
    Calls Tryz.prog 46 #[.int .i64 n] w fun e w' => e = .returned (.int .i64 (mob n)) ∧ w = w' := by
  go_enter Tryz.func46, Tryz.ntmps46
  go_wp2
  go_loop [0, 3, 4] (fun n' m' p' => ∃ (p q f : Nat) (m : Int), n' = .int .i64 q ∧ m' = .int .i64 m ∧ p' = .int .i64 p ∧ 2 ≤ p ∧ q ≤ 20 ∧ q + 1 ≤ p + f ∧ (m = 1 ∨ m = -1) ∧ Hid (mobA f p q m = mob n)) (fun n' _ p' => (intOf n' + 1 - intOf p').toNat)
  case atStart => exact ⟨2, n, n, 1, rfl, rfl, rfl, by omega, hn, by omega, .inl rfl, rfl⟩
  case round =>
    obtain ⟨p, q, f, m, rfl, rfl, rfl, hp, hq, hf, hm, HM⟩ := hrel
    by_cases hle : p ≤ q
    · obtain ⟨f', hf', hgo⟩ := mob_go (m := m) hle hf
      by_cases h0 : q % p = 0
      · rw [if_pos h0] at hgo
        obtain ⟨r, hr⟩ : ∃ r, r = q / p := ⟨_, rfl⟩
        have hrq : r ≤ q := by rw [hr]; exact Nat.div_le_self _ _
        have e1 : (q : Int) / (p : Int) = (r : Int) := by rw [hr]; rfl
        have e2 : (q : Int).tdiv (p : Int) = (r : Int) := by rw [hr]; rfl
        have e3 : (q : Int) % (p : Int) = 0 := by rw [← Int.natCast_emod, h0]; rfl
        have e4 : (q : Int).tmod (p : Int) = 0 := by show ((q % p : Nat) : Int) = 0; rw [h0]; rfl
        rw [← hr] at hgo
        by_cases h1 : r % p = 0
        · have e5 : (r : Int) % (p : Int) = 0 := by rw [← Int.natCast_emod, h1]; rfl
          have e6 : (r : Int).tmod (p : Int) = 0 := by show ((r % p : Nat) : Int) = 0; rw [h1]; rfl
          rw [if_pos h1] at hgo
          have HE : Hid (0 = mob n) := by have := HM.out; rw [hgo] at this; exact this
          clear hr h0 h1 hgo hf hf' HM
          go_wp2
          go_ret
          exact ⟨ret_i HE.out, rfl⟩
        · obtain ⟨t, ht⟩ : ∃ t, t = r % p := ⟨_, rfl⟩
          have e5 : (r : Int) % (p : Int) = (t : Int) := by rw [ht]; rfl
          have e6 : (r : Int).tmod (p : Int) = (t : Int) := by rw [ht]; rfl
          have e7 : ((t : Int) == 0) = false := by simp; omega
          rw [if_neg h1] at hgo
          have HE : Hid (mobA f' (p + 1) r (-m) = mob n) := by have := HM.out; rw [hgo] at this; exact this
          have hff : r + 1 ≤ p + 1 + f' := by omega
          have hmm : -m = 1 ∨ -m = -1 := by omega
          have hmn : -9223372036854775808 ≤ -m ∧ -m ≤ 9223372036854775807 := by omega
          clear hr h0 h1 hgo hf hf' HM ht hm
          go_wp2
          go_round
          case rel => exact ⟨p + 1, r, f', -m, rfl, rfl, by go_num, by omega, by omega, by omega, hmm, HE⟩
          case measure => simp [intOf]; omega
      · obtain ⟨t, ht⟩ : ∃ t, t = q % p := ⟨_, rfl⟩
        have e3 : (q : Int) % (p : Int) = (t : Int) := by rw [ht]; rfl
        have e4 : (q : Int).tmod (p : Int) = (t : Int) := by rw [ht]; rfl
        have e7 : ((t : Int) == 0) = false := by simp; omega
        have e8 : ((t : Int) != 0) = true := by simp; omega
        rw [if_neg h0] at hgo
        have HE : Hid (mobA f' (p + 1) q m = mob n) := by have := HM.out; rw [hgo] at this; exact this
        clear h0 hgo hf HM ht
        go_wp2
        go_round
        case rel => exact ⟨p + 1, q, f', m, rfl, rfl, by go_num, by omega, by omega, by omega, hm, HE⟩
        case measure => simp [intOf]; omega
    · have HE : Hid (m = mob n) := by have := HM.out; rw [mobA_end (by omega)] at this; exact this
      go_wp2
      go_ret
      exact ⟨ret_i HE.out, rfl⟩
theorem alpha (a : Int) (c : Bool) (w : World) (h : decide (1 ≤ a ∧ a ≤ 4) = c) :
    Calls Tryz.prog 36 #[.int .i64 a] w fun e w' => e = .returned (.bool c) ∧ w = w' := by
  cases c with
  | true =>
    rw [decide_eq_true_eq] at h
    go_enter Tryz.func36, Tryz.ntmps36
    go_wp2
    go_ret
    exact ⟨rfl, rfl⟩
  | false =>
    rw [decide_eq_false_iff_not] at h
    by_cases h1 : 1 ≤ a
    · have h4 : 4 < a := by omega
      have hd := decide_eq_false (show ¬ a ≤ 4 by omega)
      clear h
      go_enter Tryz.func36, Tryz.ntmps36
      go_wp2
      go_ret
      exact ⟨rfl, rfl⟩
    · clear h
      go_enter Tryz.func36, Tryz.ntmps36
      go_wp2
      go_ret
      exact ⟨rfl, rfl⟩
theorem has_cl (a n : Int) (c : Bool) (w : World) (h : decide (1 ≤ a ∧ a ≤ 4 ∧ 1 ≤ n ∧ n ≤ 20) = c) :
    Calls Tryz.prog 44 #[.int .i64 a, .int .i64 n] w fun e w' => e = .returned (.bool c) ∧ w = w' := by
  by_cases ha : 1 ≤ a ∧ a ≤ 4
  · have HA := Lib.hid (alpha a true w (decide_eq_true ha))
    by_cases h1 : 1 ≤ n
    · by_cases h2 : n ≤ 20
      · obtain rfl : c = true := by rw [← h]; exact decide_eq_true (by omega)
        clear h ha
        go_enter Tryz.func44, Tryz.ntmps44
        go_wp2_with (go_at_call 36; refine HA.out.mono ?_; rintro e w' ⟨rfl, rfl⟩)
        go_ret
        exact ⟨rfl, rfl⟩
      · obtain rfl : c = false := by rw [← h]; exact decide_eq_false (by omega)
        have hd := decide_eq_false (show ¬ n ≤ 20 by omega)
        clear h ha
        go_enter Tryz.func44, Tryz.ntmps44
        go_wp2_with (go_at_call 36; refine HA.out.mono ?_; rintro e w' ⟨rfl, rfl⟩)
        go_ret
        exact ⟨rfl, rfl⟩
    · obtain rfl : c = false := by rw [← h]; exact decide_eq_false (by omega)
      clear h ha
      go_enter Tryz.func44, Tryz.ntmps44
      go_wp2_with (go_at_call 36; refine HA.out.mono ?_; rintro e w' ⟨rfl, rfl⟩)
      go_ret
      exact ⟨rfl, rfl⟩
  · obtain rfl : c = false := by rw [← h]; exact decide_eq_false (by omega)
    have HA := Lib.hid (alpha a false w (decide_eq_false ha))
    clear h ha
    go_enter Tryz.func44, Tryz.ntmps44
    go_wp2_with (go_at_call 36; refine HA.out.mono ?_; rintro e w' ⟨rfl, rfl⟩)
    go_ret
    exact ⟨rfl, rfl⟩
/-- The divisors as the slice has them. -/
def dvI (n : Nat) : List Int := (dvs n).map fun d : Nat => (d : Int)
def dvJ (n k : Nat) : List Int := (dvT n k).map fun d : Nat => (d : Int)
theorem dvJ_yes {n k : Nat} (h : k < n) (h0 : n % (k + 1) = 0) : dvJ n (k + 1) = dvJ n k ++ [((k : Int) + 1)] := by unfold dvJ; rw [dvT_next h, if_pos h0, List.map_append]; rfl
theorem dvJ_no {n k : Nat} (h : k < n) (h0 : ¬ n % (k + 1) = 0) : dvJ n (k + 1) = dvJ n k := by unfold dvJ; rw [dvT_next h, if_neg h0, List.append_nil]
theorem dvJ_len (n k : Nat) : (dvJ n k).length ≤ n := by unfold dvJ; rw [List.length_map]; exact dvT_len n k
theorem dvI_len (n : Nat) : (dvI n).length ≤ n := by unfold dvI; rw [List.length_map]; exact dvs_len n
set_option maxRecDepth 100000 in
set_option maxHeartbeats 2000000 in
theorem divs (n : Nat) (w : World) (hn : n ≤ 20) :
    Calls Tryz.prog 45 #[.int .i64 n] w (Gives (Value.int .i64) 3 (dvI n) w) := by
  obtain ⟨i0, hi, hz0, hz1, hz2⟩ := info_parts Ints.infoI
  go_enter Tryz.func45, Tryz.ntmps45
  go_wp2
  go_loopw [3, 4] (fun o' d' wr => ∃ (k : Nat) (vo : Value), k ≤ n ∧ d' = .int .i64 ((k : Int) + 1) ∧ vo = o' ∧ Hid (Has (Value.int .i64) 3 wr w.heap.size vo (dvJ n k)) ∧ Hid (Below w.heap.size w wr)) (fun _ d' _ => n + 1 - (intOf d').toNat)
  case atStart => exact ⟨0, _, Nat.zero_le _, by go_num, rfl, World.ownsRow_nil _ _ _ _, Below.refl _ _⟩
  case round =>
    obtain ⟨k, vo, hk, rfl, rfl, HO, HB⟩ := hrel
    obtain ⟨oa, oc, hvo, _⟩ := HO.out.form
    subst hvo
    by_cases hlt : k < n
    · obtain ⟨t, ht⟩ : ∃ t, t = n % (k + 1) := ⟨_, rfl⟩
      have e3 : (n : Int) % ((k : Int) + 1) = (t : Int) := by rw [ht]; rfl
      have e4 : (n : Int).tmod ((k : Int) + 1) = (t : Int) := by rw [ht]; rfl
      have HLL := dvJ_len n k
      by_cases h0 : t = 0
      · have HJ := Lib.hid (dvJ_yes hlt (by rw [← ht]; exact h0))
        have e7 : ((t : Int) == 0) = true := by simp [h0]
        obtain ⟨L, hL⟩ : ∃ L, L = dvJ n k := ⟨_, rfl⟩
        rw [← hL] at HO HJ HLL ⊢
        clear ht h0 hL
        go_wp2_with (refine append_one (enc := (Value.int .i64)) (e := 3) wr rfl _ _ 24 rfl w.heap.size i0 (.int .i64 0) 8 Tryz.underlying24 hi hz0 hz1 hz2 rfl (.slice oa L.length oc) L rfl HO.out ((k : Int) + 1) rfl (fun _ => rfl) (by omega) (by omega) HB.out.size ?_; intro v' w1 ho hg; have HO2 := Lib.hid ho; have HB2 := Lib.hid (HO.out.frame HB.out (Nat.le_refl _) hg); clear hg ho)
        rw [← HJ.out] at HO2
        go_roundw
        case rel => exact ⟨k + 1, _, by omega, by go_num, rfl, HO2, HB2⟩
        case measure => simp [intOf]; omega
      · have HJ := Lib.hid (dvJ_no hlt (by rw [← ht]; exact h0))
        have e7 : ((t : Int) == 0) = false := by simp [h0]
        have HO2 : Hid (Has (Value.int .i64) 3 wr w.heap.size (.slice oa (dvJ n k).length oc) (dvJ n (k + 1))) := by show Has _ _ _ _ _ _; rw [HJ.out]; exact HO.out
        obtain ⟨L, hL⟩ : ∃ L, L = dvJ n k := ⟨_, rfl⟩
        rw [← hL] at HO2 ⊢
        clear ht h0 hL
        go_wp2
        go_roundw
        case rel => exact ⟨k + 1, _, by omega, by go_num, rfl, HO2, HB⟩
        case measure => simp [intOf]; omega
    · have HE : Hid (Has (Value.int .i64) 3 wr w.heap.size (.slice oa (dvJ n k).length oc) (dvI n)) := by
        have := HO.out
        have e : dvJ n k = dvI n := by unfold dvJ dvI; rw [dvT_all (by omega)]
        rw [← e]
        exact this
      go_wp2
      go_ret
      exact ⟨_, rfl, HE.out, HB.out⟩
end Lynd
end Go.Proofs.YtfpdikohlafpiaaGreat
