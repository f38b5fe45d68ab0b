/- Contract of the program's LyndonFactors. No conditions beyond those that it states. -/
import Derived.Test.YtcnejfihpaicdaaLynI
import Derived.Test.YtcnejfihpaicdaaDigits
import Derived.Test.YtcnejfihpaicdaaRowsV
import Derived.WalkMore
import Derived.ScopeJumps
namespace Go.Proofs.Ytcnejfihpaicdaa
open Go.ChangeShapes Go.WideShapes Go.ChangeAt Go.RowKit
open Go.PlainAid Plain
set_option linter.unusedVariables false
namespace Lynd
open Fac Seqs
/-- A scope with one label: one walk from the label on, for whatever must hold at the jump. -/
theorem wp_scope_pass {P : Program} {a : Act} {w : World} {Q : Exit → Act → World → Prop} {R X : Code} (l : Nat) (J : Act → World → Prop) (μ : Act → World → Nat) (hf : findLabel (R.seq ((Code.label l).seq X)) l = some (Code.skip.seq X))
    (pass : ∀ (T : Act → World → Prop) a w, J a w → (∀ a' w', J a' w' → μ a' w' < μ a w → T a' w') → X.wp P (Exit.jump l T Q) a w)
    (ahead : R.wp P (Exit.then J fun _ _ _ => False) a w) : (Code.scope (R.seq ((Code.label l).seq X))).wp P Q a w :=
  wp_scope_jumps l J μ hf (wp_seq (wp_mono ahead fun e a w h => by
    cases e <;> first | exact absurd h id | exact wp_seq (wp_label (pass J a w h fun a' w' h _ => h)))) fun a w hJ => wp_seq (wp_skip (pass _ a w hJ fun a' w' h1 h2 => ⟨h1, h2⟩))
/-- 'v = append(v, x)', v a slice of rows of the call's own, x a new one. -/
theorem wpList_append_ownR {P : Program} {wr : World} {lo hi : Nat} {rows : List (List Int)} {us : List Value} {ops : Array Oper} {rest : List Oper} {o : Oper} {a : Act} {Q : Exit → Act → World → Prop} (hgd : o.guard = none) (s x : Operand) (t : TypeId)
    (ho : o.op = .call { callee := .builtin .append, args := #[s, x], argTypes := #[t, t] })
    (i : TypeInfo) (ht : P.underlying t = some (.slice 22)) (hi' : P.info? 22 = some i) (hz : i.zero = some (.slice none 0 0))
    (hsize : i.size = 1) (hby : i.bytes = 24) (v : Value) (hs : a.eval s = v) (hown : OwnR wr lo hi v us rows) (u : Value) (r : List Int) (hu : OwnI wr hi wr.heap.size u r)
    (g : Nat) (hx : a.eval x = .slice (some ⟨g, 0, none⟩) 1 1) (hgs : g = wr.heap.size) (hlen : rows.length ≤ 10000000) (hlo : lo ≤ hi)
    (h : ∀ v' w', OwnR w' lo w'.heap.size v' (us ++ [u]) (rows ++ [r]) → wr.grownBy w' v.ownBlock → wpList P ops Q rest (a.put o.dst v') w') :
    wpList P ops Q (o :: rest) a (wr.alloc (.cells #[u] 22)) := by
  subst hgs
  have h2 := hown.rows.len
  have hu1 : u.oneCell' = true := by
    obtain ⟨a, c, h5⟩ := hu.form
    rw [h5]
    rfl
  refine wpList_append_list (enc := id) (e := 22) hgd s x t ho lo i (.slice none 0 0) 24 ht hi' hz hsize hby rfl v us hs (has_alloc hown.top _) (.slice (some ⟨wr.heap.size, 0, none⟩) 1 1) [u] hx (lies_lit1v u rfl) (fun y hy => by simp at hy; subst hy; exact hu1) (by simp; omega) (by simp; omega) (by have := hown.le; simp; omega) ?_
  intro v' w' hv' hg hbk
  have hg' : wr.grownBy w' v.ownBlock := grown_alloc hg
  have hr := (hown.rows.snoc hu hlo hown.le).top_grown hown.top hg'
  exact h v' w' ⟨hv', fun k hk => (hv'.lt k hk).2, Nat.le_refl _, hr.mono hg'.size (Nat.le_refl _)⟩ hg'
/-- What holds at the label. -/
def AtL (u : List Int) (w : World) (a : Act) (wr : World) : Prop := ∃ (i : Nat) (va : Option Addr) (vc : Nat) (vo : Value) (us : List Value) (rows : List (List Int)) (u4 u5 u6 u7 u8 u9 u10 u11 u12 u13 u14 u15 u16 u17 u18 u19 u20 u21 u22 u23 u24 u25 u26 u27 u28 : Value),
  a = { tmps := #[.slice va (u.drop i).length vc, undef, .slice none 0 0, vo, u4, u5, u6, u7, u8, u9, u10, u11, u12, u13, u14, u15, u16, u17, u18, u19, u20, u21, u22, u23, u24, u25, u26, u27, u28], defers := [] } ∧ Hid (LiesC w (.slice va (u.drop i).length vc) (u.drop i)) ∧ Hid (OwnR wr w.heap.size wr.heap.size vo us rows) ∧ Hid (rows ++ lynF (u.drop i) = lynF u) ∧ Hid (Below w.heap.size w wr)
def lenOf : Value → Nat | .slice _ n _ => n | _ => 0
theorem ownR_start (w : World) : OwnR w w.heap.size w.heap.size (.slice none 0 0) [] [] := ⟨World.ownsRow_nil _ _ _ _, (fun k hk => by cases hk), Nat.le_refl _, OwnRows.nil _ _ _⟩
theorem ownR_form {w : World} {lo hi : Nat} {v : Value} {us : List Value} {rows : List (List Int)} (h : OwnR w lo hi v us rows) : ∃ a c, v = .slice a rows.length c := by
  obtain ⟨a, c, e, _⟩ := h.top.form
  exact ⟨a, c, by rw [e, h.rows.len]⟩
set_option maxRecDepth 100000 in
set_option maxHeartbeats 4000000 in
theorem impl_lf (v : Value) (u : List Int) (w : World) (h : LiesC w v u) (hs : u.length ≤ 1048576) :
    Calls Try.prog 16 #[v] w (GivesR (lynF u) w) := by
  obtain ⟨j0, hj, hy0, hy1, hy2⟩ := info_parts infoR'
  obtain ⟨a, ca, rfl, hcap⟩ := h.form
  have HX := Lib.hid h
  clear h
  go_enter Try.func16, Try.ntmps16
  go_wp2
  refine wp_scope_pass 0 (AtL u w) (fun a' _ => lenOf (a'.tmps.getD 0 undef)) rfl ?_ ?_
  · clear HX
    rintro T a' wz ⟨i, va, vc, vo, us, rows, u4, u5, u6, u7, u8, u9, u10, u11, u12, u13, u14, u15, u16, u17, u18, u19, u20, u21, u22, u23, u24, u25, u26, u27, u28, rfl, HX, HO, HE, HB⟩ hT
    have HT := Lib.hid hT
    have hul : (u.drop i).length ≤ 1048576 := by rw [List.length_drop]; omega
    obtain ⟨U, hU⟩ : ∃ U, U = u.drop i := ⟨_, rfl⟩
    have HU := Lib.hid hU
    rw [← hU] at HX HE hul HT ⊢
    clear hU hT
    have HF := Lib.hid (first _ U wz (HX.out.lies.below HB.out) (by omega))
    go_wp2_with fail
    refine HF.out.mono ?_
    rintro e W1 ⟨p, t, rfl, hf, b1⟩
    have HFF := Lib.hid hf
    have HX1 := HX
    have HO1 : Hid (OwnR W1 w.heap.size W1.heap.size vo us rows) := ⟨HO.out.top.below b1, fun k hk => (HO.out.top.below b1).lt k hk |>.2, Nat.le_refl _, (HO.out.rows.below b1).mono b1.size (Nat.le_refl _)⟩
    have HB1 := Lib.hid (HB.out.trans (b1.mono HB.out.size))
    have htp : t * p ≤ 1048576 := by
      by_cases h0 : 0 < U.length
      · have := (hf.2 h0).2.2.2.1; omega
      · have := (hf.1 (by omega)).2; rw [this]; omega
    have htl : t ≤ 1048576 := by
      by_cases h0 : 0 < U.length
      · obtain ⟨-, h1, -, h2, -⟩ := hf.2 h0
        have : t * 1 ≤ t * p := Nat.mul_le_mul_left t h1
        omega
      · have := (hf.1 (by omega)).2; rw [this]; omega
    have hpl : p ≤ 1048576 := by
      by_cases h0 : 0 < U.length
      · obtain ⟨-, -, h1, h2, -⟩ := hf.2 h0
        have : 1 * p ≤ t * p := Nat.mul_le_mul_right p h1
        omega
      · have := (hf.1 (by omega)).1; omega
    clear hf b1 HF HX HO HB
    go_wp2
    go_loopw [0, 3, 12] (fun s' o' m' wq => ∃ (m : Nat) (sa : Option Addr) (sc : Nat) (vq : Value) (us : List Value) (rows : List (List Int)), m ≤ t ∧ m' = .int .i64 m ∧ s' = .slice sa (U.drop (m * p)).length sc ∧ vq = o' ∧ Hid (LiesC w (.slice sa (U.drop (m * p)).length sc) (U.drop (m * p))) ∧ Hid (OwnR wq w.heap.size wq.heap.size vq us rows) ∧ Hid (rows ++ lynF (U.drop (m * p)) = lynF u) ∧ Hid (Below w.heap.size w wq)) (fun _ _ m' _ => t - (intOf m').toNat)
    case atStart => exact ⟨0, va, vc, vo, us, rows, Nat.zero_le _, rfl, by rw [Nat.zero_mul, List.drop_zero], rfl, by rw [Nat.zero_mul, List.drop_zero]; exact HX1, HO1, by rw [Nat.zero_mul, List.drop_zero]; exact HE, HB1⟩
    case round =>
      clear HX1 HO1 HB1 HE
      obtain ⟨m, sa, sc, vq, us', rows', hm, rfl, rfl, rfl, HXr, HOr, HEr, HBr⟩ := hrel
      obtain ⟨va', vc', hvq⟩ := ownR_form HOr.out
      have HRL := Lib.hid (lynF_part (b := []) HEr.out)
      obtain ⟨V, hV⟩ : ∃ V, V = U.drop (m * p) := ⟨_, rfl⟩
      have HV := Lib.hid hV
      rw [← hV] at HXr HEr ⊢
      have hVl : V.length ≤ 1048576 := by rw [hV, List.length_drop]; omega
      by_cases hlt : m < t
      · have h0 : 0 < U.length := by
          rcases Nat.eq_zero_or_pos U.length with e | e
          · have := (HFF.out.1 e).2; omega
          · exact e
        obtain ⟨-, hp0, -, htpl, hstep⟩ := HFF.out.2 h0
        have hst := hstep m hlt
        have hmp : (m + 1) * p ≤ t * p := Nat.mul_le_mul_right p hlt
        have hmq : (m + 1) * p = m * p + p := Nat.succ_mul m p
        have hpV : p ≤ V.length := by rw [hV, List.length_drop]; omega
        have hdd : U.drop ((m + 1) * p) = V.drop p := by rw [hV, List.drop_drop, hmq]
        have HDD := Lib.hid hdd
        rw [← hV, hdd] at hst
        have HEn : Hid ((rows' ++ [V.take p]) ++ lynF (V.drop p) = lynF u) := by
          show _ = _
          rw [List.append_assoc, ← HEr.out, hst]
          rfl
        obtain ⟨a1, c1, hsl, hc1⟩ := cut_to HXr.out hpV (H := (p : Int)) rfl
        obtain ⟨a2, c2, hsl2, hc2⟩ := cut_from HXr.out hpV (L := (p : Int)) rfl
        have HC1 := Lib.hid hc1
        have HC2 := Lib.hid hc2
        have hlen1 : (V.take p).length = p := by rw [List.length_take]; omega
        have HCL := Lib.hid (Digits.clone_lies _ (V.take p) wr (HC1.out.lies.below HBr.out) (by omega))
        have hrl : rows'.length ≤ 10000000 := by have := HRL.out; omega
        subst hvq
        have HLN := Lib.hid hlen1
        clear hV hstep hst hdd hmp hmq hc1 hc2 h0 hlen1
        go_wp2_with fail
        refine HCL.out.mono ?_
        rintro e W5 ⟨v5, rfl, hv5, b5⟩
        obtain ⟨x5, y5, hx5, _⟩ := hv5.form
        rw [HLN.out] at hx5
        have HI5 := Lib.hid (own_of_has hv5)
        have HO5 : Hid (OwnR W5 w.heap.size wr.heap.size (.slice va' rows'.length vc') us' rows') := ⟨HOr.out.top.below b5, HOr.out.lt, b5.size, HOr.out.rows.below b5⟩
        have HI6 : Hid (OwnI W5 wr.heap.size W5.heap.size v5 (V.take p)) := ⟨hv5, fun k hk => (hv5.lt k hk).2, Nat.le_refl _⟩
        have HB5 := Lib.hid (HBr.out.trans (b5.mono HBr.out.size))
        have HL5 := Lib.hid HBr.out.size
        subst hx5
        clear hv5 b5 HCL HI5
        go_wp2_with (refine wpList_append_ownR rfl _ _ 26 rfl j0 Try.underlying26 hj hy0 hy1 hy2 (.slice va' rows'.length vc') rfl HO5.out _ (V.take p) HI6.out _ rfl rfl hrl HL5.out ?_; intro v6 w6 ho6 hg6; have HO6 := Lib.hid ho6; have HB6 := Lib.hid (HO5.out.top.frame HB5.out (Nat.le_refl _) hg6); clear ho6 hg6)
        go_roundw
        case rel => exact ⟨m + 1, a2, c2, _, _, _, by omega, by go_num, by rw [HDD.out, List.length_drop], rfl, by rw [HDD.out]; exact HC2.out, HO6, by rw [HDD.out]; exact HEn, HB6⟩
        case measure => simp [intOf]; omega
      · obtain rfl : m = t := by omega
        subst hvq
        by_cases hne : 0 < V.length
        · have h0 : 0 < U.length := by rw [hV, List.length_drop] at hne; omega
          obtain ⟨-, hp0, ht0, htpl, -⟩ := HFF.out.2 h0
          have hmul : 1 * 1 ≤ m * p := Nat.mul_le_mul ht0 hp0
          have hlt2 : V.length < U.length := by rw [hV, List.length_drop]; omega
          have HVU : Hid (V = u.drop (i + m * p)) := by show _ = _; rw [hV, HU.out, List.drop_drop]
          have hd := decide_eq_true (show (V.length : Int) > 0 by omega)
          have HLT := Lib.hid hlt2
          clear hV hmul hlt2 h0
          go_wp2
          go_step3
          refine ⟨rfl, HT.out _ _ ⟨i + m * p, sa, sc, _, us', rows', _, _, _, _, _, _, _, _, _, _, _, _, _, _, _, _, _, _, _, _, _, _, _, _, _, by rw [← HVU.out], by rw [← HVU.out]; exact HXr, HOr, by rw [← HVU.out]; exact HEr, HBr⟩ ?_⟩
          exact HLT.out
        · have hd := decide_eq_false (show ¬ (V.length : Int) > 0 by omega)
          have HE2 : Hid (rows' = lynF u) := by
            have := HEr.out
            rw [lynF_nil (by omega), List.append_nil] at this
            exact this
          clear hV
          go_wp2
          simp only [Exit.jump]
          go_ret
          exact ⟨_, us', rfl, by rw [← HE2.out]; exact HOr.out, HBr.out⟩
  · go_wp2
    exact ⟨0, a, ca, _, [], [], _, _, _, _, _, _, _, _, _, _, _, _, _, _, _, _, _, _, _, _, _, _, _, _, _, rfl, HX, ownR_start w, rfl, Below.refl _ _⟩
end Lynd
end Go.Proofs.Ytcnejfihpaicdaa
