/- Several texts of this proof, one behind the other: each says ahead of it what it shows and under which conditions. -/
import Derived.Test.YtdgfecjakmdheaaKM5
import Derived.Test.YtdgfecjakmdheaaKM1
import Derived.Deep.DeepCutAuto
import Derived.Test.YtdgfecjakmdheaaKM3
import Derived.WalkKit
import Derived.Lib.Hide
import Derived.Conc.LoneCalls
import Derived.Test.YtdgfecjakmdheaaKM2
import Derived.Maps.AppendAt
import Derived.Outline
import Derived.Lib.Bytes
import Derived.Test.YtdgfecjakmdheaaRows
import Derived.ProofKit
import Derived.OpenShut
import Derived.ShutString
import Derived.PlainAid
import Derived.BigQuiet
import Derived.Deep.QuietTactic
import Derived.Laws.Bits128
import Derived.WalkSmall
import Derived.OneCell
import Derived.WalkLawsBesides
/- Contract of the model's KernelOf. No conditions beyond those that it states. -/
namespace Go.Proofs.Ytdgfecjakmdheaa
open Go.ChangeShapes Go.WideShapes Go.ChangeAt Go.RowKit
open Go.PlainAid Plain
set_option linter.unusedVariables false
namespace Kern
open Seqs Mins
theorem OwnQ.frame {w0 w w' : World} {base : Nat} {v : Value} {L : List QV} (h : OwnQ w base v L) (hb : Below w0.heap.size w0 w) (hB : w0.heap.size ≤ base) (hg : w.grownBy w' v.ownBlock) : Below w0.heap.size w0 w' := hb.grown hg hb.size (fun k hk => Nat.le_trans hB (h.lt k hk).1)
theorem OwnQ.keepsIR {w w' : World} {base : Nat} {v : Value} {L : List QV} (h : OwnQ w base v L) (hg : w.grownBy w' v.ownBlock) : KeepsIR w w' :=
  ⟨hg.size, fun k cur e fr hk he => hg.block k (Array.getElem?_eq_some_iff.1 hk).1 (fun e1 => by
    have hf : ∃ cur fr, w.heap[k]? = some (.cells cur e fr) := ⟨_, _, hk⟩
    rcases h.2 with ⟨rfl, _⟩ | ⟨g', cap, cur', rfl, _, hc, _⟩
    · cases e1
    · have e2 : k = g' := by simpa [Value.ownBlock] using e1
      subst e2
      rw [hc] at hk
      simp at hk
      rcases he with rfl | rfl <;> exact absurd hk.2.1 (by decide))⟩
theorem wpList_append_q' {P : Program} {wr : World} {base : Nat} {L : List QV} {ops : Array Oper} {rest : List Oper} {o : Oper} {a : Act} {Q : Exit → Act → World → Prop} {x0 : Int} {x1 x2 : Value} (hgd : o.guard = none) (s x : Operand) (t : TypeId)
    (ho : o.op = .call { callee := .builtin .append, args := #[s, x], argTypes := #[t, t] })
    (i : TypeInfo) (ht : P.underlying t = some (.slice 27)) (hi : P.info? 27 = some i) (hz : i.zero = some (.agg #[.int .i64 0, .slice none 0 0, .slice none 0 0]))
    (hsize : i.size = 3) (hby : i.bytes = 56) (v : Value) (hs : a.eval s = v) (hown : OwnQ wr base v L) (g : Nat) (hx : a.eval x = .slice (some ⟨g, 0, none⟩) 1 1) (hgs : g = wr.heap.size)
    (h1 : x1.oneCell' = true) (h2 : x2.oneCell' = true) (hlen : L.length ≤ 100000) (hb : base ≤ wr.heap.size)
    (h : ∀ v' w', OwnQ w' base v' (L ++ [(x0, x1, x2)]) → wr.grownBy w' v.ownBlock → wpList P ops Q rest (a.put o.dst v') w') :
    wpList P ops Q (o :: rest) a (wr.alloc (.cells #[.int .i64 x0, x1, x2] 27)) :=
  wpList_append_q (q := (x0, x1, x2)) (g := g) (hgd := hgd) (s := s) (x := x) (t := t) (ho := ho) (i := i) (ht := ht) (hi := hi) (hz := hz) (hsize := hsize) (hby := hby) (v := v) (hs := hs) (hown := hown) (hx := hx) (hgs := hgs) (h1 := h1) (h2 := h2) (hlen := hlen) (hb := hb) (h := h)
theorem Elems.nil (w : World) (lo : Nat) : Elems w lo [] := ⟨fun e he => (by cases he), fun e he => (by cases he), .nil⟩
/-- A slice of sequences of the call's own, and whether there is one. -/
def GivesKer (L : List Sq) (k : Bool) (w : World) (en : Ending) (w' : World) : Prop := ∃ vs E, en = .returned (.tuple #[vs, .bool k]) ∧ OwnQ w' w.heap.size vs (E.map El.q) ∧ Elems w' w.heap.size E ∧ E.map El.s = L ∧ Below w.heap.size w w'
theorem ker_sub_s (e : El) (bn : Nat) (W : World) (hl : LiesS W (encQ e.q) e.s.b e.s.r e.s.o) (hg : Good (bn : Int) e.s) (r : Nat) (hr : r < bn) :
    Calls Try.prog 19 #[encQ e.q, .int .i64 r] W (fun en W' => ∃ v, en = .returned (.tuple #[v, .bool true]) ∧ OwnS W' W.heap.size W'.heap.size v (sub e.s r).b (sub e.s r).r (sub e.s r).o ∧ Below W.heap.size W W') := by
  have h1 := spec_sub (encQ e.q) e.s.b e.s.r e.s.o W hl (r : Int) hg.size
  rw [(hg.sub (by omega) (by omega)).2] at h1
  exact h1
theorem ker_yes {b : Int} {rows : List (List Int)} {out : List Int} {bn n : Nat} (hb : b = (bn : Int)) (hb0 : 0 < bn) (hk : formK b rows out = true) (h : n = bn * (kF (mini b rows out) bn n).length) (h40 : (kF (mini b rows out) bn n).length ≤ 40) : kerV b rows out = kF (mini b rows out) bn n ∧ kerK b rows out = true := by
  have h1 := ker_done (m := mini b rows out) hb0 h h40
  have h2 : kerK b rows out = true := by rw [kerK, hk, hb, Int.toNat_natCast, ← hb, h1, Bool.true_and]; exact decide_eq_true h40
  exact ⟨by rw [kerV, if_pos h2, hb, Int.toNat_natCast, ← hb, h1], h2⟩
theorem ker_no {b : Int} {rows : List (List Int)} {out : List Int} {bn n : Nat} (hb : b = (bn : Int)) (h : 40 < (kF (mini b rows out) bn n).length) (hn : n ≤ 41 * bn) : kerV b rows out = [] ∧ kerK b rows out = false := by
  have h1 : 40 < (kerL (mini b rows out) bn).length := Nat.lt_of_lt_of_le h (kF_len hn)
  have h2 : kerK b rows out = false := by
    rw [kerK, hb, Int.toNat_natCast, ← hb, Bool.and_eq_false_iff]
    exact .inr (decide_eq_false (by omega))
  exact ⟨by rw [kerV, h2]; simp, h2⟩
theorem any_succ {α : Type} {p : α → Bool} {F : List α} {k : Nat} {f : α} (h : F[k]? = some f) : (F.take (k + 1)).any p = ((F.take k).any p || p f) := by
  obtain ⟨h1, rfl⟩ := List.getElem?_eq_some_iff.1 h
  rw [List.take_succ_eq_append_getElem h1, List.any_append]
  simp
theorem kF_next {m : Sq} {bn i r : Nat} {f : Sq} (hr : r < bn) (hf : (kF m bn (bn * i + r))[i]? = some f) : kF m bn (bn * i + (r + 1)) = addQ (kF m bn (bn * i + r)) (sub f (r : Int)) := by
  have e1 : (bn * i + r) / bn = i := by rw [Nat.mul_add_div (by omega), Nat.div_eq_of_lt hr, Nat.add_zero]
  have e2 : (bn * i + r) % bn = r := by rw [Nat.mul_add_mod, Nat.mod_eq_of_lt hr]
  rw [← Nat.add_assoc, kF_step (by rw [e1]; exact hf), e2]
set_option maxRecDepth 100000 in
set_option maxHeartbeats 2000000 in
theorem spec_ker_no (v : Value) (b : Int) (rows : List (List Int)) (out : List Int) (w : World) (h : LiesS w v b rows out) (hs : rows.length + tot rows + out.length ≤ 1048576) (hk : formK b rows out = false) :
    Calls Try.prog 7 #[v] w (GivesKer [] false w) := by
  have HS := Lib.hid h
  obtain ⟨an, cn, ao, co, rfl⟩ := h.form
  clear h
  have HB : Hid (Below w.heap.size w (w.alloc (Obj.cells #[Value.int .i64 b, Value.slice an rows.length cn, Value.slice ao out.length co] 27))) := (Below.refl _ _).alloc (Nat.le_refl _) _
  have HC := Lib.hid (Cells3.new w 27 (.int .i64 b) (.slice an rows.length cn) (.slice ao out.length co))
  have HB0 : Hid (Below w.heap.size w ((w.alloc (Obj.cells #[Value.int .i64 b, Value.slice an rows.length cn, Value.slice ao out.length co] 27)).alloc (Obj.cells #[] 27))) := HB.out.alloc (by simp only [size_alloc'] <;> omega) _
  have HC0 := Lib.hid (HC.out.alloc (Obj.cells #[] 27))
  have hq := OwnQ.lit0 (base := w.heap.size + 1) (w.alloc (Obj.cells #[Value.int .i64 b, Value.slice an rows.length cn, Value.slice ao out.length co] 27)) (by rw [size_alloc']; exact Nat.le_refl _)
  rw [size_alloc'] at hq
  have HQ0 := Lib.hid hq
  have HCF : Hid (Calls Try.prog 26 #[.agg #[.int .i64 b, .slice an rows.length cn, .slice ao out.length co]] ((w.alloc (Obj.cells #[Value.int .i64 b, Value.slice an rows.length cn, Value.slice ao out.length co] 27)).alloc (Obj.cells #[] 27)) (GivesK (formB b rows out) (minRV b rows out) (minOV b rows out) false ((w.alloc (Obj.cells #[Value.int .i64 b, Value.slice an rows.length cn, Value.slice ao out.length co] 27)).alloc (Obj.cells #[] 27)))) := by
    have h1 := spec_min _ b rows out _ (HS.out.below HB0.out) hs
    rw [hk] at h1
    exact h1
  have k0 := HC0.out.c0
  have k1 := HC0.out.c1
  have k2 := HC0.out.c2
  clear hq hs hk HB HC
  go_enter Try.func7, Try.ntmps7
  go_wp2_with fail
  refine HCF.out.mono ?_
  rintro e W1 ⟨v1, rfl, hv1, b1⟩
  obtain ⟨a1, c1, a2, c2, rfl⟩ := hv1.form
  have HQ1 := Lib.hid (HQ0.out.below b1)
  have HB1 := Lib.hid (HB0.out.trans (b1.mono HB0.out.size))
  clear hv1 b1 k0 k1 k2
  go_wp2
  refine bodyPost_ret (v := .tuple #[(Value.slice (some ⟨w.heap.size + 1, 0, none⟩) 0 0), .bool false]) (by simp [results, Try.results7, go_sem]) rfl ?_
  have hbx : ∀ o, Below W1.heap.size W1 (W1.alloc o) := fun o => (Below.refl _ _).alloc (Nat.le_refl _) _
  exact ⟨_, [], rfl, (HQ1.out.below (hbx _)).mono (Nat.le_succ _), Elems.nil _ _, rfl, HB1.out.trans ((hbx _).mono HB1.out.size)⟩
set_option maxRecDepth 100000 in
set_option maxHeartbeats 4000000 in
theorem spec_ker_yes (v : Value) (b : Int) (rows : List (List Int)) (out : List Int) (w : World) (h : LiesS w v b rows out) (hs : rows.length + tot rows + out.length ≤ 1048576) (hk : formK b rows out = true) :
    Calls Try.prog 7 #[v] w (GivesKer (kerV b rows out) (kerK b rows out) w) := by
  obtain ⟨i0, hi, hz0, hz1, hz2⟩ := info_parts infoS
  have HS := Lib.hid h
  obtain ⟨an, cn, ao, co, rfl⟩ := h.form
  clear h
  have HB : Hid (Below w.heap.size w (w.alloc (Obj.cells #[Value.int .i64 b, Value.slice an rows.length cn, Value.slice ao out.length co] 27))) := (Below.refl _ _).alloc (Nat.le_refl _) _
  have HC := Lib.hid (Cells3.new w 27 (.int .i64 b) (.slice an rows.length cn) (.slice ao out.length co))
  have HB0 : Hid (Below w.heap.size w ((w.alloc (Obj.cells #[Value.int .i64 b, Value.slice an rows.length cn, Value.slice ao out.length co] 27)).alloc (Obj.cells #[] 27))) := HB.out.alloc (by simp only [size_alloc'] <;> omega) _
  have HC0 := Lib.hid (HC.out.alloc (Obj.cells #[] 27))
  have hq := OwnQ.lit0 (base := w.heap.size + 1) (w.alloc (Obj.cells #[Value.int .i64 b, Value.slice an rows.length cn, Value.slice ao out.length co] 27)) (by rw [size_alloc']; exact Nat.le_refl _)
  rw [size_alloc'] at hq
  have HQ0 := Lib.hid hq
  have hgd := mini_good hk
  have hsq := hgd.seq
  obtain ⟨bn, hbn⟩ : ∃ bn : Nat, b = (bn : Int) := ⟨b.toNat, by have := hsq.1; rw [hgd.base] at this; omega⟩
  have hb2 : 2 ≤ bn := by have := hsq.1; rw [hgd.base] at this; omega
  have hb4 : bn ≤ 4 := by have := hsq.2.1; rw [hgd.base] at this; omega
  have HYES := Lib.hid (fun n => ker_yes (n := n) hbn (by omega) hk)
  have HNO := Lib.hid (fun n => ker_no (rows := rows) (out := out) (n := n) hbn)
  have HCF : Hid (Calls Try.prog 26 #[.agg #[.int .i64 b, .slice an rows.length cn, .slice ao out.length co]] ((w.alloc (Obj.cells #[Value.int .i64 b, Value.slice an rows.length cn, Value.slice ao out.length co] 27)).alloc (Obj.cells #[] 27)) (GivesK (mini b rows out).b (mini b rows out).r (mini b rows out).o true ((w.alloc (Obj.cells #[Value.int .i64 b, Value.slice an rows.length cn, Value.slice ao out.length co] 27)).alloc (Obj.cells #[] 27)))) := by
    have h1 := spec_min _ b rows out _ (HS.out.below HB0.out) hs
    rw [hk] at h1
    exact h1
  have HG := Lib.hid hgd
  obtain ⟨m, hm⟩ : ∃ m, m = mini b rows out := ⟨_, rfl⟩
  obtain ⟨KV, hKV⟩ : ∃ x, x = kerK b rows out := ⟨_, rfl⟩
  obtain ⟨LV, hLV⟩ : ∃ x, x = kerV b rows out := ⟨_, rfl⟩
  rw [← hm] at HG HCF HYES HNO
  rw [← hKV, ← hLV] at HYES HNO ⊢
  have k0 := HC0.out.c0
  have k1 := HC0.out.c1
  have k2 := HC0.out.c2
  clear hq hs hk HB HC hgd hsq hm hKV hLV
  subst hbn
  go_enter Try.func7, Try.ntmps7
  go_wp2_with fail
  refine HCF.out.mono ?_
  rintro e W1 ⟨v1, rfl, hv1, b1⟩
  obtain ⟨a1, c1, a2, c2, rfl⟩ := hv1.form
  have hbx : Below W1.heap.size W1 (W1.alloc (.cells #[.int .i64 m.b, .slice a1 m.r.length c1, .slice a2 m.o.length c2] 27)) := (Below.refl _ _).alloc (Nat.le_refl _) _
  have HB1 := Lib.hid (HB0.out.trans (b1.mono HB0.out.size))
  have HB2 := Lib.hid (HB1.out.trans (hbx.mono HB1.out.size))
  have HC2 := Lib.hid ((HC0.out.below b1).below hbx)
  have HQ2 := Lib.hid ((HQ0.out.below b1).below hbx)
  have HE2 := Lib.hid (((Elems.nil ((w.alloc (Obj.cells #[Value.int .i64 (bn : Int), Value.slice an rows.length cn, Value.slice ao out.length co] 27)).alloc (Obj.cells #[] 27)) w.heap.size).push (v := (m.b, .slice a1 m.r.length c1, .slice a2 m.o.length c2)) (s := m) HB0.out.size b1 hv1).below hbx)
  have HX2 := Cells3.new W1 27 (.int .i64 m.b) (.slice a1 m.r.length c1) (.slice a2 m.o.length c2)
  have j0 := HX2.c0
  have j1 := HX2.c1
  have j2 := HX2.c2
  clear hv1 b1 k0 k1 k2 hbx HQ0 HC0 HCF HB1 HX2
  go_wp2_with (at_builtin; refine wpList_append_q' rfl _ _ 29 rfl i0 Try.underlying29 hi hz0 hz1 hz2 (Value.slice (some ⟨w.heap.size + 1, 0, none⟩) 0 0) rfl HQ2.out _ rfl (by first | rfl | simp) rfl rfl (by simp) HC2.out.lt ?_; intro v2 w2 ho2 hg2)
  have HO : Hid (OwnQ w2 (w.heap.size + 1) v2 (([] ++ [El.mk (m.b, .slice a1 m.r.length c1, .slice a2 m.o.length c2) m ((w.alloc (Obj.cells #[Value.int .i64 (bn : Int), Value.slice an rows.length cn, Value.slice ao out.length co] 27)).alloc (Obj.cells #[] 27)).heap.size W1.heap.size]).map El.q)) := ho2
  have HEE := Lib.hid (HE2.out.keep (HQ2.out.keepsIR hg2))
  have HCC := Lib.hid (HC2.out.grown hg2 (fun e => by have := (HQ2.out.lt _ e).1; omega))
  have HBB := Lib.hid (HQ2.out.frame HB2.out (Nat.le_succ _) hg2)
  clear ho2 hg2 HQ2 HE2 HC2 HB2 HB0 j0 j1 j2
  go_loopw [4, 7] (fun o' i' wr => ∃ (i : Nat) (E : List El) (vo : Value), i ≤ E.length ∧ i ≤ 40 ∧ E.length ≤ 41 ∧ i' = .int .i64 i ∧ vo = o' ∧ Hid (OwnQ wr (w.heap.size + 1) vo (E.map El.q)) ∧ Hid (Elems wr w.heap.size E) ∧ Hid (E.map El.s = kF m bn (bn * i)) ∧ Hid (Below w.heap.size w wr) ∧ Hid (Cells3 wr w.heap.size 27 (.int .i64 (bn : Int)) (.slice an rows.length cn) (.slice ao out.length co))) (fun _ i' _ => 41 - (intOf i').toNat)
  case atStart => exact ⟨0, [] ++ [El.mk (m.b, .slice a1 m.r.length c1, .slice a2 m.o.length c2) m ((w.alloc (Obj.cells #[Value.int .i64 (bn : Int), Value.slice an rows.length cn, Value.slice ao out.length co] 27)).alloc (Obj.cells #[] 27)).heap.size W1.heap.size], _, Nat.zero_le _, by omega, by simp, rfl, rfl, HO, HEE, rfl, HBB, HCC⟩
  case round =>
    clear HO HEE HBB HCC
    obtain ⟨i, E, vo, hiE0, hi40, hE41, rfl, rfl, HO, HEE, HK, HBB, HCC⟩ := hrel
    obtain ⟨va, vc, hvo, hag⟩ := HO.out.form
    rw [List.length_map] at hvo
    subst hvo
    by_cases hlt : i < E.length
    · have k0 := HCC.out.c0
      clear hag
      go_wp2
      clear k0
      go_loopw [4, 8] (fun o' r' wr => ∃ (r : Nat) (E : List El) (vo : Value), r ≤ bn ∧ i < E.length ∧ E.length ≤ 41 ∧ (r = 0 ∨ i ≤ 39) ∧ r' = .int .i64 r ∧ vo = o' ∧ Hid (OwnQ wr (w.heap.size + 1) vo (E.map El.q)) ∧ Hid (Elems wr w.heap.size E) ∧ Hid (E.map El.s = kF m bn (bn * i + r)) ∧ Hid (Below w.heap.size w wr) ∧ Hid (Cells3 wr w.heap.size 27 (.int .i64 (bn : Int)) (.slice an rows.length cn) (.slice ao out.length co))) (fun _ r' _ => bn - (intOf r').toNat)
      case atStart => exact ⟨0, E, _, Nat.zero_le _, hlt, hE41, .inl rfl, rfl, rfl, HO, HEE, HK, HBB, HCC⟩
      case round =>
        clear HO HEE HK HBB HCC hlt hE41 hiE0
        obtain ⟨r, E, vo, hrb, hiE, hE41, hr39, rfl, rfl, HO, HEE, HK, HBB, HCC⟩ := hrel
        obtain ⟨va, vc, hvo, hag⟩ := HO.out.form
        have hml : (E.map El.q).length = E.length := List.length_map ..
        rw [hml] at hvo hag
        subst hvo
        have k0 := HCC.out.c0
        by_cases hr : r < bn
        case pos =>
          obtain ⟨el, hel⟩ : ∃ e, E[i]? = some e := ⟨_, List.getElem?_eq_getElem hiE⟩
          obtain ⟨g, rfl, _⟩ := hag (by omega)
          have hq : (E.map El.q)[i]? = some el.q := by rw [List.getElem?_map, hel]; rfl
          have hS : (E.map El.s)[i]? = some el.s := by rw [List.getElem?_map, hel]; rfl
          have hO := HO.out
          rw [← hml] at hO
          obtain ⟨c0, c1, c2⟩ := hO.cells hq
          have hls := HEE.out.lies hel
          rw [HK.out] at hS
          have HKN := Lib.hid (kF_next hr hS)
          have HCS := Lib.hid (ker_sub_s el bn wr hls (kF_good (by omega) HG.out _ _ (List.mem_of_getElem? hS)) r hr)
          obtain ⟨an1, cn1, ao1, co1, hv⟩ := hls.form
          rw [hv] at HCS
          simp only [encQ, Value.agg.injEq, Array.mk.injEq, List.cons.injEq, and_true, Value.int.injEq, true_and] at hv
          obtain ⟨e1, e2, e3⟩ := hv
          rw [e1] at c0
          rw [e2] at c1
          rw [e3] at c2
          obtain ⟨y, hy⟩ : ∃ y, y = sub el.s r := ⟨_, rfl⟩
          obtain ⟨f, hf⟩ : ∃ f, f = el.s := ⟨_, rfl⟩
          rw [← hy] at HKN HCS
          rw [← hf] at HCS c0 c1 c2
          have hr0 : (0 : Int) ≤ (r : Int) := Int.natCast_nonneg _
          have hi0 : (0 : Int) ≤ (i : Int) := Int.natCast_nonneg _
          have hrb1 : (r : Int) < (bn : Int) := by omega
          have hiE1 : (i : Int) < (E.length : Int) := by omega
          clear hag hml hq hO hls hS e1 e2 e3 hel hf hy
          go_wp2_with fail
          refine HCS.out.mono ?_
          rintro e W2 ⟨v2, rfl, hv2, b2⟩
          obtain ⟨a3, c3, a4, c4, rfl⟩ := hv2.form
          have hbx : Below W2.heap.size W2 (W2.alloc (.cells #[.int .i64 y.b, .slice a3 y.r.length c3, .slice a4 y.o.length c4] 27)) := (Below.refl _ _).alloc (Nat.le_refl _) _
          have hbw : Below wr.heap.size wr (W2.alloc (.cells #[.int .i64 y.b, .slice a3 y.r.length c3, .slice a4 y.o.length c4] 27)) := b2.trans (hbx.mono b2.size)
          have HO3 := Lib.hid (HO.out.below hbw)
          have HE3 := Lib.hid (HEE.out.below hbw)
          have HN3 := Lib.hid ((HEE.out.push (v := (y.b, .slice a3 y.r.length c3, .slice a4 y.o.length c4)) (s := y) HBB.out.size b2 hv2).below hbx)
          have HB3 := Lib.hid (HBB.out.trans (hbw.mono HBB.out.size))
          have HC3 := Lib.hid (HCC.out.below hbw)
          have HY3 := Lib.hid (hv2.lies.below hbx)
          have HX3 := Lib.hid (Cells3.new W2 27 (.int .i64 y.b) (.slice a3 y.r.length c3) (.slice a4 y.o.length c4))
          clear hv2 b2 hbx hbw c0 c1 c2 k0 HCS HO HEE HBB HCC
          by_cases h40 : 40 < E.length
          · have hd := decide_eq_true (show (40 : Int) < (E.length : Int) by omega)
            obtain ⟨h1, h2⟩ := HNO.out (bn * i + r) (by rw [← HK.out, List.length_map]; exact h40) (by have : bn * i ≤ bn * 40 := Nat.mul_le_mul_left _ hi40; omega)
            subst h1; subst h2
            go_wp2
            have hq := OwnQ.lit0 (base := w.heap.size) (W2.alloc (.cells #[.int .i64 y.b, .slice a3 y.r.length c3, .slice a4 y.o.length c4] 27)) HB3.out.size
            rw [size_alloc'] at hq
            refine bodyPost_ret (v := .tuple #[(Value.slice (some ⟨W2.heap.size + 1, 0, none⟩) 0 0), .bool false]) (by simp [results, Try.results7, go_sem]) rfl ?_
            have hbx : Below (W2.alloc (.cells #[.int .i64 y.b, .slice a3 y.r.length c3, .slice a4 y.o.length c4] 27)).heap.size (W2.alloc (.cells #[.int .i64 y.b, .slice a3 y.r.length c3, .slice a4 y.o.length c4] 27)) ((W2.alloc (.cells #[.int .i64 y.b, .slice a3 y.r.length c3, .slice a4 y.o.length c4] 27)).alloc (Obj.cells #[] 27)) := (Below.refl _ _).alloc (Nat.le_refl _) _
            exact ⟨_, [], rfl, hq, Elems.nil _ _, rfl, HB3.out.trans (hbx.mono HB3.out.size)⟩
          · have hd := decide_eq_false (show ¬ (40 : Int) < (E.length : Int) by omega)
            have j0 := HX3.out.c0
            have j1 := HX3.out.c1
            have j2 := HX3.out.c2
            go_wp2
            clear j0 j1 j2
            obtain ⟨c', hc'⟩ : ∃ c', c' = wr.heap.size := ⟨_, rfl⟩
            obtain ⟨d', hd'⟩ : ∃ c', c' = W2.heap.size := ⟨_, rfl⟩
            obtain ⟨W3, hW3⟩ : ∃ W, W = W2.alloc (.cells #[.int .i64 y.b, .slice a3 y.r.length c3, .slice a4 y.o.length c4] 27) := ⟨_, rfl⟩
            rw [← hW3] at HO3 HE3 HN3 HB3 HC3 HY3 HX3 ⊢
            rw [← hc', ← hd'] at HN3
            rw [← hd'] at HX3 ⊢
            clear hW3 hc' hd'
            go_loopw [11, 12] (fun f' k' wr => ∃ k : Nat, k ≤ E.length ∧ k' = .int .i64 k ∧ f' = .bool (((E.map El.s).take k).any (·.same y)) ∧ Hid (Below W3.heap.size W3 wr)) (fun _ k' _ => E.length - (intOf k').toNat)
            case atStart => exact ⟨0, Nat.zero_le _, rfl, by simp, Below.refl _ _⟩
            case round =>
              obtain ⟨k, hkE, rfl, rfl, HBk⟩ := hrel
              obtain ⟨W4, rfl⟩ : ∃ W : World, W = wr := ⟨_, rfl⟩
              by_cases hk : k < E.length
              case pos =>
                obtain ⟨ek, hek⟩ : ∃ e, E[k]? = some e := ⟨_, List.getElem?_eq_getElem hk⟩
                have hml : (E.map El.q).length = E.length := List.length_map ..
                have hq : (E.map El.q)[k]? = some ek.q := by rw [List.getElem?_map, hek]; rfl
                have hS : (E.map El.s)[k]? = some ek.s := by rw [List.getElem?_map, hek]; rfl
                have hO := HO3.out.below HBk.out
                rw [← hml] at hO
                obtain ⟨c0, c1, c2⟩ := hO.cells hq
                have hls := (HE3.out.below HBk.out).lies hek
                have HAS := Lib.hid (any_succ (p := (·.same y)) hS)
                obtain ⟨an1, cn1, ao1, co1, hv⟩ := hls.form
                have hv2 := hv
                simp only [encQ, Value.agg.injEq, Array.mk.injEq, List.cons.injEq, and_true, Value.int.injEq, true_and] at hv2
                obtain ⟨e1, e2, e3⟩ := hv2
                rw [hv] at hls
                rw [e1] at c0
                rw [e2] at c1
                rw [e3] at c2
                have HEQ : Hid (∀ W, Below W4.heap.size W4 W → Calls Try.prog 14 #[.agg #[.int .i64 ek.s.b, .slice an1 ek.s.r.length cn1, .slice ao1 ek.s.o.length co1], .agg #[.int .i64 y.b, .slice a3 y.r.length c3, .slice a4 y.o.length c4]] W fun e w' => e = .returned (.bool (ek.s.same y)) ∧ Below W.heap.size W w') := fun W hW => spec_equal _ _ ek.s.b y.b ek.s.r y.r ek.s.o y.o W (hls.below hW) ((HY3.out.below HBk.out).below hW)
                have hX4 := HX3.out.below HBk.out
                have j0 := hX4.c0
                have j1 := hX4.c1
                have j2 := hX4.c2
                obtain ⟨f2, hf2⟩ : ∃ f, f = ek.s := ⟨_, rfl⟩
                rw [← hf2] at HEQ HAS c0 c1 c2
                obtain ⟨r2, hr2⟩ : ∃ r, r = f2.same y := ⟨_, rfl⟩
                rw [← hr2] at HEQ HAS
                obtain ⟨s2, hs2⟩ : ∃ r, r = ((E.map El.s).take k).any (·.same y) := ⟨_, rfl⟩
                rw [← hs2] at HAS ⊢
                have hk0 : (0 : Int) ≤ (k : Int) := Int.natCast_nonneg _
                have hkE1 : (k : Int) < (E.length : Int) := by omega
                have hD : Below W4.heap.size W4 W4.drew := below_drew' W4
                clear hX4 hek hml hq hS hO hls hv e1 e2 e3 hf2 hr2 hs2
                cases s2 with
                | true =>
                  go_wp2_with fail
                  go_quiet (fail)
                  go_wp2
                  go_roundw
                  case rel => exact ⟨k + 1, by omega, by go_num, by rw [HAS.out]; rfl, below_drewN HBk.out _⟩
                  case measure => simp [intOf]; omega
                | false =>
                  go_wp2_with fail
                  go_region_law (first | (go_simp; (with_reducible refine (HEQ.out _ hD).mono ?_); rintro e W8 ⟨rfl, b8⟩; have bA : Below W4.heap.size W4 W8 := hD.trans (b8.mono hD.size)))
                  all_goals
                    have HBA := Lib.hid (HBk.out.trans (bA.mono HBk.out.size))
                    clear c0 c1 c2 j0 j1 j2 bA b8
                    go_wp2
                    go_roundw
                    case rel => exact ⟨k + 1, by omega, by go_num, by rw [HAS.out]; rfl, HBA⟩
                    case measure => simp [intOf]; omega
              case neg =>
                obtain rfl : k = E.length := by omega
                have hO4 := Lib.hid (HO3.out.below HBk.out)
                have HE4 := Lib.hid (HE3.out.below HBk.out)
                have HN4 := Lib.hid (HN3.out.below HBk.out)
                have HB4 := Lib.hid (HB3.out.trans (HBk.out.mono HB3.out.size))
                have HC4 := Lib.hid (HC3.out.below HBk.out)
                have hX4 := HX3.out.below HBk.out
                have j0 := hX4.c0
                have j1 := hX4.c1
                have j2 := hX4.c2
                have hta : (E.map El.s).take E.length = E.map El.s := List.take_of_length_le (by rw [List.length_map]; exact Nat.le_refl _)
                rw [hta]
                rw [addQ, ← HK.out] at HKN
                obtain ⟨s2, hs2⟩ : ∃ r, r = (E.map El.s).any (·.same y) := ⟨_, rfl⟩
                rw [← hs2] at HKN ⊢
                have hi39 : i ≤ 39 := by omega
                clear hX4 hta hs2 HK HX3 HO3 HE3 HN3 HB3 HC3 HBk
                cases s2 with
                | true =>
                  rw [if_pos rfl] at HKN
                  go_wp2
                  go_roundw
                  case rel => exact ⟨r + 1, E, _, by omega, by omega, by omega, .inr hi39, by go_num, rfl, hO4, HE4, HKN.out.symm, HB4, HC4⟩
                  case measure => simp [intOf]; omega
                | false =>
                  rw [if_neg (by simp)] at HKN
                  go_wp2_with (at_builtin; refine wpList_append_q' rfl _ _ 29 rfl i0 Try.underlying29 hi hz0 hz1 hz2 (.slice (some ⟨g, 0, none⟩) E.length vc) rfl hO4.out _ rfl (by first | rfl | simp) rfl rfl (by rw [List.length_map]; omega) HC4.out.lt ?_; intro v5 w5 ho5 hg5)
                  have HO5 : Hid (OwnQ w5 (w.heap.size + 1) v5 ((E ++ [El.mk (y.b, .slice a3 y.r.length c3, .slice a4 y.o.length c4) y c' d']).map El.q)) := by rw [List.map_append]; exact ho5
                  have HE5 := Lib.hid (HN4.out.keep (hO4.out.keepsIR hg5))
                  have HC5 := Lib.hid (HC4.out.grown hg5 (fun e => by have := (hO4.out.lt _ e).1; omega))
                  have HB5 := Lib.hid (hO4.out.frame HB4.out (Nat.le_succ _) hg5)
                  clear ho5 hg5
                  go_wp2
                  go_roundw
                  case rel => exact ⟨r + 1, E ++ [El.mk (y.b, .slice a3 y.r.length c3, .slice a4 y.o.length c4) y c' d'], _, by omega, by simp; omega, by simp; omega, .inr hi39, by go_num, rfl, HO5, HE5, by rw [HKN.out, List.map_append]; rfl, HB5, HC5⟩
                  case measure => simp [intOf]; omega
        case neg =>
          obtain rfl : r = bn := by omega
          have hi39 : i ≤ 39 := by omega
          go_wp2
          go_roundw
          case rel => exact ⟨i + 1, E, _, by omega, by omega, hE41, by go_num, rfl, HO, HEE, by rw [Nat.mul_succ]; exact HK, HBB, HCC⟩
          case measure => simp [intOf]; omega
    · obtain rfl : i = E.length := by omega
      have hl : (kF m bn (bn * E.length)).length = E.length := by rw [← HK.out, List.length_map]
      obtain ⟨h1, h2⟩ := HYES.out (bn * E.length) (by rw [hl]) (by rw [hl]; exact hi40)
      rw [← HK.out] at h1
      subst h1; subst h2
      go_wp2
      refine bodyPost_ret (v := .tuple #[(Value.slice va E.length vc), .bool true]) (by simp [results, Try.results7, go_sem]) rfl ?_
      exact ⟨_, E, rfl, HO.out.mono (Nat.le_succ _), HEE.out, rfl, HBB.out⟩
theorem spec_ker (v : Value) (b : Int) (rows : List (List Int)) (out : List Int) (w : World) (h : LiesS w v b rows out) (hs : rows.length + tot rows + out.length ≤ 1048576) :
    Calls Try.prog 7 #[v] w (GivesKer (kerV b rows out) (kerK b rows out) w) := by
  cases hk : formK b rows out with
  | true => exact spec_ker_yes v b rows out w h hs hk
  | false =>
    have h2 : kerK b rows out = false := by rw [kerK, hk]; rfl
    have h1 : kerV b rows out = [] := by rw [kerV, h2]; simp
    rw [h1, h2]
    exact spec_ker_no v b rows out w h hs hk
end Kern
end Go.Proofs.Ytdgfecjakmdheaa
/- Contracts of the program's placeOf, its closure and the library's IndexFunc at it. No conditions beyond those that each states. -/
namespace Go.Proofs.Ytdgfecjakmdheaa
open Go.ChangeShapes Go.WideShapes Go.ChangeAt Go.RowKit
open Go.PlainAid Plain
set_option linter.unusedVariables false
namespace Kern
open Seqs Mins
theorem ret_k {a b : Int} (h : a = b) : Ending.returned (.int .i64 a) = Ending.returned (.int .i64 b) := by rw [h]
set_option maxHeartbeats 1000000 in
theorem place_cl (f y : Sq) (an ao bn bo : Option Addr) (cn co dn do_ B : Nat) (w : World) (hc : Cells3 w B 27 (.int .i64 y.b) (.slice bn y.r.length dn) (.slice bo y.o.length do_)) (h1 : LiesS w (.agg #[.int .i64 f.b, .slice an f.r.length cn, .slice ao f.o.length co]) f.b f.r f.o) (h2 : LiesS w (.agg #[.int .i64 y.b, .slice bn y.r.length dn, .slice bo y.o.length do_]) y.b y.r y.o) :
    Calls Try.prog 67 (#[.agg #[.int .i64 f.b, .slice an f.r.length cn, .slice ao f.o.length co]] ++ #[.pointer (some ⟨B, 0, none⟩)]) w fun e w' => e = .returned (.bool (f.same y)) ∧ Below w.heap.size w w' := by
  have hb : Below w.heap.size w (w.alloc (Obj.cells #[.int .i64 f.b, .slice an f.r.length cn, .slice ao f.o.length co] 27)) := (Below.refl _ _).alloc (Nat.le_refl _) _
  have HE := Lib.hid (impl_equal _ _ f.b y.b f.r y.r f.o y.o _ (h1.below hb) (h2.below hb))
  have HB := Lib.hid hb
  have HR : Hid (sameB f.b y.b f.r y.r f.o y.o = f.same y) := rfl
  have k := Cells3.new w 27 (.int .i64 f.b) (.slice an f.r.length cn) (.slice ao f.o.length co)
  have k0 := k.c0
  have k1 := k.c1
  have k2 := k.c2
  have m := hc.below hb
  have m0 := m.c0
  have m1 := m.c1
  have m2 := m.c2
  obtain ⟨r, hr⟩ : ∃ r, r = sameB f.b y.b f.r y.r f.o y.o := ⟨_, rfl⟩
  rw [← hr] at HE HR
  clear h1 h2 hc hb k m hr
  go_enter Try.func67, Try.ntmps67
  go_wp2_with fail
  refine HE.out.mono ?_
  rintro e w' ⟨rfl, hb⟩
  have HB2 := Lib.hid (HB.out.trans (hb.mono HB.out.size))
  clear hb k0 k1 k2 m0 m1 m2
  go_wp2
  go_ret
  exact ⟨by rw [HR.out]; rfl, HB2.out⟩
/-- Where it stands; -1 where it is new. -/
def ixQ (F : List Sq) (y : Sq) : Int := match F.findIdx? (·.same y) with | some i => (i : Int) | none => -1
theorem ixQ_hit {F : List Sq} {y f : Sq} {i : Nat} (hf : F[i]? = some f) (h : f.same y = true) (hb : ∀ (j : Nat) (g : Sq), j < i → F[j]? = some g → g.same y = false) : ixQ F y = (i : Int) := by
  obtain ⟨h1, rfl⟩ := List.getElem?_eq_some_iff.1 hf
  have : F.findIdx? (·.same y) = some i := List.findIdx?_eq_some_iff_getElem.2 ⟨h1, h, fun j hj => by have := hb j _ hj (List.getElem?_eq_getElem (by omega)); simp [this]⟩
  rw [ixQ, this]
theorem ixQ_none {F : List Sq} {y : Sq} (hb : ∀ (j : Nat) (g : Sq), F[j]? = some g → g.same y = false) : ixQ F y = -1 := by
  have : F.findIdx? (·.same y) = none := List.findIdx?_eq_none_iff.2 fun g hg => by
    obtain ⟨j, hj⟩ := List.getElem?_of_mem hg
    exact hb j g hj
  rw [ixQ, this]
theorem ixQ_at (F : List Sq) (y : Sq) : (ixQ F y < 0 ∧ (atQ F y : Int) = F.length) ∨ (¬ ixQ F y < 0 ∧ (atQ F y : Int) = ixQ F y) := by
  unfold ixQ atQ
  cases F.findIdx? (·.same y) with
  | none => exact .inl ⟨by simp, rfl⟩
  | some i => exact .inr ⟨by simp, rfl⟩
set_option maxHeartbeats 1000000 in
theorem place_ix (v : Value) (E : List El) (y : Sq) (bn bo : Option Addr) (dn do_ B lo base : Nat) (w : World) (h : OwnQ w base v (E.map El.q)) (hE : Elems w lo E) (hc : Cells3 w B 27 (.int .i64 y.b) (.slice bn y.r.length dn) (.slice bo y.o.length do_)) (h2 : LiesS w (.agg #[.int .i64 y.b, .slice bn y.r.length dn, .slice bo y.o.length do_]) y.b y.r y.o) :
    Calls Try.prog 66 #[v, .func (.func 67) #[] #[.pointer (some ⟨B, 0, none⟩)]] w fun e w' => e = .returned (.int .i64 (ixQ (E.map El.s) y)) ∧ Below w.heap.size w w' := by
  have eg : ∀ args w, (callFunc 67 args).run Try.prog w = .ok (.enter 67 args) w := enters_of Try.func67 (by kernel_rfl) rfl
  obtain ⟨a, c, rfl, hag⟩ := h.form
  have hml : (E.map El.q).length = E.length := List.length_map ..
  have HQ := Lib.hid h
  have HE := Lib.hid hE
  have HC := Lib.hid hc
  have HY := Lib.hid h2
  rw [hml] at HQ hag ⊢
  have hsm : E.length ≤ 9223372036854775807 := by have := h.small; omega
  clear h hE hc h2
  go_enter Try.func66, Try.ntmps66
  go_wp2
  go_loopw [8] (fun i' wr => ∃ i : Nat, i ≤ E.length ∧ i' = .int .i64 i ∧ Hid (∀ (j : Nat) (g : Sq), j < i → (E.map El.s)[j]? = some g → g.same y = false) ∧ Hid (Below w.heap.size w wr)) (fun i' _ => E.length - (intOf i').toNat)
  case atStart => exact ⟨0, Nat.zero_le _, rfl, (fun j g hj => by omega), Below.refl _ _⟩
  case round =>
    obtain ⟨i, hi', rfl, HI, HBr⟩ := hrel
    by_cases hlt : i < E.length
    · obtain ⟨el, hel⟩ : ∃ e, E[i]? = some e := ⟨_, List.getElem?_eq_getElem hlt⟩
      obtain ⟨g, rfl, _⟩ := hag (by omega)
      have hq : (E.map El.q)[i]? = some el.q := by rw [List.getElem?_map, hel]; rfl
      have HS : Hid ((E.map El.s)[i]? = some el.s) := by show _ = _; rw [List.getElem?_map, hel]; rfl
      have hO := HQ.out.below HBr.out
      rw [← hml] at hO
      obtain ⟨c0, c1, c2⟩ := hO.cells hq
      have hls := (HE.out.below HBr.out).lies hel
      obtain ⟨an, cn, ao, co, hv⟩ := hls.form
      have hv2 := hv
      simp only [encQ, Value.agg.injEq, Array.mk.injEq, List.cons.injEq, and_true, Value.int.injEq, true_and] at hv2
      obtain ⟨e1, e2, e3⟩ := hv2
      rw [hv] at hls
      rw [e1] at c0
      rw [e2] at c1
      rw [e3] at c2
      have HCL := Lib.hid (place_cl el.s y an ao bn bo cn co dn do_ B wr (HC.out.below HBr.out) hls (HY.out.below HBr.out))
      obtain ⟨f, hf⟩ : ∃ f, f = el.s := ⟨_, rfl⟩
      rw [← hf] at HCL HS c0 c1 c2
      obtain ⟨r, hr⟩ : ∃ r, r = f.same y := ⟨_, rfl⟩
      rw [← hr] at HCL
      have HR := Lib.hid hr
      have hi0 : (0 : Int) ≤ (i : Int) := Int.natCast_nonneg _
      clear hel hq hO hls hv e1 e2 e3 hf hr
      cases r with
      | true =>
        have HX := Lib.hid (ixQ_hit HS.out HR.out.symm HI.out)
        go_wp2_with (go_at_fn 67; refine HCL.out.mono ?_; rintro e w5 ⟨rfl, b5⟩)
        go_ret
        exact ⟨ret_k HX.out.symm, HBr.out.trans (b5.mono HBr.out.size)⟩
      | false =>
        have HN : Hid (∀ (j : Nat) (g : Sq), j < i + 1 → (E.map El.s)[j]? = some g → g.same y = false) := fun j g' hj hg => by
          by_cases e : j = i
          · subst e
            obtain rfl := Option.some.inj (HS.out.symm.trans hg)
            exact HR.out.symm
          · exact HI.out j g' (by omega) hg
        go_wp2_with (go_at_fn 67; refine HCL.out.mono ?_; rintro e w5 ⟨rfl, b5⟩)
        go_roundw
        case rel => exact ⟨i + 1, by omega, by go_num, HN, HBr.out.trans (b5.mono HBr.out.size)⟩
        case measure => simp [intOf]; omega
    · have HN := Lib.hid (ixQ_none (F := E.map El.s) (y := y) fun j g hj => HI.out j g (by have := (List.getElem?_eq_some_iff.1 hj).1; rw [List.length_map] at this; omega) hj)
      go_wp2
      go_ret
      exact ⟨ret_k HN.out.symm, HBr.out⟩
end Kern
end Go.Proofs.Ytdgfecjakmdheaa
/- Contract of the program's placeOf. No conditions beyond those that it states. -/
namespace Go.Proofs.Ytdgfecjakmdheaa
open Go.ChangeShapes Go.WideShapes Go.ChangeAt Go.RowKit
open Go.PlainAid Plain
set_option linter.unusedVariables false
namespace Kern
open Seqs Mins
theorem place (v vn : Value) (E : List El) (y : Sq) (bn bo : Option Addr) (dn do_ lo base : Nat) (w : World) (h : OwnQ w base v (E.map El.q)) (hE : Elems w lo E) (h2 : LiesS w (.agg #[.int .i64 y.b, .slice bn y.r.length dn, .slice bo y.o.length do_]) y.b y.r y.o) :
    Calls Try.prog 47 #[.agg #[v, vn], .agg #[.int .i64 y.b, .slice bn y.r.length dn, .slice bo y.o.length do_]] w fun e w' => e = .returned (.int .i64 (atQ (E.map El.s) y : Nat)) ∧ Below w.heap.size w w' := by
  obtain ⟨a, c, rfl, _⟩ := h.form
  have hml : (E.map El.q).length = E.length := List.length_map ..
  have hb0 : ∀ (W : World) o, Below W.heap.size W (W.alloc o) := fun W o => (Below.refl _ _).alloc (Nat.le_refl _) _
  have hb1 := (hb0 w (.cells #[.slice a (E.map El.q).length c, vn] 46)).trans ((hb0 (w.alloc (.cells #[.slice a (E.map El.q).length c, vn] 46)) (.cells #[.int .i64 y.b, .slice bn y.r.length dn, .slice bo y.o.length do_] 27)).mono (by simp))
  have k := (CellsN.new w 46 [.slice a (E.map El.q).length c, vn]).alloc (.cells #[.int .i64 y.b, .slice bn y.r.length dn, .slice bo y.o.length do_] 27)
  have m := Cells3.new (w.alloc (.cells #[.slice a (E.map El.q).length c, vn] 46)) 27 (.int .i64 y.b) (.slice bn y.r.length dn) (.slice bo y.o.length do_)
  have HIX := Lib.hid (place_ix _ E y bn bo dn do_ _ lo base _ (h.below hb1) (hE.below hb1) m (h2.below hb1))
  have HIA := Lib.hid (ixQ_at (E.map El.s) y)
  rw [size_alloc'] at HIX
  rw [hml] at HIX k hb1 ⊢
  rw [List.length_map] at HIA
  have HB := Lib.hid hb1
  have k0 := k.at_ (i := 0) rfl
  have k1 := k.at_ (i := 1) rfl
  obtain ⟨x, hx⟩ : ∃ x, x = ixQ (E.map El.s) y := ⟨_, rfl⟩
  obtain ⟨z, hz⟩ : ∃ x, x = atQ (E.map El.s) y := ⟨_, rfl⟩
  rw [← hx] at HIX HIA
  rw [← hz] at HIA ⊢
  have HK := Lib.hid k
  clear h hE h2 hb0 hb1 k m hx hz hml
  rcases HIA.out with ⟨h1, h2⟩ | ⟨h1, h2⟩
  · have hd := decide_eq_true h1
    go_enter Try.func47, Try.ntmps47
    go_wp2_with fail
    refine HIX.out.mono ?_
    rintro e w' ⟨rfl, hb⟩
    have q0 := (HK.out.below hb).at_ (i := 0) rfl
    have HB2 := Lib.hid (HB.out.trans (hb.mono HB.out.size))
    clear k0 k1 hb
    go_wp2
    go_ret
    exact ⟨ret_k h2.symm, HB2.out⟩
  · have hd := decide_eq_false h1
    go_enter Try.func47, Try.ntmps47
    go_wp2_with fail
    refine HIX.out.mono ?_
    rintro e w' ⟨rfl, hb⟩
    have q0 := (HK.out.below hb).at_ (i := 0) rfl
    have HB2 := Lib.hid (HB.out.trans (hb.mono HB.out.size))
    clear k0 k1 hb
    go_wp2
    go_ret
    exact ⟨ret_k h2.symm, HB2.out⟩
end Kern
end Go.Proofs.Ytdgfecjakmdheaa
/- Communication over a channel inside a walk, nobody else being there: a send into a buffer with room, a receive (with comma-ok) from a buffer that holds something or from a closed channel whose buffer is empty, a close; what a channel's block keeps. No conditions beyond those that each states. -/
namespace Go.Proofs.Ytdgfecjakmdheaa.Plain
open Go.Conc Go.RowKit
section
variable {P : Program} {ops : Array Oper} {Q : Exit → Act → World → Prop} {a : Act} {w : World}
/-- From the operations l of a region on the walk comes to an end of which Q holds. -/
def OpsTo (P : Program) (ops : Array Oper) (Q : Exit → Act → World → Prop) (l : List Nat) (a : Act) (w : World) : Prop :=
  ∀ (b : Frame) (k : List Item) (cs : List Frame), ∃ e a' w', Q e a' w' ∧ Arrives P (lone (b.at a (.inRegion ops l :: k)) cs w) b k cs e a' w'
theorem opsTo_end (h : Q .normal a w) : OpsTo P ops Q [] a w := fun _ _ _ => ⟨.normal, a, w, h, .one step_region_end⟩
theorem opsTo_region {id : Nat} (h : OpsTo P ops Q (List.range ops.size) a w) : (Code.region id ops false).wp P Q a w := fun b k cs =>
  let ⟨e, a', w', q, r⟩ := h b k cs
  ⟨e, a', w', q, .of_steps (.one step_region) r⟩
theorem opsTo_value {i : Nat} {rest : List Nat} {o : Oper} {v : Value} {w' : World} (ho : ops[i]? = some o) (hw : Region.wanted o (yielded ops a.tmps) = true) (hr : (execOp a.eval o).run P w = .ok (.value v) w')
    (h : OpsTo P ops Q rest (a.put o.dst v) w') : OpsTo P ops Q (i :: rest) a w := by
  intro b k cs
  obtain ⟨e, a', w₂, hq, harr⟩ := h b k cs
  refine ⟨e, a', w₂, hq, .of_steps (.one (step_lone_go ?_)) harr⟩
  have hf := Frame.finish_at b a ops i rest k v
  rw [ho] at hf
  rw [stepG_op ho hw]
  simp [stepG.apply, hr, hf]
theorem comm_step {i : Nat} {rest : List Nat} {o : Oper} {cases : Array CommCase} {blocking : Bool} {shape : CommShape} {w' : World} (ho : ops[i]? = some o) (hw : Region.wanted o (yielded ops a.tmps) = true)
    (hr : (execOp a.eval o).run P w = .ok (.comm cases blocking shape) w') (b : Frame) (k : List Item) (cs : List Frame) :
    ∃ es, stepG P true (G (b.at a (.inRegion ops (i :: rest) :: k)) cs) w = .comm (G (b.at a (.inRegion ops (i :: rest) :: k)) cs) cases blocking shape w' es := by
  have h : stepG P true (G (b.at a (.inRegion ops (i :: rest) :: k)) cs) w = stepG.apply P true (b.at a (.inRegion ops (i :: rest) :: k)) cs none (execOp a.eval o) w := stepG_op ho hw
  rw [h]
  simp only [stepG.apply, Sem.runT_eq, hr]
  split <;> exact ⟨_, rfl⟩
theorem opsTo_send {i : Nat} {rest : List Nat} {o : Oper} {c cap s r : Nat} {buf : Array Value} {v z' : Value} {tm : Bool} (ho : ops[i]? = some o) (hw : Region.wanted o (yielded ops a.tmps) = true)
    (hr : (execOp a.eval o).run P w = .ok (.comm #[scase c v z'] true .send) w) (hc : w.heap[c]? = some (.chan cap buf false s r tm)) (hroom : buf.size < cap)
    (h : OpsTo P ops Q rest (a.put o.dst undef) (w.setChan c cap (buf.push v) false (s + 1) r tm)) : OpsTo P ops Q (i :: rest) a w := by
  intro b k cs
  obtain ⟨e, a', w₂, hq, harr⟩ := h b k cs
  obtain ⟨es, hs⟩ := comm_step (P := P) ho hw hr b k cs
  have hst := step_lone_send_room hs hc hroom
  have hf := Frame.finish_at b a ops i rest k undef
  rw [ho] at hf
  rw [hf] at hst
  exact ⟨e, a', w₂, hq, .of_steps (.one hst) harr⟩
theorem opsTo_recv {i : Nat} {rest : List Nat} {o : Oper} {c cap s r : Nat} {buf : Array Value} {z : Value} {closed tm : Bool} (ho : ops[i]? = some o) (hw : Region.wanted o (yielded ops a.tmps) = true)
    (hr : (execOp a.eval o).run P w = .ok (.comm #[rcase c z] true (.recv true)) w) (hc : w.heap[c]? = some (.chan cap buf closed s r tm)) (hsome : 0 < buf.size)
    (h : OpsTo P ops Q rest (a.put o.dst (.tuple #[buf.getD 0 undef, .bool true])) (w.setChan c cap (buf.extract 1 buf.size) closed s (r + 1) tm)) : OpsTo P ops Q (i :: rest) a w := by
  intro b k cs
  obtain ⟨e, a', w₂, hq, harr⟩ := h b k cs
  obtain ⟨es, hs⟩ := comm_step (P := P) ho hw hr b k cs
  have hst := step_lone_recv_buf true hs hc hsome
  have hf := Frame.finish_at b a ops i rest k (got true (buf.getD 0 undef) true)
  rw [ho] at hf
  rw [hf] at hst
  exact ⟨e, a', w₂, hq, .of_steps (.one hst) harr⟩
theorem opsTo_shut {i : Nat} {rest : List Nat} {o : Oper} {c cap s r : Nat} {z : Value} {tm : Bool} (ho : ops[i]? = some o) (hw : Region.wanted o (yielded ops a.tmps) = true)
    (hr : (execOp a.eval o).run P w = .ok (.comm #[rcase c z] true (.recv true)) w) (hc : w.heap[c]? = some (.chan cap #[] true s r tm))
    (h : OpsTo P ops Q rest (a.put o.dst (.tuple #[z, .bool false])) w) : OpsTo P ops Q (i :: rest) a w := by
  intro b k cs
  obtain ⟨e, a', w₂, hq, harr⟩ := h b k cs
  obtain ⟨es, hs⟩ := comm_step (P := P) ho hw hr b k cs
  have hst := step_lone_recv_shut true hs hc
  have hf := Frame.finish_at b a ops i rest k (got true z false)
  rw [ho] at hf
  rw [hf] at hst
  exact ⟨e, a', w₂, hq, .of_steps (.one hst) harr⟩
end
end Go.Proofs.Ytdgfecjakmdheaa.Plain
/- What the search for a kernel of the program keeps: the kernel that it builds, its channel, what stays of them at each kind of write. No conditions beyond those that each states. -/
namespace Go.Proofs.Ytdgfecjakmdheaa
open Go.ChangeShapes Go.WideShapes Go.ChangeAt Go.RowKit
open Go.PlainAid Plain Go.Conc
set_option linter.unusedVariables false
namespace Kern
open Seqs Mins
/-- The row of the places of those that digits lead to. -/
def fAt (m : Sq) (b i : Nat) : Sq := (kF m b (b * i)).getD i m
def kRow (m : Sq) (b i r : Nat) : List Int := (List.range r).map fun j => ((atQ (kF m b (b * i + j)) (sub (fAt m b i) (j : Int)) : Nat) : Int)
def kRows (m : Sq) (b i : Nat) : List (List Int) := (List.range i).map fun i => kRow m b i b
theorem kRow_len (m : Sq) (b i r : Nat) : (kRow m b i r).length = r := by simp [kRow]
theorem kRow_succ (m : Sq) (b i r : Nat) : kRow m b i (r + 1) = kRow m b i r ++ [((atQ (kF m b (b * i + r)) (sub (fAt m b i) (r : Int)) : Nat) : Int)] := by simp [kRow, List.range_succ]
theorem kRows_succ (m : Sq) (b i : Nat) : kRows m b (i + 1) = kRows m b i ++ [kRow m b i b] := by simp [kRows, List.range_succ]
theorem kRows_len (m : Sq) (b i : Nat) : (kRows m b i).length = i := by simp [kRows]
theorem kRow_set (m : Sq) (b i r n : Nat) (h : r < n) (x : Int) (hx : ((atQ (kF m b (b * i + r)) (sub (fAt m b i) (r : Int)) : Nat) : Int) = x) : ((kRow m b i r ++ List.replicate (n - r) (0 : Int)).map (Value.int .i64)).set r (.int .i64 x) = (kRow m b i (r + 1) ++ List.replicate (n - (r + 1)) (0 : Int)).map (Value.int .i64) := by
  rw [← List.map_set, List.set_append_right _ _ (by rw [kRow_len]; omega), kRow_len, Nat.sub_self, show n - r = (n - (r + 1)) + 1 from by omega, List.replicate_succ, List.set_cons_zero, kRow_succ, hx, List.append_assoc]
  rfl
theorem grown_setChan (w : World) (c cap : Nat) (buf : Array Value) (cl : Bool) (s r : Nat) (tm : Bool) : w.grownBy (w.setChan c cap buf cl s r tm) (some c) :=
  ⟨rfl, rfl, rfl, by rw [size_setChan]; exact Nat.le_refl _, fun k _ hk => by
    have : c ≠ k := fun e => hk (by rw [e])
    simp only [World.setChan]
    rw [Array.getElem?_setIfInBounds_ne this]⟩
theorem grown_cell' (w : World) (g j : Nat) (v : Value) : w.grownBy (w.setCell ⟨g, j, none⟩ v) (some g) :=
  ⟨rfl, rfl, rfl, by rw [size_setCell']; exact Nat.le_refl _, fun k _ hk => by
    have : k ≠ g := fun e => hk (by rw [e])
    exact heap_setCell_other w ⟨g, j, none⟩ k v this⟩
theorem touch_of_grown {w w' : World} {g : Nat} (h : w.grownBy w' (some g)) : Plain.Touch g (g + 1) w w' := ⟨h.os, h.tape, h.output, h.size, fun k hk hn => h.block k hk (fun e => by have := Option.some.inj e; omega)⟩
theorem below_of_none {w w' : World} (h : w.grownBy w' none) : Below w.heap.size w w' := ⟨h.os, h.tape, h.output, h.size, fun k hk => h.block k hk (by simp)⟩
theorem Elems.grown {w w' : World} {lo : Nat} {E : List El} {r : Option Nat} (h : Elems w lo E) (hg : w.grownBy w' r) (ha : ∀ g, r = some g → Avoid E g) : Elems w' lo E := by
  cases r with
  | none => exact h.below (below_of_none hg)
  | some g => exact h.touch (touch_of_grown hg) (ha g rfl)
theorem HasRows.block {w : World} {lo hi : Nat} {v : Value} {rows : List (List Int)} (h : HasRows w lo hi v rows) : ∀ k, v.ownBlock = some k → (lo ≤ k ∧ k < w.heap.size) ∧ ∃ cur, w.heap[k]? = some (.cells cur 25 (0, 0)) := by
  obtain ⟨us, h1, _⟩ := h
  intro k hk
  refine ⟨h1.lt k hk, ?_⟩
  rcases h1.2 with ⟨rfl, _⟩ | ⟨g, cap, cur, rfl, _, hg, _⟩
  · cases hk
  · obtain rfl := Option.some.inj hk
    exact ⟨cur, hg⟩
theorem OwnQ.block {w : World} {base : Nat} {v : Value} {L : List QV} (h : OwnQ w base v L) : ∀ k, v.ownBlock = some k → ∃ cur, w.heap[k]? = some (.cells cur 27 (0, 0)) := by
  intro k hk
  rcases h.2 with ⟨rfl, _⟩ | ⟨g, cap, cur, rfl, _, hg, _⟩
  · cases hk
  · obtain rfl := Option.some.inj hk
    exact ⟨cur, hg⟩
theorem HasRows.write {w w' : World} {lo hi g : Nat} {v : Value} {rows : List (List Int)} (h : HasRows w lo hi v rows) (hg : w.grownBy w' (some g)) (hhi : hi ≤ g) (hn : v.ownBlock ≠ some g) : HasRows w' lo hi v rows := by
  obtain ⟨us, h1, h2, h3, h4⟩ := h
  exact ⟨us, h1.grown hg (.inr hn), ⟨h2.len, fun i u r hu hr => (h2.row i u r hu hr).grown hg (fun k hk => by have := Option.some.inj hk; omega), h2.apart⟩, h3, Nat.le_trans h4 hg.size⟩
/-- 'v = append(v, x)', x a row made behind all the others; where the new slice lies. -/
theorem wpList_append_row3 {P : Program} {wr : World} {lo hi : Nat} {rows : List (List Int)} {ops : Array Oper} {rest : List Oper} {o : Oper} {a : Act} {Q : Exit → Act → World → Prop} (hgd : o.guard = none) (s x : Operand) (t : TypeId)
    (ho : o.op = .call { callee := .builtin .append, args := #[s, x], argTypes := #[t, t] })
    (i : TypeInfo) (ht : P.underlying t = some (.slice 25)) (hi' : P.info? 25 = some i) (hz : i.zero = some (.slice none 0 0))
    (hsize : i.size = 1) (hby : i.bytes = 24) (v : Value) (hs : a.eval s = v) (hown : HasRows wr lo hi v rows) (u : Value) (r : List Int) (hu : Has (Value.int .i64) 3 wr hi u r)
    (g : Nat) (hx : a.eval x = .slice (some ⟨g, 0, none⟩) 1 1) (hgs : g = wr.heap.size) (hlen : rows.length ≤ 100000)
    (h : ∀ v' w', HasRows w' lo w'.heap.size v' (rows ++ [r]) → wr.grownBy w' v.ownBlock → (∀ k, v'.ownBlock = some k → v.ownBlock = some k ∨ wr.heap.size ≤ k) → wpList P ops Q rest (a.put o.dst v') w') :
    wpList P ops Q (o :: rest) a (wr.alloc (.cells #[u] 25)) := by
  subst hgs
  obtain ⟨us, h1, h2, h3, h4⟩ := hown
  have hu1 : u.oneCell' = true := by
    obtain ⟨a, c, h5, _⟩ := hu.form
    rw [h5]
    rfl
  have hul := h2.len
  refine wpList_append_list (enc := id) (e := 25) hgd s x t ho lo i (.slice none 0 0) 24 ht hi' hz hsize hby rfl v us hs (has_alloc h1 _) (.slice (some ⟨wr.heap.size, 0, none⟩) 1 1) [u] hx (lies_lit1v u rfl) (fun y hy => by simp at hy; subst hy; exact hu1) (by simp; omega) (by simp; omega) (by simp; omega) ?_
  intro v' w' hv' hg hb
  have hg' : wr.grownBy w' v.ownBlock := grown_alloc hg
  have hI : OwnI wr hi wr.heap.size u r := ⟨hu, fun k hk => (hu.lt k hk).2, Nat.le_refl _⟩
  have h5 := h2.snoc hI h3 h4
  have h6 := h5.top_grown h1 hg'
  exact h v' w' ⟨us ++ [u], hv', h6.mono hg'.size (Nat.le_refl _), Nat.le_trans h3 (Nat.le_trans h4 hg'.size), Nat.le_refl _⟩ hg' (fun k hk => (hb k hk).imp id (fun h => by simp at h; omega))
/-- 'v = append(v, q)'; where the new slice lies. -/
theorem wpList_append_q3 {P : Program} {wr : World} {base : Nat} {L : List QV} {ops : Array Oper} {rest : List Oper} {o : Oper} {a : Act} {Q : Exit → Act → World → Prop} {x0 : Int} {x1 x2 : Value} (hgd : o.guard = none) (s x : Operand) (t : TypeId)
    (ho : o.op = .call { callee := .builtin .append, args := #[s, x], argTypes := #[t, t] })
    (i : TypeInfo) (ht : P.underlying t = some (.slice 27)) (hi : P.info? 27 = some i) (hz : i.zero = some (.agg #[.int .i64 0, .slice none 0 0, .slice none 0 0]))
    (hsize : i.size = 3) (hby : i.bytes = 56) (v : Value) (hs : a.eval s = v) (hown : OwnQ wr base v L) (g : Nat) (hx : a.eval x = .slice (some ⟨g, 0, none⟩) 1 1) (hgs : g = wr.heap.size)
    (h1 : x1.oneCell' = true) (h2 : x2.oneCell' = true) (hlen : L.length ≤ 100000) (hb : base ≤ wr.heap.size)
    (h : ∀ v' w', OwnQ w' base v' (L ++ [(x0, x1, x2)]) → wr.grownBy w' v.ownBlock → (∀ k, v'.ownBlock = some k → v.ownBlock = some k ∨ wr.heap.size ≤ k) → wpList P ops Q rest (a.put o.dst v') w') :
    wpList P ops Q (o :: rest) a (wr.alloc (.cells #[.int .i64 x0, x1, x2] 27)) := by
  subst hgs
  have hal : Below wr.heap.size wr (wr.alloc (.cells #[.int .i64 x0, x1, x2] 27)) := (Below.refl _ _).alloc (Nat.le_refl _) _
  refine wpList_append_own_at _ hgd s x t ho base 27 i _ 3 56 ht hi hz hsize hby rfl (by decide) v L.length (flatQ L) hs (hown.below hal) ⟨wr.heap.size, 0, none⟩ 1 1 (flatQ [(x0, x1, x2)]) hx rfl (fun j u hj => ?_) (fun u hu => ?_) (by unfold maxLen; omega) (by omega) (by simp; omega) ?_
  · rw [addr_add]
    have hcell : ∀ j u, [Value.int .i64 x0, x1, x2][j]? = some u → (wr.alloc (.cells #[.int .i64 x0, x1, x2] 27)).cell? ⟨wr.heap.size, j, none⟩ = some u := fun j u hj => (CellsN.new wr 27 [.int .i64 x0, x1, x2]).at_ hj
    exact hcell j u hj
  · rw [flatQ_one] at hu
    rcases List.mem_cons.1 hu with rfl | hu
    · rfl
    · rcases List.mem_cons.1 hu with rfl | hu
      · exact h1
      · rw [List.mem_singleton.1 hu]; exact h2
  · intro v' w' ho' hg' _ hb'
    refine h v' w' ?_ (grown_alloc hg') (fun k hk => by
      rcases hb' with h1 | h1
      · exact .inl (h1 ▸ hk)
      · rw [h1] at hk
        have := Option.some.inj hk
        simp at this
        exact .inr (by omega))
    show w'.ownsRow _ _ _ _ _ _
    rw [List.length_append, flatQ_append]
    exact ho'
/-- What the search keeps: k the kernel's block, c the channel's. -/
structure KS (w wr : World) (x0 x1 x2 : Value) (k c : Nat) (vf vn : Value) (E : List El) (rows : List (List Int)) (hi : Nat) (buf : List Value) (cl : Bool) : Prop where
  below : Below w.heap.size w wr
  box : Cells3 wr w.heap.size 27 x0 x1 x2
  res : CellsN wr (w.heap.size + 1) 46 [.slice none 0 0, .slice none 0 0]
  ker : CellsN wr k 46 [vf, vn]
  chan : ∃ s r, wr.heap[c]? = some (.chan 40 buf.toArray cl s r false)
  own : OwnQ wr (w.heap.size + 2) vf (E.map El.q)
  els : Elems wr w.heap.size E
  next : HasRows wr (w.heap.size + 2) hi vn rows
  av : ∀ g, vn.ownBlock = some g → Avoid E g
  hk : w.heap.size + 2 ≤ k
  hc : w.heap.size + 2 ≤ c
  hkc : k ≠ c
section
variable {w wr w' w5 : World} {x0 x1 x2 : Value} {k c hi : Nat} {vf vn : Value} {E : List El} {rows : List (List Int)} {buf : List Value} {cl : Bool}
theorem KS.clt (h : KS w wr x0 x1 x2 k c vf vn E rows hi buf cl) : c < wr.heap.size := by
  obtain ⟨s, r, hc⟩ := h.chan
  exact (Array.getElem?_eq_some_iff.1 hc).1
theorem KS.call (h : KS w wr x0 x1 x2 k c vf vn E rows hi buf cl) (hb : Below wr.heap.size wr w') : KS w w' x0 x1 x2 k c vf vn E rows hi buf cl :=
  ⟨h.below.trans (hb.mono h.below.size), h.box.below hb, h.res.below hb, h.ker.below hb, by obtain ⟨s, r, hc⟩ := h.chan; exact ⟨s, r, (hb.block c h.clt).trans hc⟩, h.own.below hb, h.els.below hb, h.next.below hb, h.av, h.hk, h.hc, h.hkc⟩
theorem KS.vf_ne_chan (h : KS w wr x0 x1 x2 k c vf vn E rows hi buf cl) : vf.ownBlock ≠ some c := fun e => by
  obtain ⟨s, r, hc⟩ := h.chan
  obtain ⟨cur, h1⟩ := h.own.block c e
  rw [hc] at h1; cases h1
theorem KS.vn_ne_chan (h : KS w wr x0 x1 x2 k c vf vn E rows hi buf cl) : vn.ownBlock ≠ some c := fun e => by
  obtain ⟨s, r, hc⟩ := h.chan
  obtain ⟨_, cur, h1⟩ := HasRows.block h.next c e
  rw [hc] at h1; cases h1
theorem KS.vf_ne_ker (h : KS w wr x0 x1 x2 k c vf vn E rows hi buf cl) : vf.ownBlock ≠ some k := fun e => by
  obtain ⟨cur, h1⟩ := h.own.block k e
  rw [h.ker.row] at h1
  simp at h1
theorem KS.vn_ne_ker (h : KS w wr x0 x1 x2 k c vf vn E rows hi buf cl) : vn.ownBlock ≠ some k := fun e => by
  obtain ⟨_, cur, h1⟩ := HasRows.block h.next k e
  rw [h.ker.row] at h1
  simp at h1
theorem KS.vf_ne_vn (h : KS w wr x0 x1 x2 k c vf vn E rows hi buf cl) : ∀ g, vf.ownBlock = some g → vn.ownBlock ≠ some g := fun g e e' => by
  obtain ⟨cur, h1⟩ := h.own.block g e
  obtain ⟨_, cur', h2⟩ := HasRows.block h.next g e'
  rw [h1] at h2
  simp at h2
/-- The channel turns. -/
theorem KS.set (h : KS w wr x0 x1 x2 k c vf vn E rows hi buf cl) (buf' : List Value) (a : Array Value) (ha : a = buf'.toArray) (cl' : Bool) (s' r' : Nat) : KS w (wr.setChan c 40 a cl' s' r' false) x0 x1 x2 k c vf vn E rows hi buf' cl' := by
  subst ha
  have hg := grown_setChan wr c 40 buf'.toArray cl' s' r' false
  obtain ⟨s, r, hc⟩ := h.chan
  have hkp : KeepsIR wr (wr.setChan c 40 buf'.toArray cl' s' r' false) := KeepsIR.of_grown hg (fun cur e fr h1 => by rw [hc] at h1; cases h1)
  have h0 := h.hk
  have h1 := h.hc
  exact ⟨below_setChan h.below (by omega) _ _ _ _ _ _, h.box.grown hg (fun e => by have := Option.some.inj e; omega), h.res.grown hg (fun e => by have := Option.some.inj e; omega), h.ker.grown hg (fun e => h.hkc (Option.some.inj e).symm),
    ⟨s', r', heap_setChan wr c 40 _ _ _ _ _ h.clt⟩, h.own.kept hg (.inr h.vf_ne_chan), h.els.keep hkp, HasRows.keep h.next hkp, h.av, h.hk, h.hc, h.hkc⟩
/-- A block of ints that is the call's own turns. -/
theorem KS.write (h : KS w wr x0 x1 x2 k c vf vn E rows hi buf cl) {g : Nat} (j : Nat) (u : Value) {cur : Array Value} (hI : wr.heap[g]? = some (.cells cur 3 (0, 0))) (hlo : w.heap.size + 2 ≤ g) (hhi : hi ≤ g) (ha : Avoid E g) : KS w (wr.setCell ⟨g, j, none⟩ u) x0 x1 x2 k c vf vn E rows hi buf cl := by
  have hg := grown_cell' wr g j u
  have n1 : g ≠ k := fun e => by subst e; rw [h.ker.row] at hI; simp at hI
  have n2 : g ≠ c := fun e => by subst e; obtain ⟨s, r, hc⟩ := h.chan; rw [hc] at hI; cases hI
  have n3 : vf.ownBlock ≠ some g := fun e => by obtain ⟨cur, h1⟩ := h.own.block g e; rw [hI] at h1; simp at h1
  have n4 : vn.ownBlock ≠ some g := fun e => by obtain ⟨_, cur, h1⟩ := HasRows.block h.next g e; rw [hI] at h1; simp at h1
  exact ⟨h.below.setCell (p := ⟨g, j, none⟩) (by show _ ≤ g; omega) _, h.box.grown hg (fun e => by have := Option.some.inj e; omega), h.res.grown hg (fun e => by have := Option.some.inj e; omega), h.ker.grown hg (fun e => n1 (Option.some.inj e)),
    by obtain ⟨s, r, hc⟩ := h.chan; exact ⟨s, r, (hg.block c h.clt (fun e => n2 (Option.some.inj e).symm)).trans hc⟩, h.own.kept hg (.inr n3), h.els.grown hg (fun g' e => by cases e; exact ha), HasRows.write h.next hg hhi n4, h.av, h.hk, h.hc, h.hkc⟩
/-- A sequence is put behind those found. -/
theorem KS.add (h : KS w wr x0 x1 x2 k c vf vn E rows hi buf cl) {v' : Value} (e : El) (ho : OwnQ w5 (w.heap.size + 2) v' ((E ++ [e]).map El.q)) (hg : wr.grownBy w5 vf.ownBlock) (hE : Elems wr w.heap.size (E ++ [e])) (hav : ∀ g, vn.ownBlock = some g → Avoid (E ++ [e]) g) : KS w (w5.setCell ⟨k, 0, none⟩ v') x0 x1 x2 k c v' vn (E ++ [e]) rows hi buf cl := by
  have hk5 := h.ker.grown hg h.vf_ne_ker
  have hg2 := grown_cell' w5 k 0 v'
  have hkp1 := h.own.keepsIR hg
  have hkp2 : KeepsIR w5 (w5.setCell ⟨k, 0, none⟩ v') := KeepsIR.of_grown hg2 (fun cur e fr h1 => by rw [hk5.row] at h1; simp at h1; rcases h1 with ⟨_, h1, _⟩; rw [← h1]; decide)
  have h0 := h.hk
  have h1 := h.hc
  have hlt := h.own.lt
  have hb : Below w.heap.size w w5 := h.own.frame h.below (by omega) hg
  refine ⟨hb.setCell (p := ⟨k, 0, none⟩) (by show _ ≤ k; omega) _, (h.box.grown hg (fun e => by have := (hlt _ e).1; omega)).grown hg2 (fun e => by have := Option.some.inj e; omega), (h.res.grown hg (fun e => by have := (hlt _ e).1; omega)).grown hg2 (fun e => by have := Option.some.inj e; omega), hk5.set 0 v', ?_, ho.kept hg2 (.inr (fun e => ?_)), (hE.keep hkp1).keep hkp2, HasRows.keep (HasRows.keep h.next hkp1) hkp2, hav, h.hk, h.hc, h.hkc⟩
  · obtain ⟨s, r, hc⟩ := h.chan
    have hc5 := (hg.block c h.clt (Ne.symm h.vf_ne_chan)).trans hc
    exact ⟨s, r, (hg2.block c (Array.getElem?_eq_some_iff.1 hc5).1 (fun e => h.hkc (Option.some.inj e).symm)).trans hc5⟩
  · obtain ⟨cur, h1⟩ := ho.block k e
    rw [hk5.row] at h1
    simp at h1
/-- A row is put behind the rows. -/
theorem KS.put (h : KS w wr x0 x1 x2 k c vf vn E rows hi buf cl) {v' : Value} {rows' : List (List Int)} (ho : HasRows w5 (w.heap.size + 2) w5.heap.size v' rows') (hg : wr.grownBy w5 vn.ownBlock) (hb' : ∀ k, v'.ownBlock = some k → vn.ownBlock = some k ∨ wr.heap.size ≤ k) : KS w (w5.setCell ⟨k, 1, none⟩ v') x0 x1 x2 k c vf v' E rows' w5.heap.size buf cl := by
  have hk5 := h.ker.grown hg h.vn_ne_ker
  have hg2 := grown_cell' w5 k 1 v'
  have hkp2 : KeepsIR w5 (w5.setCell ⟨k, 1, none⟩ v') := KeepsIR.of_grown hg2 (fun cur e fr h1 => by rw [hk5.row] at h1; simp at h1; rcases h1 with ⟨_, h1, _⟩; rw [← h1]; decide)
  have h0 := h.hk
  have h1 := h.hc
  have hlt := fun k e => (HasRows.block h.next k e).1
  have hb : Below w.heap.size w w5 := HasRows.frame h.next h.below (by omega) hg
  have ho5 : OwnQ w5 (w.heap.size + 2) vf (E.map El.q) := h.own.kept hg (by
    cases hv : vf.ownBlock with
    | none => exact .inl rfl
    | some g => exact .inr (fun e => h.vf_ne_vn g hv e.symm))
  refine ⟨hb.setCell (p := ⟨k, 1, none⟩) (by show _ ≤ k; omega) _, (h.box.grown hg (fun e => by have := (hlt _ e).1; omega)).grown hg2 (fun e => by have := Option.some.inj e; omega), (h.res.grown hg (fun e => by have := (hlt _ e).1; omega)).grown hg2 (fun e => by have := Option.some.inj e; omega), hk5.set 1 v', ?_, ho5.kept hg2 (.inr (fun e => ?_)), (h.els.grown hg h.av).keep hkp2, ?_, fun g e => ?_, h.hk, h.hc, h.hkc⟩
  · obtain ⟨s, r, hc⟩ := h.chan
    have hc5 := (hg.block c h.clt (Ne.symm h.vn_ne_chan)).trans hc
    exact ⟨s, r, (hg2.block c (Array.getElem?_eq_some_iff.1 hc5).1 (fun e => h.hkc (Option.some.inj e).symm)).trans hc5⟩
  · exact h.vf_ne_ker e
  · exact HasRows.keep ho hkp2
  · rcases hb' g e with h1 | h1
    · exact h.av g h1
    · exact Avoid.new h.els h1
end
end Kern
end Go.Proofs.Ytdgfecjakmdheaa
/- Contracts of the exact laws' own helpers on sequences, fourth part: writing marks into one, asking for the marks. No conditions beyond those that each states. -/
namespace Go.Proofs.Ytdgfecjakmdheaa
open Go.ChangeShapes Go.WideShapes Go.ChangeAt Go.RowKit
open Go.PlainAid Plain
set_option linter.unusedVariables false
namespace Seqs
open Ints
theorem lies_at {α : Type} {enc : α → Value} {w : World} {a : Option Addr} {n cap : Nat} {xs : List α} (h : Lies enc w (.slice a n cap) xs) {i : Nat} {x : α} (hx : xs[i]? = some x) : ∃ b off, a = some ⟨b, off, none⟩ ∧ w.cell? ⟨b, off + i, none⟩ = some (enc x) := by
  obtain ⟨_, a', cap', he, _, hc⟩ := h
  injection he with e1 e2 e3
  subst e1
  exact hc i x hx
/-- The rows' marks from k on. -/
def markedR (k : Int) (rows : List (List Int)) : List (List Int) := rows.mapIdx fun j r => marks (k + tot (rows.take j)) r.length
theorem markedR_at (k : Int) (rows : List (List Int)) (j : Nat) (r : List Int) (h : rows[j]? = some r) : (markedR k rows)[j]? = some (marks (k + tot (rows.take j)) r.length) := by simp [markedR, h]
theorem markedR_len (k : Int) (rows : List (List Int)) : (markedR k rows).length = rows.length := by simp [markedR]
/-- The marks are written into the rows before i. -/
def MarkAt (w : World) (lo hi : Nat) (us : List Value) (rows : List (List Int)) (k : Int) (i : Nat) : Prop :=
  ∀ (j : Nat) (u : Value) (r : List Int), us[j]? = some u → rows[j]? = some r → OwnI w lo hi u (if j < i then marks (k + tot (rows.take j)) r.length else r)
theorem MarkAt.step {w w' : World} {lo hi : Nat} {us : List Value} {rows : List (List Int)} {k : Int} {i : Nat} {u : Value} {r : List Int} (h : MarkAt w lo hi us rows k i)
    (hap : ∀ (i j : Nat) (u u' : Value), us[i]? = some u → us[j]? = some u' → i ≠ j → u.ownBlock = none ∨ u.ownBlock ≠ u'.ownBlock)
    (hu : us[i]? = some u) (hr : rows[i]? = some r) (hm : Has (Value.int .i64) 3 w' lo u (marks (k + tot (rows.take i)) r.length)) (hg : w.grownBy w' u.ownBlock) : MarkAt w' lo hi us rows k (i + 1) := by
  intro j u' r' hu' hr'
  by_cases e : j = i
  · subst e
    obtain rfl : u = u' := Option.some.inj (hu.symm.trans hu')
    obtain rfl : r = r' := Option.some.inj (hr.symm.trans hr')
    rw [if_pos (by omega)]
    have := h j u r hu hr
    exact ⟨hm, this.lt, Nat.le_trans this.le hg.size⟩
  · have h1 := (h j u' r' hu' hr').wrote (Wrote.of_grown hg) (fun x hx => by
      obtain rfl : x = u := by simpa using hx
      exact hap j i u' x hu' hu e)
    by_cases hj : j < i
    · rw [if_pos hj] at h1
      rw [if_pos (by omega)]
      exact h1
    · rw [if_neg hj] at h1
      rw [if_neg (by omega)]
      exact h1
end Seqs
end Go.Proofs.Ytdgfecjakmdheaa
/- Contracts of the exact laws' own helpers on sequences, fifth part: asking one for the marks. No conditions beyond those that each states. -/
namespace Go.Proofs.Ytdgfecjakmdheaa
open Go.ChangeShapes Go.WideShapes Go.ChangeAt Go.RowKit
open Go.PlainAid Plain
set_option linter.unusedVariables false
namespace Seqs
open Ints
end Seqs
end Go.Proofs.Ytdgfecjakmdheaa
/- The laws' marks, begun at a later number: behind another argument's. No conditions beyond those that each states. -/
namespace Go.Proofs.Ytdgfecjakmdheaa
open Go.ChangeShapes Go.WideShapes Go.ChangeAt Go.RowKit
open Go.PlainAid Plain
open Ints (marks)
set_option linter.unusedVariables false
namespace Seqs
end Seqs
end Go.Proofs.Ytdgfecjakmdheaa
/- Contracts of the laws' markSequenceS and heldSequenceS over a slice of sequences of the call's own. No conditions beyond those that each states. -/
namespace Go.Proofs.Ytdgfecjakmdheaa
open Go.ChangeShapes Go.WideShapes Go.ChangeAt Go.RowKit
open Go.PlainAid Plain
set_option linter.unusedVariables false
namespace Kern
open Seqs Mins
/-- How many marks a sequence takes, and all of them. -/
def szQ (s : Sq) : Nat := 1 + tot s.r + s.o.length
def totQ (L : List Sq) : Nat := (L.map szQ).sum
theorem totQ_append (A B : List Sq) : totQ (A ++ B) = totQ A + totQ B := by simp only [totQ, List.map_append, List.sum_append]
theorem totQ_take (L : List Sq) (i : Nat) (s : Sq) (h : L[i]? = some s) : totQ (L.take (i + 1)) = totQ (L.take i) + szQ s := by
  obtain ⟨h1, rfl⟩ := List.getElem?_eq_some_iff.1 h
  rw [List.take_succ_eq_append_getElem h1, totQ_append]
  simp [totQ]
theorem totQ_le (L : List Sq) (i : Nat) : totQ (L.take i) ≤ totQ L := by
  have h := congrArg totQ (List.take_append_drop i L)
  rw [totQ_append] at h
  omega
/-- A sequence with its marks from k on. -/
def markSq (k : Int) (s : Sq) : Sq := ⟨k, markedR (k + 1) s.r, Ints.marks (k + 1 + tot s.r) s.o.length⟩
def markedQ (k : Int) (L : List Sq) : List Sq := L.mapIdx fun j s => markSq (k + totQ (L.take j)) s
theorem markedQ_at (k : Int) (L : List Sq) (j : Nat) (s : Sq) (h : L[j]? = some s) : (markedQ k L)[j]? = some (markSq (k + totQ (L.take j)) s) := by simp [markedQ, h]
theorem markedQ_len (k : Int) (L : List Sq) : (markedQ k L).length = L.length := by simp [markedQ]
/-- A slice of sequences of the call's own, all in one interval of blocks. -/
def QS (w : World) (lo hi : Nat) (v : Value) (L : List Sq) : Prop := ∃ E : List El, OwnQ w lo v (E.map El.q) ∧ (∀ k, v.ownBlock = some k → k < hi) ∧ Elems w lo E ∧ (∀ e ∈ E, e.d ≤ hi) ∧ hi ≤ w.heap.size ∧ E.map El.s = L
theorem QS.lies {w : World} {lo hi : Nat} {v : Value} {L : List Sq} (h : QS w lo hi v L) : ∃ lo hi, QS w lo hi v L := ⟨lo, hi, h⟩
theorem QS.below {w w' : World} {lo hi : Nat} {v : Value} {L : List Sq} (h : QS w lo hi v L) (hb : Below w.heap.size w w') : QS w' lo hi v L := by
  obtain ⟨E, h1, h2, h3, h4, h5, h6⟩ := h
  exact ⟨E, h1.below hb, h2, h3.below hb, h4, Nat.le_trans h5 hb.size, h6⟩
theorem QS.touch {w w' : World} {lo hi lo' hi' : Nat} {v : Value} {L : List Sq} (h : QS w lo hi v L) (ht : Plain.Touch lo' hi' w w') (hd : hi ≤ lo' ∨ hi' ≤ lo) : QS w' lo hi v L := by
  obtain ⟨E, h1, h2, h3, h4, h5, h6⟩ := h
  refine ⟨E, ?_, h2, ⟨fun e he => (h3.own e he).touch ht ?_, h3.lo, h3.pw⟩, h4, Nat.le_trans h5 ht.size, h6⟩
  · refine ⟨h1.1, ?_⟩
    rcases h1.2 with h7 | ⟨g, cap, cur, hv, hg, hc, r⟩
    · exact .inl h7
    · refine .inr ⟨g, cap, cur, hv, hg, ?_, r⟩
      have hgh := h2 g (by rw [hv]; rfl)
      rw [← hc]
      exact ht.block g (by omega) (by omega)
  · have := h4 e he
    have := (h3.lo e he).1
    omega
theorem QS.form {w : World} {lo hi : Nat} {v : Value} {L : List Sq} (h : QS w lo hi v L) : ∃ a c, v = .slice a L.length c := by
  obtain ⟨E, h1, _, _, _, _, h6⟩ := h
  obtain ⟨a, c, hv, _⟩ := h1.form
  exact ⟨a, c, by rw [hv, ← h6, List.length_map, List.length_map]⟩
def GivesQ (L : List Sq) (k : Bool) (w : World) (en : Ending) (w' : World) : Prop := ∃ v, en = .returned (.tuple #[v, .bool k]) ∧ QS w' w.heap.size w'.heap.size v L ∧ Below w.heap.size w w'
theorem gives_q {L : List Sq} {k : Bool} {w : World} {en : Ending} {w' : World} (h : GivesKer L k w en w') : GivesQ L k w en w' := by
  obtain ⟨v, E, he, h1, h2, h3, h4⟩ := h
  exact ⟨v, he, ⟨E, h1, fun k hk => (h1.lt k hk).2, h2, fun e hm => (h2.own e hm).le, Nat.le_refl _, h3⟩, h4⟩
theorem flat_set : ∀ (L : List QV) (i : Nat) (q : QV) (x : Int), L[i]? = some q → (flatQ L).set (i * 3) (.int .i64 x) = flatQ (L.set i (x, q.2.1, q.2.2))
  | [], i, q, x, h => by simp at h
  | p :: L, 0, q, x, h => by
    obtain rfl := Option.some.inj h
    rfl
  | p :: L, i + 1, q, x, h => by
    have ih := flat_set L i q x h
    rw [show (i + 1) * 3 = i * 3 + 3 from by omega]
    show (Value.int .i64 p.1 :: p.2.1 :: p.2.2 :: flatQ L).set (i * 3 + 3) _ = _
    rw [List.set_cons_succ, List.set_cons_succ, List.set_cons_succ, ih]
    rfl
/-- A base is written. -/
theorem OwnQ.write {w : World} {base g c i : Nat} {q : QV} {L : List QV} (h : OwnQ w base (.slice (some ⟨g, 0, none⟩) L.length c) L) (hq : L[i]? = some q) (x : Int) :
    OwnQ (w.setCell ⟨g, i * 3, none⟩ (.int .i64 x)) base (.slice (some ⟨g, 0, none⟩) L.length c) (L.set i (x, q.2.1, q.2.2)) ∧ w.grownBy (w.setCell ⟨g, i * 3, none⟩ (.int .i64 x)) (some g) ∧ w.frozen? ⟨g, i * 3, none⟩ = false := by
  have h1 : w.ownsRow base 27 3 (.slice (some ⟨g, 0, none⟩) L.length c) L.length (flatQ L) := h
  have h2 := h1.stored (i * 3) (.int .i64 x)
  refine ⟨?_, h2.2, h1.frozenAt (i * 3)⟩
  show World.ownsRow _ _ _ _ _ _ _
  rw [List.length_set, ← flat_set L i q x hq]
  exact h2.1
/-- What marking rows and terms makes of a sequence. -/
theorem marked_own {w W1 W2 : World} {lo hi : Nat} {b k m : Int} {vn vo : Value} {us : List Value} {rows : List (List Int)} {out : List Int} (hn : OwnR w lo hi vn us rows) (ho : OwnRows w lo hi (us ++ [vo]) (rows ++ [out]))
    (hr : OwnRows W1 lo hi us (markedR k rows)) (hw : Wrote us w W1) (hh : Has (Value.int .i64) 3 W2 lo vo (Ints.marks m out.length)) (hg : W1.grownBy W2 vo.ownBlock) :
    OwnS W2 lo hi (.agg #[.int .i64 b, vn, vo]) b (markedR k rows) (Ints.marks m out.length) ∧ Plain.Touch lo hi w W2 := by
  have hlen : us.length = rows.length := hn.rows.len
  have HAP := ho.apart
  have hin : ∀ x ∈ us, ∃ y, OwnI w lo hi x y := fun x hx => by
    obtain ⟨j, hj⟩ := List.getElem?_of_mem hx
    obtain ⟨y, hy⟩ : ∃ y, rows[j]? = some y := ⟨_, List.getElem?_eq_getElem (by rw [← hlen]; exact (List.getElem?_eq_some_iff.1 hj).1)⟩
    exact ⟨y, hn.rows.row j x y hj hy⟩
  have hL1 : OwnI W1 lo hi vo out := ho.last.wrote hw (fun x hx => by
    obtain ⟨j, hj⟩ := List.getElem?_of_mem hx
    have hjl := (List.getElem?_eq_some_iff.1 hj).1
    exact HAP us.length j vo x (by simp) (by rw [List.getElem?_append_left hjl]; exact hj) (by omega))
  have hT1 : Has id 25 W1 lo vn us := hn.top.of_same fun k hk => hw.block k (hn.top.lt k hk).2 fun x hx e => by
    obtain ⟨y, hy⟩ := hin x hx
    rcases hn.top.ne_top hy.has with h2 | h2
    · rw [h2] at hk; cases hk
    · exact h2 (hk.trans e.symm)
  have hO : OwnI W2 lo hi vo (Ints.marks m out.length) := ⟨hh, hL1.lt, Nat.le_trans hL1.le hg.size⟩
  have hR : OwnRows W2 lo hi us (markedR k rows) := ⟨hr.len, fun j x r hj hr' => (hr.row j x r hj hr').wrote (Wrote.of_grown hg) (fun y hy => by
    obtain rfl : y = vo := by simpa using hy
    have hjl := (List.getElem?_eq_some_iff.1 hj).1
    exact HAP j us.length x y (by rw [List.getElem?_append_left hjl]; exact hj) (by simp) (by omega)), hr.apart⟩
  have hT : Has id 25 W2 lo vn us := hT1.of_same fun k hk => hg.block k (hT1.lt k hk).2 fun e => by
    rcases hT1.ne_top hL1.has with h2 | h2
    · rw [h2] at hk; cases hk
    · exact h2 (hk.trans e)
  refine ⟨⟨vn, vo, us, rfl, ⟨hT, hn.lt, hO.le, hR⟩, ⟨by simp [markedR_len, hlen], fun j x r hj hr' => ?_, HAP⟩⟩, ?_⟩
  · by_cases hjl : j < us.length
    · rw [List.getElem?_append_left hjl] at hj
      rw [List.getElem?_append_left (by rw [markedR_len]; omega)] at hr'
      exact hR.row j x r hj hr'
    · have e1 : j = us.length := by have := (List.getElem?_eq_some_iff.1 hj).1; simp at this; omega
      subst e1
      rw [List.getElem?_append_right (Nat.le_refl _)] at hj
      rw [hlen, ← markedR_len k rows, List.getElem?_append_right (Nat.le_refl _)] at hr'
      simp at hj hr'
      subst hj; subst hr'
      exact hO
  · have t1 : Plain.Touch lo hi w W1 := Touch.of_wrote hw fun x hx q hq => by
      obtain ⟨y, hy⟩ := hin x hx
      exact hy.range q hq
    have t2 : Plain.Touch lo hi W1 W2 := Touch.of_wrote (Wrote.of_grown hg) fun x hx q hq => by
      obtain rfl : x = vo := by simpa using hx
      exact hL1.range q hq
    exact t1.trans t2
/-- One sequence is marked, the others lie in other blocks. -/
theorem Elems.mark {w w' : World} {lo i : Nat} {E : List El} {e : El} (h : Elems w lo E) (he : E[i]? = some e) (q : QV) (s : Sq) (ho : OwnS w' e.c e.d (encQ q) s.b s.r s.o) (ht : Plain.Touch e.c e.d w w') : Elems w' lo (E.set i ⟨q, s, e.c, e.d⟩) := by
  have hi := (List.getElem?_eq_some_iff.1 he).1
  have hat : ∀ (j : Nat) (x : El), (E.set i ⟨q, s, e.c, e.d⟩)[j]? = some x → (j = i ∧ x = ⟨q, s, e.c, e.d⟩) ∨ (j ≠ i ∧ E[j]? = some x) := fun j x hx => by
    by_cases hj : j = i
    · subst hj
      rw [List.getElem?_set_self hi] at hx
      exact .inl ⟨rfl, (Option.some.inj hx).symm⟩
    · rw [List.getElem?_set_ne (Ne.symm hj)] at hx
      exact .inr ⟨hj, hx⟩
  have pw : ∀ (j k : Nat) (x y : El), j < k → E[j]? = some x → E[k]? = some y → x.d ≤ y.c := fun j k x y hjk hx hy => by
    obtain ⟨h1, rfl⟩ := List.getElem?_eq_some_iff.1 hx
    obtain ⟨h2, rfl⟩ := List.getElem?_eq_some_iff.1 hy
    exact List.pairwise_iff_getElem.1 h.pw j k h1 h2 hjk
  refine ⟨fun x hx => ?_, fun x hx => ?_, ?_⟩
  · obtain ⟨j, hj⟩ := List.getElem?_of_mem hx
    rcases hat j x hj with ⟨_, rfl⟩ | ⟨hne, hxj⟩
    · exact ho
    · refine (h.own x (List.mem_of_getElem? hxj)).touch ht ?_
      rcases Nat.lt_or_gt_of_ne hne with hl | hl
      · exact .inl (pw j i x e hl hxj he)
      · exact .inr (pw i j e x hl he hxj)
  · obtain ⟨j, hj⟩ := List.getElem?_of_mem hx
    rcases hat j x hj with ⟨_, rfl⟩ | ⟨hne, hxj⟩
    · exact h.lo e (List.mem_of_getElem? he)
    · exact h.lo x (List.mem_of_getElem? hxj)
  · rw [List.pairwise_iff_getElem]
    intro j k hj hk hjk
    have e1 := hat j _ (List.getElem?_eq_getElem hj)
    have e2 := hat k _ (List.getElem?_eq_getElem hk)
    rcases e1 with ⟨rfl, e1⟩ | ⟨_, e1⟩
    · rcases e2 with ⟨rfl, e2⟩ | ⟨_, e2⟩
      · omega
      · rw [e1]; exact pw j k e _ hjk he e2
    · rcases e2 with ⟨rfl, e2⟩ | ⟨_, e2⟩
      · rw [e2]; exact pw j k _ e hjk e1 he
      · exact pw j k _ _ hjk e1 e2
theorem take_set {α : Type} {A B : List α} {i : Nat} {x : α} (h : A.length = B.length) (hx : A[i]? = some x) : (A.take i ++ B.drop i).set i x = A.take (i + 1) ++ B.drop (i + 1) := by
  obtain ⟨h1, rfl⟩ := List.getElem?_eq_some_iff.1 hx
  rw [List.drop_eq_getElem_cons (by omega), List.take_succ_eq_append_getElem h1, List.append_assoc]
  exact set_mid _ _ _ _ i (by rw [List.length_take]; omega)
/-- Slices of sequences that are the call's own share no block with slices of ints that are. -/
theorem OwnQ.wrote {w w' : World} {base lo hi : Nat} {v : Value} {L : List QV} {us : List Value} (h : OwnQ w base v L) (hu : ∀ x ∈ us, ∃ r, OwnI w lo hi x r) (hw : Wrote us w w') : OwnQ w' base v L := by
  refine ⟨h.1, ?_⟩
  rcases h.2 with h7 | ⟨g, cap, cur, hv, hg, hc, r⟩
  · exact .inl h7
  · refine .inr ⟨g, cap, cur, hv, hg, ?_, r⟩
    rw [← hc]
    refine hw.block g (Array.getElem?_eq_some_iff.1 hc).1 fun x hx e => ?_
    obtain ⟨y, hy⟩ := hu x hx
    rcases hy.has.2 with ⟨rfl, _⟩ | ⟨g', cap', cur', hv', _, hc', _⟩
    · cases e
    · rw [hv'] at e
      have e2 : g' = g := by simpa [Value.ownBlock] using e
      subst e2
      rw [hc] at hc'
      have := (Obj.cells.inj (Option.some.inj hc')).2.1
      exact absurd this (by decide)
theorem touch_mono {lo hi lo' hi' : Nat} {w w' : World} (h : Plain.Touch lo' hi' w w') (h1 : lo ≤ lo') (h2 : hi' ≤ hi) : Plain.Touch lo hi w w' := ⟨h.os, h.tape, h.output, h.size, fun k hk hn => h.block k hk (by omega)⟩
theorem last_wrote {w W1 : World} {lo hi : Nat} {vo : Value} {us : List Value} {rows : List (List Int)} {out : List Int} (hl : us.length = rows.length) (ho : OwnRows w lo hi (us ++ [vo]) (rows ++ [out])) (hw : Wrote us w W1) : OwnI W1 lo hi vo out :=
  ho.last.wrote hw (fun x hx => by
    obtain ⟨j, hj⟩ := List.getElem?_of_mem hx
    have hjl := (List.getElem?_eq_some_iff.1 hj).1
    exact ho.apart us.length j vo x (by simp) (by rw [List.getElem?_append_left hjl]; exact hj) (by omega))
theorem encQ_parts {q : QV} {b : Int} {vn vo : Value} (h : encQ q = .agg #[.int .i64 b, vn, vo]) : q.2.1 = vn ∧ q.2.2 = vo := by
  obtain ⟨x, y, z⟩ := q
  simp only [encQ, Value.agg.injEq, Array.mk.injEq, List.cons.injEq, and_true, Value.int.injEq, true_and] at h
  exact h.2
end Kern
end Go.Proofs.Ytdgfecjakmdheaa
/- Contract of the laws' sameSequences, at two slices that hold the same sequences. No conditions beyond those that it states. -/
namespace Go.Proofs.Ytdgfecjakmdheaa
open Go.ChangeShapes Go.WideShapes Go.ChangeAt Go.RowKit
open Go.PlainAid Plain
set_option linter.unusedVariables false
namespace Kern
open Seqs Mins
theorem equal_own (u v : Value) (b : Int) (rows : List (List Int)) (out : List Int) (w : World) (h1 : LiesS w u b rows out) (h2 : LiesS w v b rows out) :
    Calls Try.prog 14 #[u, v] w fun e w' => e = .returned (.bool true) ∧ Below w.heap.size w w' :=
  (spec_equal u v b b rows rows out out w h1 h2).mono fun _ _ ⟨he, hb⟩ => ⟨by rw [he]; simp [sameB], hb⟩
set_option maxHeartbeats 1000000 in
theorem sameQ (u v : Value) (E F : List El) (lo lo' base base' : Nat) (w : World) (h1 : OwnQ w base u (E.map El.q)) (h2 : OwnQ w base' v (F.map El.q)) (hE : Elems w lo E) (hF : Elems w lo' F) (hs : E.map El.s = F.map El.s) :
    Calls Try.prog 8 #[u, v] w fun e w' => e = .returned (.bool true) ∧ Below w.heap.size w w' := by
  obtain ⟨a, c, hu, _⟩ := h1.form
  obtain ⟨a', c', hv, _⟩ := h2.form
  have hl : F.length = E.length := by have := congrArg List.length hs; rw [List.length_map, List.length_map] at this; exact this.symm
  have hsm : E.length ≤ 9223372036854775807 := by have := h1.small; rw [List.length_map] at this; exact this
  rw [List.length_map] at hu hv
  rw [hl] at hv
  subst hu; subst hv
  have HE := Lib.hid h1
  have HF := Lib.hid h2
  have HEE := Lib.hid hE
  have HFF := Lib.hid hF
  have HS := Lib.hid hs
  have HL := Lib.hid hl
  clear h1 h2 hE hF hs hl
  go_enter Try.func8, Try.ntmps8
  go_wp2
  go_loopw [5] (fun k' wr => ∃ k : Nat, k ≤ E.length ∧ k' = .int .i64 k ∧ Hid (Below w.heap.size w wr)) (fun k' _ => E.length - (intOf k').toNat)
  case atStart => exact ⟨0, Nat.zero_le _, rfl, Below.refl _ _⟩
  case round =>
    obtain ⟨k, hkE, rfl, HB⟩ := hrel
    obtain ⟨W4, rfl⟩ : ∃ W : World, W = wr := ⟨_, rfl⟩
    by_cases hk : k < E.length
    · obtain ⟨s, hs⟩ : ∃ s, (E.map El.s)[k]? = some s := ⟨_, List.getElem?_eq_getElem (by rw [List.length_map]; exact hk)⟩
      obtain ⟨g, d, a1, c1, a2, c2, hu, p0, p1, p2, hl1⟩ := elem_at (HE.out.below HB.out) (HEE.out.below HB.out) hs
      rw [HS.out] at hs
      obtain ⟨g', d', b1, d1, b2, d2, hv, q0, q1, q2, hl2⟩ := elem_at (HF.out.below HB.out) (HFF.out.below HB.out) hs
      rw [HL.out] at hv
      injection hu with hu _ hud
      subst hu; subst hud
      injection hv with hv _ hvd
      subst hv; subst hvd
      have HEQ : Hid (∀ W, Below W4.heap.size W4 W → Calls Try.prog 14 #[.agg #[.int .i64 s.b, .slice a1 s.r.length c1, .slice a2 s.o.length c2], .agg #[.int .i64 s.b, .slice b1 s.r.length d1, .slice b2 s.o.length d2]] W fun e w' => e = .returned (.bool true) ∧ Below W.heap.size W w') := fun W hW => equal_own _ _ s.b s.r s.o W (hl1.below hW) (hl2.below hW)
      have hk0 : (0 : Int) ≤ (k : Int) := Int.natCast_nonneg _
      have hkE1 : (k : Int) < (E.length : Int) := by omega
      have hD : Below W4.heap.size W4 W4.drew := below_drew' W4
      clear hs hl1 hl2
      go_wp2_with fail
      go_region_law (first | (go_simp; (with_reducible refine (HEQ.out _ hD).mono ?_); rintro e W8 ⟨rfl, b8⟩; have bA : Below W4.heap.size W4 W8 := hD.trans (b8.mono hD.size)))
      all_goals
        have HBA := Lib.hid (HB.out.trans (bA.mono HB.out.size))
        clear p0 p1 p2 q0 q1 q2 bA b8
        go_wp2
        go_roundw
        case rel => exact ⟨k + 1, by omega, by go_num, HBA⟩
        case measure => simp [intOf]; omega
    · obtain rfl : k = E.length := by omega
      go_wp2
      go_ret
      exact ⟨rfl, HB.out⟩
theorem sameQS (u v : Value) (L : List Sq) (w : World) (h1 : ∃ lo hi, QS w lo hi u L) (h2 : ∃ lo hi, QS w lo hi v L) :
    Calls Try.prog 8 #[u, v] w fun e w' => e = .returned (.bool true) ∧ Below w.heap.size w w' := by
  obtain ⟨lo, hi, E, a1, _, a3, _, _, a6⟩ := h1
  obtain ⟨lo', hi', F, b1, _, b3, _, _, b6⟩ := h2
  exact sameQ u v E F lo lo' lo lo' w a1 b1 a3 b3 (a6.trans b6.symm)
end Kern
end Go.Proofs.Ytdgfecjakmdheaa
/- Plain facts on strings of bytes as lists of numbers: when two are equal, and what a part of a string reads as. No conditions beyond those that each fact states. -/
namespace Go.Proofs.Ytdgfecjakmdheaa.Plain
open Go.PlainAid

/-- All numbers of a list are bytes. -/
def AreBytes (l : List Int) : Prop := ∀ x ∈ l, 0 ≤ x ∧ x ≤ 255
theorem u8_toNat (x : Int) (h : 0 ≤ x ∧ x ≤ 255) : ((UInt8.ofNat x.toNat).toNat : Int) = x := by
  have : (UInt8.ofNat x.toNat).toNat = x.toNat % 256 := UInt8.toNat_ofNat'
  omega
theorem bytesOf_inj : ∀ (A B : List Int), AreBytes A → AreBytes B → Lib.bytesOf A = Lib.bytesOf B → A = B
  | [], [], _, _, _ => rfl
  | [], b :: B, _, _, h => by simp [Lib.bytesOf] at h
  | a :: A, [], _, _, h => by simp [Lib.bytesOf] at h
  | a :: A, b :: B, ha, hb, h => by
    simp only [Lib.bytesOf, List.map_cons, List.cons.injEq] at h
    have e : a = b := by
      have h1 := u8_toNat a (ha a (by simp))
      have h2 := u8_toNat b (hb b (by simp))
      rw [h.1] at h1
      omega
    rw [e, bytesOf_inj A B (fun x hx => ha x (by simp [hx])) (fun x hx => hb x (by simp [hx])) h.2]
theorem nums_beq (A B : List Int) (ha : AreBytes A) (hb : AreBytes B) : ((strOfNums A).toList == (strOfNums B).toList) = decide (A = B) := by
  rw [Lib.strOfNums_toList, Lib.strOfNums_toList, Bool.eq_iff_iff, beq_iff_eq, decide_eq_true_eq]
  exact ⟨bytesOf_inj A B ha hb, fun h => by rw [h]⟩

/-- k bytes of s from i on. -/
def bseg (s : ByteArray) : Nat → Nat → List Int
  | _, 0 => []
  | i, k + 1 => bt s i :: bseg s (i + 1) k
theorem bseg_bytes (s : ByteArray) : ∀ k i : Nat, AreBytes (bseg s i k)
  | 0, _ => fun x hx => by simp [bseg] at hx
  | k + 1, i => fun x hx => by
    simp only [bseg, List.mem_cons] at hx
    rcases hx with rfl | hx
    · exact ⟨bt_nonneg s i, bt_le s i⟩
    · exact bseg_bytes s k (i + 1) x hx
theorem bseg_length (s : ByteArray) : ∀ k i : Nat, (bseg s i k).length = k
  | 0, _ => rfl
  | k + 1, i => by simp [bseg, bseg_length s k (i + 1)]
theorem bseg_snoc (s : ByteArray) : ∀ k i : Nat, bseg s i (k + 1) = bseg s i k ++ [bt s (i + k)]
  | 0, i => by simp [bseg]
  | k + 1, i => by
    show bt s i :: bseg s (i + 1) (k + 1) = _
    rw [bseg_snoc s k (i + 1), show i + 1 + k = i + (k + 1) from by omega]
    rfl
theorem bytesOf_seg (s : ByteArray) : ∀ k i : Nat, i + k ≤ s.size → Lib.bytesOf (bseg s i k) = (s.data.toList.drop i).take k
  | 0, _, _ => by simp [bseg, Lib.bytesOf]
  | k + 1, i, h => by
    have hi : i < s.data.toList.length := by rw [← Lib.size_eq]; omega
    rw [List.drop_eq_getElem_cons hi, List.take_succ_cons]
    have ih := bytesOf_seg s k (i + 1) (by omega)
    have e : Lib.bytesOf (bseg s i (k + 1)) = UInt8.ofNat (bt s i).toNat :: Lib.bytesOf (bseg s (i + 1) k) := rfl
    rw [e, ih]
    congr 1
    unfold bt
    rw [dif_pos (by omega)]
    simp
    rfl
theorem seg_extract (s : ByteArray) (i k : Nat) (h : i + k ≤ s.size) : s.extract i (i + k) = strOfNums (bseg s i k) := by
  apply ByteArray.ext
  apply Array.toList_inj.1
  rw [Lib.extract_data, strOfNums_data]
  have := bytesOf_seg s k i h
  rw [Lib.bytesOf] at this
  rw [this, show i + k - i = k from by omega]
theorem seg_take (s : ByteArray) (k : Nat) (h : k ≤ s.size) : s.extract 0 k = strOfNums (bseg s 0 k) := by
  have := seg_extract s 0 k (by omega)
  rwa [Nat.zero_add] at this
theorem seg_all (s : ByteArray) : s = strOfNums (bseg s 0 s.size) := by
  apply ByteArray.ext
  apply Array.toList_inj.1
  rw [strOfNums_data]
  have := bytesOf_seg s s.size 0 (by omega)
  rw [Lib.bytesOf] at this
  rw [this, List.drop_zero, List.take_of_length_le (by rw [← Lib.size_eq]; omega)]
theorem vb_bytes : ∀ (f : Nat) (n : Int), 0 ≤ n → n < 128 ^ (f + 1) → AreBytes (vb f n)
  | 0, n, h0, h1 => fun x hx => by simp at h1; simp [vb] at hx; omega
  | f + 1, n, h0, h1 => by
    by_cases h : n < 128
    · rw [vb_last _ _ h]
      intro x hx
      simp at hx
      omega
    · rw [vb_step _ _ (by omega)]
      have e : (128 : Int) ^ (f + 1 + 1) = 128 ^ (f + 1) * 128 := Int.pow_succ ..
      rw [e] at h1
      have ih := vb_bytes f (n / 128) (by omega) (by omega)
      intro x hx
      simp only [List.mem_cons] at hx
      rcases hx with rfl | hx
      · omega
      · exact ih x hx
theorem vb_bytes7 (n : Int) (h0 : 0 ≤ n) (h1 : n ≤ 562949953421311) : AreBytes (vb 7 n) :=
  vb_bytes 7 n h0 (by have : (128 : Int) ^ (7 + 1) = 72057594037927936 := by decide
                      omega)
end Go.Proofs.Ytdgfecjakmdheaa.Plain
/- Contracts of the drawing of inputs: a cursor over the code's bytes gives some byte, some number below a bound, some number, some short text; only the cursor's own block changes, and new blocks come. No conditions beyond those that each states. -/
namespace Go.Proofs.Ytdgfecjakmdheaa
open Go.ChangeShapes Go.WideShapes Go.ChangeAt Go.RowKit
open Go.ChangeMaps (open_string shut_string)
open Go.PlainAid Plain
set_option linter.unusedVariables false
namespace Cursor

theorem and255 (n : Int) : bits .and .i64 n 255 = n % 256 := by
  have h255 : (BitVec.ofInt 64 255).toNat = 2 ^ 8 - 1 := by decide
  have key : (BitVec.ofInt 64 n &&& BitVec.ofInt 64 255).toNat = (n % ((2 ^ 64 : Nat) : Int)).toNat % 2 ^ 8 := by
    rw [BitVec.toNat_and, BitVec.toNat_ofInt, h255, Nat.and_two_pow_sub_one_eq_mod]
  show IntKind.i64.wrap ((BitVec.ofInt 64 n &&& BitVec.ofInt 64 255).toNat : Nat) = n % 256
  rw [key, IntKind.wrap_i64]
  omega

/-- The code's bytes lie below block B. -/
def CodeIs (W : World) (B : Nat) (a : Option Addr) (len : Nat) : Prop :=
  len = 0 ∨ ∃ b off, a = some ⟨b, off, none⟩ ∧ b < B ∧ ∀ i, i < len → ∃ v : Int, 0 ≤ v ∧ v ≤ 255 ∧ W.cell? ⟨b, off + i, none⟩ = some (.int .u8 v)
/-- Block p is a cursor over them. -/
def CurIs (w : World) (p : Nat) (a : Option Addr) (len cap : Nat) : Prop :=
  ∃ i h : Int, 0 ≤ i ∧ i ≤ len ∧ w.heap[p]? = some (.cells #[.slice a len cap, .int .i64 i, .int .i64 h] 62 (0, 0))
def SomeInt (P : Int → Prop) (Q : World → Prop) (e : Ending) (w' : World) : Prop := ∃ n : Int, P n ∧ e = .returned (.int .i64 n) ∧ Q w'

theorem grown_setCell (w : World) (p j : Nat) (v : Value) : w.grownBy (w.setCell ⟨p, j, none⟩ v) (some p) :=
  ⟨rfl, rfl, rfl, by simp, fun k _ hk => heap_setCell_other w ⟨p, j, none⟩ k v (fun e => hk (by simp [e]))⟩
theorem grown_drewN {w w' : World} {r : Option Nat} (h : w.grownBy w' r) (n : Nat) : w.grownBy (w'.drewN n) r := ⟨h.os, h.tape, h.output, h.size, h.block⟩
theorem grown_drew {w w' : World} {r : Option Nat} (h : w.grownBy w' r) : w.grownBy w'.drew r := ⟨h.os, h.tape, h.output, h.size, h.block⟩
theorem grown_trans {w w1 w2 : World} {r : Option Nat} (h : w.grownBy w1 r) (k : w1.grownBy w2 r) : w.grownBy w2 r :=
  ⟨k.os.trans h.os, k.tape.trans h.tape, k.output.trans h.output, Nat.le_trans h.size k.size, fun i hi hne => (k.block i (Nat.lt_of_lt_of_le hi h.size) hne).trans (h.block i hi hne)⟩
theorem grown_none {w w' : World} (h : w.grownBy w' none) (r : Option Nat) : w.grownBy w' r := ⟨h.os, h.tape, h.output, h.size, fun k hk _ => h.block k hk (by simp)⟩

theorem byte (W w : World) (p : Nat) (a : Option Addr) (len cap : Nat) (hlen : len ≤ 1048576) (hcode : CodeIs W W.heap.size a len) (hb : Below W.heap.size W w) (hp : W.heap.size ≤ p) (hcur : CurIs w p a len cap) :
    Calls Try.prog 55 #[.pointer (some ⟨p, 0, none⟩)] w (SomeInt (fun x => 0 ≤ x ∧ x ≤ 255) (fun w' => w.grownBy w' (some p) ∧ CurIs w' p a len cap)) := by
  obtain ⟨i, h, hi0, hi1, hblk⟩ := hcur
  have hc0 : w.cell? ⟨p, 0, none⟩ = some (.slice a len cap) := by rw [cell_of_row w p 0 _ _ (0, 0) hblk]; rfl
  have hc1 : w.cell? ⟨p, 1, none⟩ = some (.int .i64 i) := by rw [cell_of_row w p 1 _ _ (0, 0) hblk]; rfl
  have hc2 : w.cell? ⟨p, 2, none⟩ = some (.int .i64 h) := by rw [cell_of_row w p 2 _ _ (0, 0) hblk]; rfl
  have hf1 : w.frozen? ⟨p, 1, none⟩ = false := frozen_of_row w p 1 _ _ hblk
  have hf2 : w.frozen? ⟨p, 2, none⟩ = false := frozen_of_row w p 2 _ _ hblk
  have ha := and255
  have HB := Lib.hid hblk
  clear hblk
  by_cases hlt : i < len
  · rcases hcode with hz | ⟨b, off, rfl, hbB, hcells⟩
    · omega
    · obtain ⟨k, rfl⟩ := Int.eq_ofNat_of_zero_le hi0
      obtain ⟨v, hv0, hv1, hcv⟩ := hcells k (by omega)
      have hcv' : w.cell? ⟨b, off + k, none⟩ = some (.int .u8 v) := (hb.cell (p := ⟨b, off + k, none⟩) hbB).trans hcv
      have hbp : b < p := by omega
      have hkl : k < len := by omega
      clear hcells hcv
      go_enter Try.func55, Try.ntmps55
      go_wp2
      go_quiet (fail)
      go_wp2
      go_quiet (fail)
      go_wp2
      go_quiet (fail)
      go_wp2
      go_ret
      refine ⟨_, ⟨?_, ?_⟩, rfl, ?_, (k : Int) + 1, _, by omega, by omega, heap_setCell_same _ p 1 _ _ _ (heap_setCell_same w p 2 _ _ _ HB.out)⟩
      · show 0 ≤ _ % 256
        omega
      · show _ % 256 ≤ 255
        omega
      · exact grown_trans (grown_drewN (grown_setCell _ _ _ _) _) (grown_setCell _ _ _ _)
  · go_enter Try.func55, Try.ntmps55
    go_wp2
    go_quiet (fail)
    go_wp2
    go_quiet (fail)
    go_wp2
    go_ret
    refine ⟨_, ⟨?_, ?_⟩, rfl, ?_, i, _, hi0, hi1, heap_setCell_same w p 2 _ _ _ HB.out⟩
    · show 0 ≤ _ % 256
      omega
    · show _ % 256 ≤ 255
      omega
    · repeat (first | exact grown_setCell _ _ _ _ | apply grown_drewN)

/-- What the callers of the cursor carry from world to world. -/
structure Stands (W w : World) (p : Nat) (a : Option Addr) (len cap : Nat) : Prop where
  below : Below W.heap.size W w
  own : W.heap.size ≤ p
  cur : CurIs w p a len cap
theorem Stands.lt {W w : World} {p : Nat} {a : Option Addr} {len cap : Nat} (h : Stands W w p a len cap) : p < w.heap.size := by
  obtain ⟨i, q, _, _, hb⟩ := h.cur
  exact (Array.getElem?_eq_some_iff.1 hb).1
theorem Stands.next {W w w' : World} {p : Nat} {a : Option Addr} {len cap : Nat} (h : Stands W w p a len cap) (hg : w.grownBy w' (some p)) (hc : CurIs w' p a len cap) : Stands W w' p a len cap :=
  ⟨h.below.grown hg h.below.size (fun k hk => by cases hk; exact h.own), h.own, hc⟩
/-- New blocks leave the cursor as it stands. -/
theorem Stands.alloc {W w : World} {p : Nat} {a : Option Addr} {len cap : Nat} (h : Stands W w p a len cap) (o : Obj) : Stands W (w.alloc o) p a len cap := by
  refine ⟨h.below.alloc h.below.size o, h.own, ?_⟩
  obtain ⟨i, q, h1, h2, hb⟩ := h.cur
  exact ⟨i, q, h1, h2, by rw [Below.heap_alloc w o p h.lt]; exact hb⟩

theorem below256 (W w : World) (p : Nat) (a : Option Addr) (len cap : Nat) (n : Int) (hn0 : 1 ≤ n) (hn1 : n ≤ 256) (hlen : len ≤ 1048576) (hcode : CodeIs W W.heap.size a len) (hs : Stands W w p a len cap) :
    Calls Try.prog 37 #[.pointer (some ⟨p, 0, none⟩), .int .i64 n] w (SomeInt (fun x => 0 ≤ x ∧ x < n) (fun w' => w.grownBy w' (some p) ∧ CurIs w' p a len cap)) := by
  have H := Lib.hid (byte W w p a len cap hlen hcode hs.below hs.own hs.cur)
  clear hcode hs
  go_enter Try.func37, Try.ntmps37
  go_wp2_with (go_at_call 55; refine H.out.mono ?_; rintro e w1 ⟨x, ⟨hx0, hx1⟩, rfl, hg, hc⟩)
  go_ret
  exact ⟨_, ⟨Int.emod_nonneg _ (by omega), Int.emod_lt_of_pos _ (by omega)⟩, rfl, hg, hc⟩
theorem belowBig (W w : World) (p : Nat) (a : Option Addr) (len cap : Nat) (n : Int) (hn0 : 257 ≤ n) (hn1 : n ≤ 9223372036854775807) (hlen : len ≤ 1048576) (hcode : CodeIs W W.heap.size a len) (hs : Stands W w p a len cap) :
    Calls Try.prog 37 #[.pointer (some ⟨p, 0, none⟩), .int .i64 n] w (SomeInt (fun x => 0 ≤ x ∧ x < n) (fun w' => w.grownBy w' (some p) ∧ CurIs w' p a len cap)) := by
  have H := Lib.hid (fun (w : World) (hs : Stands W w p a len cap) => byte W w p a len cap hlen hcode hs.below hs.own hs.cur)
  clear hcode
  go_enter Try.func37, Try.ntmps37
  go_wp2_with fail
  refine (H.out w hs).mono ?_
  rintro e w1 ⟨x, ⟨hx0, hx1⟩, rfl, hg1, hc1⟩
  have hs1 := hs.next hg1 hc1
  go_wp2_with fail
  refine (H.out w1 hs1).mono ?_
  rintro e w2 ⟨y, ⟨hy0, hy1⟩, rfl, hg2, hc2⟩
  have hs2 := hs1.next hg2 hc2
  go_wp2_with fail
  refine (H.out w2 hs2).mono ?_
  rintro e w3 ⟨z, ⟨hz0, hz1⟩, rfl, hg3, hc3⟩
  have hs3 := hs2.next hg3 hc3
  go_wp2_with fail
  refine (H.out w3 hs3).mono ?_
  rintro e w4 ⟨u, ⟨hu0, hu1⟩, rfl, hg4, hc4⟩
  go_wp2
  go_ret
  exact ⟨_, ⟨Int.emod_nonneg _ (by omega), Int.emod_lt_of_pos _ (by omega)⟩, rfl, grown_trans (grown_trans (grown_trans hg1 hg2) hg3) hg4, hc4⟩

theorem below (W w : World) (p : Nat) (a : Option Addr) (len cap : Nat) (n : Int) (hn0 : 1 ≤ n) (hn1 : n ≤ 9223372036854775807) (hlen : len ≤ 1048576) (hcode : CodeIs W W.heap.size a len) (hs : Stands W w p a len cap) :
    Calls Try.prog 37 #[.pointer (some ⟨p, 0, none⟩), .int .i64 n] w (SomeInt (fun x => 0 ≤ x ∧ x < n) (fun w' => w.grownBy w' (some p) ∧ CurIs w' p a len cap)) := by
  by_cases h : n ≤ 256
  · exact below256 W w p a len cap n hn0 h hlen hcode hs
  · exact belowBig W w p a len cap n (by omega) hn1 hlen hcode hs

/-- A list of numbers that lies in block q. -/
def ListIs (w : World) (q n : Nat) : Prop := ∀ j, j < n → ∃ v : Int, -9223372036854775808 ≤ v ∧ v ≤ 9223372036854775807 ∧ w.cell? ⟨q, j, none⟩ = some (.int .i64 v)
def I64 (n : Int) : Prop := -9223372036854775808 ≤ n ∧ n ≤ 9223372036854775807
theorem pickInt (W w : World) (p : Nat) (a : Option Addr) (len cap q n c : Nat) (hn : 1 ≤ n) (hn2 : n ≤ 256) (hq : q ≠ p) (hqs : q < w.heap.size) (hlist : ListIs w q n) (hlen : len ≤ 1048576) (hcode : CodeIs W W.heap.size a len) (hs : Stands W w p a len cap) :
    Calls Try.prog 46 #[.pointer (some ⟨p, 0, none⟩), .slice (some ⟨q, 0, none⟩) n c] w (SomeInt I64 (fun w' => w.grownBy w' (some p) ∧ CurIs w' p a len cap)) := by
  have H := Lib.hid (below W w p a len cap n (by omega) (by omega) hlen hcode hs)
  have HL := Lib.hid hlist
  clear hcode hs hlist
  go_enter Try.func46, Try.ntmps46
  go_wp2_with fail
  refine H.out.mono ?_
  rintro e w1 ⟨x, ⟨hx0, hx1⟩, rfl, hg, hc⟩
  obtain ⟨k, rfl⟩ := Int.eq_ofNat_of_zero_le hx0
  have hkn : k < n := by omega
  obtain ⟨v, hv0, hv1, hcv⟩ := HL.out k hkn
  have hcell : w1.cell? ⟨q, k, none⟩ = some (.int .i64 v) := hg.cell hcv (by simp [hq])
  have HV : Hid (I64 v) := ⟨hv0, hv1⟩
  clear hcv hv0 hv1
  go_wp2
  go_ret
  exact ⟨v, HV.out, rfl, hg, hc⟩
end Cursor
end Go.Proofs.Ytdgfecjakmdheaa
/- Contracts of the drawing of one chapter's inputs: a new cursor over the code, some number, some short text. No conditions beyond those that each states. -/
namespace Go.Proofs.Ytdgfecjakmdheaa
open Go.ChangeShapes Go.WideShapes Go.ChangeAt Go.RowKit
open Go.ChangeMaps (open_string shut_string)
open Go.PlainAid Plain
set_option linter.unusedVariables false
namespace Cursor
/-- What is written elsewhere leaves the cursor as it stands. -/
theorem Stands.other {W w w' : World} {p : Nat} {a : Option Addr} {len cap : Nat} (h : Stands W w p a len cap) {r : Option Nat} (hg : w.grownBy w' r) (hr : ∀ q, r = some q → q ≠ p ∧ W.heap.size ≤ q) : Stands W w' p a len cap := by
  refine ⟨h.below.grown hg h.below.size (fun k hk => (hr k hk).2), h.own, ?_⟩
  obtain ⟨i, q, h1, h2, hb⟩ := h.cur
  exact ⟨i, q, h1, h2, by rw [hg.block p h.lt (fun e => (hr p e.symm).1 rfl)]; exact hb⟩
theorem and30 (n : Int) : bits .and .i64 n 1073741823 = n % 1073741824 := by
  have h255 : (BitVec.ofInt 64 1073741823).toNat = 2 ^ 30 - 1 := by decide
  have key : (BitVec.ofInt 64 n &&& BitVec.ofInt 64 1073741823).toNat = (n % ((2 ^ 64 : Nat) : Int)).toNat % 2 ^ 30 := by
    rw [BitVec.toNat_and, BitVec.toNat_ofInt, h255, Nat.and_two_pow_sub_one_eq_mod]
  show IntKind.i64.wrap ((BitVec.ofInt 64 n &&& BitVec.ofInt 64 1073741823).toNat : Nat) = n % 1073741824
  rw [key, IntKind.wrap_i64]
  omega
def SomeCur (w : World) (a : Option Addr) (len cap : Nat) (e : Ending) (w' : World) : Prop := ∃ p, e = .returned (.pointer (some ⟨p, 0, none⟩)) ∧ w.heap.size ≤ p ∧ w.grownBy w' none ∧ CurIs w' p a len cap
set_option maxRecDepth 100000 in
theorem new (W w : World) (a : Option Addr) (len cap : Nat) (hlen : len ≤ 1048576) (hcode : CodeIs W W.heap.size a len) (hb : Below W.heap.size W w) :
    Calls Try.prog 24 #[.slice a len cap] w (SomeCur w a len cap) := by
  have ha := and30
  have HC := Lib.hid hcode
  go_enter Try.func24, Try.ntmps24
  go_wp2
  go_loop [3, 4] (fun h' i' => ∃ (h : Int) (i : Nat), 0 ≤ h ∧ h ≤ 1073741823 ∧ i ≤ len ∧ i ≤ 4000 ∧ h' = .int .i64 h ∧ i' = .int .i64 i) (fun _ i' => 4000 - (intOf i').toNat)
  case atStart => exact ⟨_, 0, by omega, by omega, by omega, by omega, rfl, rfl⟩
  case round =>
    clear hcode
    obtain ⟨h, i, hh0, hh1, hi, hi4, rfl, rfl⟩ := hrel
    by_cases hlt : i < len
    · by_cases h4 : i < 4000
      · rcases HC.out with hz | ⟨b, off, rfl, hbB, hcells⟩
        · omega
        · obtain ⟨v, hv0, hv1, hcv⟩ := hcells i hlt
          have hcv' : w.cell? ⟨b, off + i, none⟩ = some (.int .u8 v) := (hb.cell (p := ⟨b, off + i, none⟩) hbB).trans hcv
          have hd : decide (i < len) = true := decide_eq_true hlt
          clear hcells hcv
          go_wp2
          go_round
          case rel => exact ⟨_, i + 1, Int.emod_nonneg _ (by decide), by have := Int.emod_lt_of_pos (h * 131 + v + 7) (show (0 : Int) < 1073741824 by decide); omega, by omega, by omega, rfl, by go_num⟩
          case measure => simp [intOf]; omega
      · have hd : decide (i < len) = true := decide_eq_true hlt
        have hd2 : decide (i < 4000) = false := decide_eq_false h4
        go_wp2
        go_ret
        exact ⟨w.heap.size, rfl, Nat.le_refl _, World.grownBy_alloc w _ none, 0, h, by omega, by omega, heap_alloc_new w _⟩
    · have hd : decide (i < len) = false := decide_eq_false hlt
      go_wp2
      go_ret
      exact ⟨w.heap.size, rfl, Nat.le_refl _, World.grownBy_alloc w _ none, 0, h, by omega, by omega, heap_alloc_new w _⟩

/-- The numbers of which a draw picks one. -/
def picks : List Int := [-1, 0, 127, 128, 255, 256, 16383, 16384, 65535, 65536, 562949953421311, 562949953421312, 999999999, 1000000000, -999999999, 9223372036854775807, -9223372036854775808]
theorem picks_ok : ∀ v ∈ picks, I64 v := by unfold picks I64; simp
theorem picks_list (w : World) (T : TypeId) : ListIs (w.alloc (.cells (picks.map (Value.int .i64)).toArray T)) w.heap.size 17 := by
  intro j hj
  have hl : j < picks.length := by show j < 17; exact hj
  have := picks_ok picks[j] (List.getElem_mem hl)
  refine ⟨picks[j], this.1, this.2, ?_⟩
  rw [cell_of_row _ w.heap.size j _ T (0, 0) (heap_alloc_new w _)]
  simp [hl]

/-- Some text of at most n bytes. -/
def SomeText (n : Nat) (Q : World → Prop) (e : Ending) (w' : World) : Prop := ∃ s : ByteArray, s.size ≤ n ∧ e = .returned (.string s) ∧ Q w'
theorem info5 : (Try.prog.info? 5).map (fun i => (i.zero, i.size, i.bytes)) = some (some (.int .u8 0), 1, 1) := by kernel_rfl
end Cursor
end Go.Proofs.Ytdgfecjakmdheaa
/- What a sequence in the making keeps while a block of another moves (a cursor), and what a term written into one of its slices makes of it. No conditions beyond those that each fact states. -/
namespace Go.Proofs.Ytdgfecjakmdheaa.Plain
open Go.RowKit
set_option linter.unusedVariables false
section
variable {w w1 w2 : World} {c : Nat}
theorem grown_more {r : Option Nat} (h : w.grownBy w1 (some c)) (g : w1.grownBy w2 r) (hr : ∀ k, r = some k → k = c ∨ w.heap.size ≤ k) : w.grownBy w2 (some c) :=
  ⟨g.os.trans h.os, g.tape.trans h.tape, g.output.trans h.output, Nat.le_trans h.size g.size, fun k hk hn => by
    rw [g.block k (Nat.lt_of_lt_of_le hk h.size) (fun e => by
      rcases hr k e.symm with h1 | h1
      · exact hn (by rw [h1])
      · omega)]
    exact h.block k hk hn⟩
theorem grown_fresh (w : World) (o : Obj) : w.grownBy (w.alloc o) none := grown_of_below ((Below.refl _ _).alloc (Nat.le_refl _) o)
theorem grown_new (h : w.grownBy w1 (some c)) (o : Obj) : w.grownBy (w1.alloc o) (some c) := grown_more h (grown_fresh w1 o) (fun k hk => by cases hk)
theorem grown_set (h : w.grownBy w1 (some c)) {q j : Nat} (hq : w.heap.size ≤ q) (v : Value) : w.grownBy (w1.setCell ⟨q, j, none⟩ v) (some c) :=
  grown_more h (Cursor.grown_setCell w1 q j v) (fun k hk => by cases hk; exact .inr hq)
theorem grown_self (w : World) (c : Nat) : w.grownBy w (some c) := ⟨rfl, rfl, rfl, Nat.le_refl _, fun k _ _ => rfl⟩
end
theorem OwnRows.moved {w w' : World} {lo hi c : Nat} {us : List Value} {rows : List (List Int)} (h : OwnRows w lo hi us rows) (hg : w.grownBy w' (some c)) (hc : c < lo) : OwnRows w' lo hi us rows :=
  ⟨h.len, fun i u r a b => (h.row i u r a b).grown hg (fun k hk => by cases hk; exact .inl hc), h.apart⟩
theorem Has.moved {α : Type} {enc : α → Value} {e : TypeId} {w w' : World} {base c : Nat} {v : Value} {xs : List α} (h : Has enc e w base v xs) (hg : w.grownBy w' (some c)) (hc : c < base) : Has enc e w' base v xs :=
  h.grown hg (by
    cases hv : v.ownBlock with
    | none => exact .inl rfl
    | some q => exact .inr (fun e => by have := (h.lt q hv).1; cases e; omega))
section
variable {w w' : World} {base hi p c : Nat} {b : Int} {vn vo eo ro : Value} {us : List Value} {rows : List (List Int)} {out ed r : List Int}
theorem Making.moved (h : Making w base hi p b vn vo eo us rows out ed) (hg : w.grownBy w' (some c)) (hc : c < base) (hp : c ≠ p) : Making w' base hi p b vn vo eo us rows out ed :=
  ⟨h.top.moved hg hc, h.fam.moved hg hc, h.cells.grown hg (by simpa using hp), h.lo, Nat.le_trans h.le hg.size⟩
theorem Rowing.moved (h : Rowing w base hi p b vn vo eo ro us rows out ed r) (hg : w.grownBy w' (some c)) (hc : c < base) (hp : c ≠ p) : Rowing w' base hi p b vn vo eo ro us rows out ed r :=
  ⟨h.top.moved hg hc, h.fam.moved hg hc, h.cells.grown hg (by simpa using hp), h.lo, Nat.le_trans h.le hg.size⟩
end
end Go.Proofs.Ytdgfecjakmdheaa.Plain
/- Contracts of the draws of the first chapter's law: some number, some short text, some number and width. No conditions beyond those that each states. -/
namespace Go.Proofs.Ytdgfecjakmdheaa
open Go.ChangeShapes Go.WideShapes Go.ChangeAt Go.RowKit
open Go.ChangeMaps (open_string shut_string)
open Go.PlainAid Plain
set_option linter.unusedVariables false
namespace Cursor
def SomePair (P : Int → Int → Prop) (Q : World → Prop) (e : Ending) (w' : World) : Prop := ∃ n m : Int, P n m ∧ e = .returned (.tuple #[.int .i64 n, .int .i64 m]) ∧ Q w'
theorem new_stands {W w w' : World} {p : Nat} {a : Option Addr} {len cap : Nat} (hb : Below W.heap.size W w) (hp : w.heap.size ≤ p) (hg : w.grownBy w' none) (hc : CurIs w' p a len cap) : Stands W w' p a len cap :=
  ⟨hb.grown hg hb.size (fun k hk => by cases hk), Nat.le_trans hb.size hp, hc⟩
theorem big_no (w : World) (a : Option Addr) (len cap : Nat) (h : len ≤ 1048576) :
    Calls Try.prog 4 #[.slice a len cap] w fun e w' => e = .returned (.bool false) ∧ w = w' := by
  have hd : decide (1048576 < len) = false := decide_eq_false (by omega)
  go_enter Try.func4, Try.ntmps4
  go_wp2
  go_ret
  exact ⟨by simp; omega, rfl⟩
theorem big_yes (w : World) (a : Option Addr) (len cap : Nat) (h : 1048576 < len) :
    Calls Try.prog 4 #[.slice a len cap] w fun e w' => e = .returned (.bool true) ∧ w = w' := by
  go_enter Try.func4, Try.ntmps4
  go_wp2
  go_ret
  exact ⟨by simp; omega, rfl⟩
end Cursor
end Go.Proofs.Ytdgfecjakmdheaa
/- Contracts of the draws of chapter 2: some number and base, some short list of digits. No conditions beyond those that each states. -/
namespace Go.Proofs.Ytdgfecjakmdheaa
open Go.ChangeShapes Go.WideShapes Go.ChangeAt Go.RowKit
open Go.PlainAid Plain
set_option linter.unusedVariables false
namespace Cursor
open Ints Digits
theorem code_next {w w1 : World} {a : Option Addr} {len : Nat} (h : CodeIs w w.heap.size a len) (hb : Below w.heap.size w w1) : CodeIs w1 w1.heap.size a len :=
  h.imp id fun ⟨b, off, ha, hlt, hc⟩ => ⟨b, off, ha, Nat.lt_of_lt_of_le hlt hb.size, fun i hi => by
    obtain ⟨v, h0, h1, hv⟩ := hc i hi
    exact ⟨v, h0, h1, (hb.cell (p := ⟨b, off + i, none⟩) hlt).trans hv⟩⟩
def SomeBool (Q : World → Prop) (e : Ending) (w' : World) : Prop := ∃ t : Bool, e = .returned (.bool t) ∧ Q w'
/-- Some list of ints, the call's own. -/
def SomeList (P : List Int → Prop) (w : World) (Q : World → Prop) (e : Ending) (w' : World) : Prop := ∃ v xs, P xs ∧ e = .returned v ∧ Has (Value.int .i64) 3 w' w.heap.size v xs ∧ Q w'
def SomeListInt (P : List Int → Int → Prop) (w : World) (Q : World → Prop) (e : Ending) (w' : World) : Prop := ∃ v xs, ∃ n : Int, P xs n ∧ e = .returned (.tuple #[v, .int .i64 n]) ∧ Has (Value.int .i64) 3 w' w.heap.size v xs ∧ Q w'
theorem once (W w : World) (p : Nat) (a : Option Addr) (len cap : Nat) (n : Int) (hn0 : 1 ≤ n) (hn1 : n ≤ 9223372036854775807) (hlen : len ≤ 1048576) (hcode : CodeIs W W.heap.size a len) (hs : Stands W w p a len cap) :
    Calls Try.prog 62 #[.pointer (some ⟨p, 0, none⟩), .int .i64 n] w (SomeBool (fun w' => w.grownBy w' (some p) ∧ CurIs w' p a len cap)) := by
  have H := Lib.hid (below W w p a len cap n hn0 hn1 hlen hcode hs)
  clear hcode hs
  go_enter Try.func62, Try.ntmps62
  go_wp2_with fail
  refine H.out.mono ?_
  rintro e w1 ⟨x, ⟨hx0, hx1⟩, rfl, hg, hc⟩
  go_wp2
  go_ret
  exact ⟨_, rfl, hg, hc⟩
theorem list_lit (w : World) (xs : List Int) (T : TypeId) (h : ∀ x ∈ xs, I64 x) : ListIs (w.alloc (.cells (xs.map (Value.int .i64)).toArray T)) w.heap.size xs.length := by
  intro j hj
  have := h xs[j] (List.getElem_mem hj)
  refine ⟨xs[j], this.1, this.2, ?_⟩
  rw [cell_of_row _ w.heap.size j _ T (0, 0) (heap_alloc_new w _)]
  simp [hj]
/-- The numbers of which l2Number picks one. -/
def nums2 : List Int := [-1, 65535, 65536, 4294967295, 4294967296, 9223372036854775807]
theorem nums2_ok : ∀ v ∈ nums2, I64 v := by unfold nums2 I64; simp
def nums3 : List Int := [-1, 4]
theorem nums3_ok : ∀ v ∈ nums3, I64 v := by unfold nums3 I64; simp
theorem number2 (W w : World) (p : Nat) (a : Option Addr) (len cap : Nat) (hlen : len ≤ 1048576) (hcode : CodeIs W W.heap.size a len) (hs : Stands W w p a len cap) :
    Calls Try.prog 43 #[.pointer (some ⟨p, 0, none⟩)] w (SomeInt I64 (fun w' => Stands W w' p a len cap)) := by
  have HO := Lib.hid (once W w p a len cap 10 (by decide) (by decide) hlen hcode hs)
  have HB := Lib.hid (fun (w : World) (n : Int) (hn0 : 1 ≤ n) (hn1 : n ≤ 9223372036854775807) (hs : Stands W w p a len cap) => below W w p a len cap n hn0 hn1 hlen hcode hs)
  have HP := Lib.hid (fun (w : World) (q : Nat) (hq : q ≠ p) (hqs : q < w.heap.size) (hl : ListIs w q 6) (hs : Stands W w p a len cap) => pickInt W w p a len cap q 6 6 (by decide) (by decide) hq hqs hl hlen hcode hs)
  clear hcode
  go_enter Try.func43, Try.ntmps43
  go_wp2_with fail
  refine HO.out.mono ?_
  rintro e w1 ⟨t, rfl, hg1, hc1⟩
  have hs1 := hs.next hg1 hc1
  clear hg1 hc1
  cases t with
  | true =>
    go_wp2_with fail
    have hlt := hs1.lt
    refine (HP.out _ w1.heap.size (by omega) (by simp) (list_lit w1 nums2 _ nums2_ok) (hs1.alloc _)).mono ?_
    rintro e w2 ⟨y, hy, rfl, hg2, hc2⟩
    have hs2 := (hs1.alloc _).next hg2 hc2
    have HY := Lib.hid hy
    clear hy
    go_wp2
    go_ret
    exact ⟨_, HY.out, rfl, hs2⟩
  | false =>
    go_wp2_with fail
    refine (HB.out w1 300 (by decide) (by decide) hs1).mono ?_
    rintro e w2 ⟨y, ⟨hy0, hy1⟩, rfl, hg2, hc2⟩
    have hs2 := hs1.next hg2 hc2
    go_wp2
    go_ret
    exact ⟨_, ⟨by omega, by omega⟩, rfl, hs2⟩
theorem grown_below {w w' : World} {p B : Nat} (h : w.grownBy w' (some p)) (hp : B ≤ p) (hB : B ≤ w.heap.size) : Below B w w' := (Below.refl B w).grown h hB (fun k hk => by cases hk; exact hp)
end Cursor
end Go.Proofs.Ytdgfecjakmdheaa
/- Contracts of the drawing of sequences: some sequence of few states, the call's own; only the cursor's block changes, and new blocks come. No conditions beyond those that each states. -/
namespace Go.Proofs.Ytdgfecjakmdheaa
open Go.ChangeShapes Go.WideShapes Go.ChangeAt Go.RowKit
open Go.PlainAid Plain
set_option linter.unusedVariables false
namespace Cursor
open Ints Digits
/-- A sequence as the drawing makes it: at least one state, no empty row, few and short rows. -/
def SeqOk (rows : List (List Int)) (out : List Int) : Prop := 1 ≤ rows.length ∧ rows.length ≤ 16 ∧ out.length = rows.length ∧ ∀ r ∈ rows, 1 ≤ r.length ∧ r.length ≤ 4
def SomeSeq (w : World) (Q : World → Prop) (e : Ending) (w' : World) : Prop := ∃ v b rows out, SeqOk rows out ∧ e = .returned v ∧ OwnS w' w.heap.size w'.heap.size v b rows out ∧ Q w'
theorem Stands.drew {W w : World} {p : Nat} {a : Option Addr} {len cap : Nat} (h : Stands W w p a len cap) : Stands W w.drew p a len cap :=
  h.other (r := none) (Plain.grown_of_below (below_drew' w)) (fun q hq => by cases hq)
set_option maxRecDepth 100000 in
set_option maxHeartbeats 4000000 in
theorem random (W w : World) (c : Nat) (a : Option Addr) (len cap b n : Nat) (hb1 : 1 ≤ b) (hb4 : b ≤ 4) (hn1 : 1 ≤ n) (hn16 : n ≤ 16) (hlen : len ≤ 1048576) (hcode : CodeIs W W.heap.size a len) (hs : Stands W w c a len cap) :
    Calls Try.prog 65 #[.pointer (some ⟨c, 0, none⟩), .int .i64 b, .int .i64 n] w (SomeSeq w (fun w' => w.grownBy w' (some c) ∧ CurIs w' c a len cap)) := by
  obtain ⟨i0, hi0, hz0, hz1, hz2⟩ := info_parts Ints.infoI
  obtain ⟨i2, hi2, hz20, hz21, hz22⟩ := info_parts Seqs.infoR
  have HO := Lib.hid (fun (w : World) (hs : Stands W w c a len cap) => once W w c a len cap 2 (by decide) (by decide) hlen hcode hs)
  have HB := Lib.hid (fun (w : World) (n : Int) (hn0 : 1 ≤ n) (hn1 : n ≤ 9223372036854775807) (hs : Stands W w c a len cap) => below W w c a len cap n hn0 hn1 hlen hcode hs)
  have hcw := hs.lt
  have hown := hs.own
  have hZ0 := (Cells3.new w 27 (.int .i64 0) (.slice none 0 0) (.slice none 0 0)).alloc (Obj.cells #[Value.int .i64 (b : Int), Value.slice none 0 0, Value.slice none 0 0] 27)
  have hP := Cells3.new (w.alloc (Obj.cells #[Value.int .i64 0, Value.slice none 0 0, Value.slice none 0 0] 27)) 27 (.int .i64 (b : Int)) (.slice none 0 0) (.slice none 0 0)
  rw [size_alloc'] at hP
  have hG0 : w.grownBy ((w.alloc (Obj.cells #[Value.int .i64 0, Value.slice none 0 0, Value.slice none 0 0] 27)).alloc (Obj.cells #[Value.int .i64 (b : Int), Value.slice none 0 0, Value.slice none 0 0] 27)) (some c) := grown_new (grown_new (grown_self w c) _) _
  have hS : Hid (Stands W ((w.alloc (Obj.cells #[Value.int .i64 0, Value.slice none 0 0, Value.slice none 0 0] 27)).alloc (Obj.cells #[Value.int .i64 (b : Int), Value.slice none 0 0, Value.slice none 0 0] 27)) c a len cap) := (hs.alloc (Obj.cells #[Value.int .i64 0, Value.slice none 0 0, Value.slice none 0 0] 27)).alloc (Obj.cells #[Value.int .i64 (b : Int), Value.slice none 0 0, Value.slice none 0 0] 27)
  have hM : Hid (Making ((w.alloc (Obj.cells #[Value.int .i64 0, Value.slice none 0 0, Value.slice none 0 0] 27)).alloc (Obj.cells #[Value.int .i64 (b : Int), Value.slice none 0 0, Value.slice none 0 0] 27)) (w.heap.size + 2) ((w.alloc (Obj.cells #[Value.int .i64 0, Value.slice none 0 0, Value.slice none 0 0] 27)).alloc (Obj.cells #[Value.int .i64 (b : Int), Value.slice none 0 0, Value.slice none 0 0] 27)).heap.size (w.heap.size + 1) (b : Int) (.slice none 0 0) (.slice none 0 0) (.slice none 0 0) [] [] [] []) :=
    Making.start hP (World.ownsRow_nil _ _ _ _) (by rw [size_alloc', size_alloc']; exact Nat.le_refl _)
  have hZ : Hid (Cells3 ((w.alloc (Obj.cells #[Value.int .i64 0, Value.slice none 0 0, Value.slice none 0 0] 27)).alloc (Obj.cells #[Value.int .i64 (b : Int), Value.slice none 0 0, Value.slice none 0 0] 27)) w.heap.size 27 (.int .i64 0) (.slice none 0 0) (.slice none 0 0)) := hZ0
  have hG : Hid (w.grownBy ((w.alloc (Obj.cells #[Value.int .i64 0, Value.slice none 0 0, Value.slice none 0 0] 27)).alloc (Obj.cells #[Value.int .i64 (b : Int), Value.slice none 0 0, Value.slice none 0 0] 27)) (some c)) := hG0
  clear hcode hs hP hZ0 hG0
  obtain ⟨z, hz⟩ : ∃ z, z = w.heap.size := ⟨_, rfl⟩
  obtain ⟨p, hp⟩ : ∃ z, z = w.heap.size + 1 := ⟨_, rfl⟩
  obtain ⟨BB, hBB⟩ : ∃ z, z = w.heap.size + 2 := ⟨_, rfl⟩
  have HNUM := Lib.hid (show c < z ∧ z < p ∧ p < BB ∧ W.heap.size ≤ c ∧ z = w.heap.size ∧ BB = w.heap.size + 2 from by omega)
  rw [← hp, ← hBB] at hM
  rw [← hz] at hZ
  clear hcw hown
  go_enter Try.func65, Try.ntmps65
  go_wp2_with fail
  rw [← hp]
  clear hz hp hBB
  go_loopw [8] (fun i' wr => ∃ (i : Nat) (vn vo : Value) (us : List Value) (rows : List (List Int)) (out : List Int) (hi : Nat), i ≤ n ∧ i' = .int .i64 i ∧ Hid (rows.length = i ∧ out.length = i ∧ ∀ r ∈ rows, r.length = b) ∧ Hid (Making wr BB hi p (b : Int) vn vo (.slice none 0 0) us rows out []) ∧ Hid (Cells3 wr z 27 (.int .i64 0) (.slice none 0 0) (.slice none 0 0)) ∧ Hid (w.grownBy wr (some c)) ∧ Hid (Stands W wr c a len cap)) (fun i' _ => n - (intOf i').toNat)
  case atStart => exact ⟨0, _, _, [], [], [], _, Nat.zero_le _, rfl, ⟨rfl, rfl, fun r hr => by cases hr⟩, hM, hZ, hG, hS⟩
  case round =>
    clear hM hZ hG hS
    obtain ⟨i, vn, vo, us, rows, out, hi, hin, rfl, hL, hM, hZ, hG, hS⟩ := hrel
    obtain ⟨W6, rfl⟩ : ∃ W : World, W = wr := ⟨_, rfl⟩
    by_cases hlt : i < n
    case neg =>
      obtain rfl : n = i := by omega
      go_wp2_with fail
      refine (HO.out _ hS.out).mono ?_
      rintro e W7 ⟨t, rfl, g7, c7⟩
      have HM7 := Lib.hid (hM.out.moved g7 (by have := HNUM.out; omega) (by have := HNUM.out; omega))
      have hz7 := hZ.out.grown g7 (by have := HNUM.out; simp; omega)
      rw [show z = w.heap.size from HNUM.out.2.2.2.2.1] at hz7
      have HZ7 := Lib.hid hz7
      have HG7 := Lib.hid (grown_more hG.out g7 (fun k hk => .inl (Option.some.inj hk).symm))
      have HS7 := Lib.hid (hS.out.next g7 c7)
      clear hM hZ hG hS g7 c7 hz7
      have hcw : w.heap.size < p := by have := HNUM.out; omega
      have hcb : w.heap.size < BB := by have := HNUM.out; omega
      have hcW : W.heap.size ≤ w.heap.size := by have := HNUM.out; omega
      have hcc : w.heap.size ≠ c := by have := HNUM.out; omega
      have HOK : Hid (SeqOk rows out) := ⟨by rw [hL.out.1]; exact hn1, by rw [hL.out.1]; exact hn16, by rw [hL.out.1, hL.out.2.1], fun q hq => by rw [hL.out.2.2 q hq]; exact ⟨hb1, hb4⟩⟩
      obtain ⟨na, nc, oa, oc, hvn, hvo⟩ := HM7.out.form
      rw [hL.out.1] at hvn
      rw [hL.out.2.1] at hvo
      subst hvn; subst hvo
      cases t with
      | false =>
        have HBD := Lib.hid HM7.out.building
        clear HM7
        have HW := Lib.hid HBD.out.seq
        have m0 := HBD.out.cells.c0
        have m1 := HBD.out.cells.c1
        have m2 := HBD.out.cells.c2
        have z0 := HZ7.out.c0
        have z1 := HZ7.out.c1
        have z2 := HZ7.out.c2
        have z3 := HZ7.out.f
        clear HBD
        go_wp2
        have hZ3 := (((HZ7.out.set0 (.int .i64 (b : Int))).set1 (.slice na n nc)).set2 (.slice oa n oc))
        have n0 := hZ3.c0
        have n1 := hZ3.c1
        have n2 := hZ3.c2
        refine bodyPost_ret (v := .agg #[.int .i64 (b : Int), .slice na n nc, .slice oa n oc]) (by simp [results, Try.results65, go_sem, n0, n1, n2]) rfl ⟨_, (b : Int), _, _, HOK.out, rfl, ?_, ?_, ?_⟩
        · have T0 : Plain.Touch w.heap.size (w.heap.size + 1) W7 (((W7.setCell ⟨w.heap.size, 0, none⟩ (.int .i64 (b : Int))).setCell ⟨w.heap.size, 1, none⟩ (.slice na n nc)).setCell ⟨w.heap.size, 2, none⟩ (.slice oa n oc)) :=
            ((Plain.Touch.of_set _ (by show w.heap.size ≤ w.heap.size; exact Nat.le_refl _) (by show w.heap.size < w.heap.size + 1; omega)).trans (Plain.Touch.of_set _ (by show w.heap.size ≤ w.heap.size; exact Nat.le_refl _) (by show w.heap.size < w.heap.size + 1; omega))).trans (Plain.Touch.of_set _ (by show w.heap.size ≤ w.heap.size; exact Nat.le_refl _) (by show w.heap.size < w.heap.size + 1; omega))
          have := (HW.out.touch T0 (.inr (by omega))).lower (show w.heap.size ≤ BB by omega)
          simpa only [size_setCell'] using this
        · exact grown_set (grown_set (grown_set HG7.out (Nat.le_refl _) _) (Nat.le_refl _) _) (Nat.le_refl _) _
        · exact (((HS7.out.other (Cursor.grown_setCell _ w.heap.size 0 _) (fun k hk => by cases hk; exact ⟨hcc, hcW⟩)).other (Cursor.grown_setCell _ w.heap.size 1 _) (fun k hk => by cases hk; exact ⟨hcc, hcW⟩)).other (Cursor.grown_setCell _ w.heap.size 2 _) (fun k hk => by cases hk; exact ⟨hcc, hcW⟩)).cur
      | true =>
        obtain ⟨u0, hu0⟩ : ∃ u, us[0]? = some u := ⟨_, List.getElem?_eq_getElem (by rw [HM7.out.len, hL.out.1]; omega)⟩
        obtain ⟨r0, hr0⟩ : ∃ r, rows[0]? = some r := ⟨_, List.getElem?_eq_getElem (by rw [hL.out.1]; omega)⟩
        have hI : OwnI W7 BB hi u0 r0 := HM7.out.fam.row 2 u0 r0 hu0 hr0
        have hl0 := hL.out.2.2 r0 (List.mem_of_getElem? hr0)
        obtain ⟨g, cc, hgu, hgb, hgl⟩ := own_at hI.has (by omega)
        rw [hl0] at hgu
        subst hgu
        have h0 : W7.ownsRow BB 3 1 (.slice (some ⟨g, 0, none⟩) b cc) b (r0.map (Value.int .i64)) := by
          have := hI.has
          unfold Has at this
          rw [hl0] at this
          exact this
        have y1 := h0.frozenAt 0
        obtain ⟨yy, y3⟩ : ∃ yy, W7.cell? ⟨g, 0, none⟩ = some yy := by
          have y3 := h0.cellAt 0 (by omega)
          rw [List.getElem?_map, List.getElem?_eq_getElem (by omega), Option.map_some] at y3
          exact ⟨_, y3⟩
        have hg3 : g ≠ p := fun e => has_ne_c3 hI.has HM7.out.cells (by decide) (by rw [← e]; rfl)
        have hg4 : g ≠ w.heap.size := fun e => has_ne_c3 hI.has HZ7.out (by decide) (by rw [← e]; rfl)
        obtain ⟨_, ta, tc, htv, _, hct⟩ := HM7.out.top.lies
        obtain ⟨tq, ts, hta, y2⟩ := hct 0 _ hu0
        have hna : na = some ⟨tq, ts, none⟩ := by
          injection htv with h1
          rw [h1, hta]
        subst hna
        have y2' : W7.cell? ⟨tq, ts, none⟩ = some (.slice (some ⟨g, 0, none⟩) b cc) := y2
        have y0 := HM7.out.cells.c1
        have HBD := Lib.hid (HM7.out.building.write hu0 hr0 0 0)
        have HZ8 := Lib.hid (HZ7.out.other (a := ⟨g, 0, none⟩) hg4 (.int .i64 0))
        have HG8 : Hid (w.grownBy (W7.setCell ⟨g, 0, none⟩ (.int .i64 0)) (some c)) := grown_set HG7.out (by omega) _
        have HS8 : Hid (Stands W (W7.setCell ⟨g, 0, none⟩ (.int .i64 0)) c a len cap) := HS7.out.other (Cursor.grown_setCell W7 g 0 _) (fun k hk => by cases hk; have := HNUM.out; omega)
        have HOK2 : Hid (SeqOk (rows.set 0 (r0.set 0 0)) out) := by
          refine ⟨by rw [List.length_set]; exact HOK.out.1, by rw [List.length_set]; exact HOK.out.2.1, by rw [List.length_set]; exact HOK.out.2.2.1, fun q hq => ?_⟩
          rcases List.mem_or_eq_of_mem_set hq with h1 | h1
          · exact HOK.out.2.2.2 q h1
          · rw [h1, List.length_set, hl0]; exact ⟨hb1, hb4⟩
        have hn0 : 0 < n := hn1
        have hb0 : 0 < b := hb1
        clear hta htv hct hu0 hr0 hI hl0 hgb hgl h0 HM7 HZ7 HG7 HS7 HOK y2
        have HW := Lib.hid HBD.out.seq
        have m0 := HBD.out.cells.c0
        have m1 := HBD.out.cells.c1
        have m2 := HBD.out.cells.c2
        have z0 := HZ8.out.c0
        have z1 := HZ8.out.c1
        have z2 := HZ8.out.c2
        have z3 := HZ8.out.f
        clear HBD
        go_wp2
        have hZ3 := (((HZ8.out.set0 (.int .i64 (b : Int))).set1 (.slice (some ⟨tq, ts, none⟩) n nc)).set2 (.slice oa n oc))
        have n0 := hZ3.c0
        have n1 := hZ3.c1
        have n2 := hZ3.c2
        refine bodyPost_ret (v := .agg #[.int .i64 (b : Int), .slice (some ⟨tq, ts, none⟩) n nc, .slice oa n oc]) (by simp [results, Try.results65, go_sem, n0, n1, n2]) rfl ⟨_, (b : Int), _, _, HOK2.out, rfl, ?_, ?_, ?_⟩
        · have T0 : Plain.Touch w.heap.size (w.heap.size + 1) (W7.setCell ⟨g, 0, none⟩ (.int .i64 0)) ((((W7.setCell ⟨g, 0, none⟩ (.int .i64 0)).setCell ⟨w.heap.size, 0, none⟩ (.int .i64 (b : Int))).setCell ⟨w.heap.size, 1, none⟩ (.slice (some ⟨tq, ts, none⟩) n nc)).setCell ⟨w.heap.size, 2, none⟩ (.slice oa n oc)) :=
            ((Plain.Touch.of_set _ (by show w.heap.size ≤ w.heap.size; exact Nat.le_refl _) (by show w.heap.size < w.heap.size + 1; omega)).trans (Plain.Touch.of_set _ (by show w.heap.size ≤ w.heap.size; exact Nat.le_refl _) (by show w.heap.size < w.heap.size + 1; omega))).trans (Plain.Touch.of_set _ (by show w.heap.size ≤ w.heap.size; exact Nat.le_refl _) (by show w.heap.size < w.heap.size + 1; omega))
          have := (HW.out.touch T0 (.inr (by omega))).lower (show w.heap.size ≤ BB by omega)
          simpa only [size_setCell'] using this
        · exact grown_set (grown_set (grown_set HG8.out (Nat.le_refl _) _) (Nat.le_refl _) _) (Nat.le_refl _) _
        · exact (((HS8.out.other (Cursor.grown_setCell _ w.heap.size 0 _) (fun k hk => by cases hk; exact ⟨hcc, hcW⟩)).other (Cursor.grown_setCell _ w.heap.size 1 _) (fun k hk => by cases hk; exact ⟨hcc, hcW⟩)).other (Cursor.grown_setCell _ w.heap.size 2 _) (fun k hk => by cases hk; exact ⟨hcc, hcW⟩)).cur
    case pos =>
      obtain ⟨na, nc, oa, oc, hvn, hvo⟩ := hM.out.form
      rw [hL.out.1] at hvn
      rw [hL.out.2.1] at hvo
      subst hvn; subst hvo
      have hb7 : Below W6.heap.size W6 (W6.alloc (.cells #[] 3)) := (Below.refl _ _).alloc (Nat.le_refl _) _
      have hRG : Hid (Rowing (W6.alloc (.cells #[] 3)) BB (W6.alloc (.cells #[] 3)).heap.size p (b : Int) (.slice na i nc) (.slice oa i oc) (.slice none 0 0) (.slice (some ⟨W6.heap.size, 0, none⟩) 0 0) us rows out [] []) :=
        hM.out.begin hb7 (has_lit0 (enc := Value.int .i64) rfl (Nat.le_refl _))
      have hZ7 := Lib.hid (hZ.out.below hb7)
      have hG7 := Lib.hid (grown_new hG.out (.cells #[] 3))
      have hS7 := Lib.hid (hS.out.alloc (.cells #[] 3))
      clear hM hZ hG hS hb7
      go_wp2_with fail
      go_loopw [9, 10] (fun r' k' wr => ∃ (k : Nat) (r : List Int) (hi' : Nat), k ≤ b ∧ k' = .int .i64 k ∧ Hid (r.length = k) ∧ Hid (Rowing wr BB hi' p (b : Int) (.slice na i nc) (.slice oa i oc) (.slice none 0 0) r' us rows out [] r) ∧ Hid (Cells3 wr z 27 (.int .i64 0) (.slice none 0 0) (.slice none 0 0)) ∧ Hid (w.grownBy wr (some c)) ∧ Hid (Stands W wr c a len cap)) (fun _ k' _ => b - (intOf k').toNat)
      case atStart => exact ⟨0, [], _, Nat.zero_le _, rfl, rfl, hRG, hZ7, hG7, hS7⟩
      case round =>
        clear hRG hZ7 hG7 hS7
        obtain ⟨k, r, hi', hkb, rfl, hRL, hRG, hZ, hG, hS⟩ := hrel
        obtain ⟨W8, rfl⟩ : ∃ W : World, W = wr := ⟨_, rfl⟩
        obtain ⟨ra, rc, hr9, _⟩ := hRG.out.row_.has.form
        rw [hRL.out] at hr9
        subst hr9
        by_cases hlk : k < b
        case pos =>
          have hn0 : (1 : Int) ≤ (n : Int) := by omega
          go_wp2_with fail
          refine (HB.out _ n hn0 (by omega) hS.out).mono ?_
          rintro e W9 ⟨x, hx, rfl, g9, c9⟩
          have HR9 := Lib.hid (hRG.out.moved g9 (by have := HNUM.out; omega) (by have := HNUM.out; omega))
          have HZ9 := Lib.hid (hZ.out.grown g9 (by have := HNUM.out; simp; omega))
          have HG9 := Lib.hid (grown_more hG.out g9 (fun k hk => .inl (Option.some.inj hk).symm))
          have HS9 := Lib.hid (hS.out.next g9 c9)
          have HLE := Lib.hid (show BB ≤ W9.heap.size from Nat.le_trans HR9.out.lo HR9.out.le)
          clear hRG hZ hG hS hx g9 c9
          go_wp2_with (at_builtin; refine wpList_append_list (enc := Value.int .i64) (e := 3) rfl (.tmp 24) (.tmp 28) 25 rfl BB i0 (.int .i64 0) 8 Try.underlying25 hi0 hz0 hz1 hz2 rfl (.slice ra k rc) r rfl (has_alloc HR9.out.row_.has _) (.slice (some ⟨W9.heap.size, 0, none⟩) 1 1) [x] rfl (lies_lit1 (enc := Value.int .i64) _ rfl) (fun _ _ => rfl) (by rw [hRL.out]; simp only [List.length_cons, List.length_nil]; omega) (by rw [hRL.out]; simp only [List.length_cons, List.length_nil]; omega) (by have := HLE.out; simp; omega) ?_; intro v9 w9 hv9 hg9 hb9; have hg9' := grown_alloc hg9)
          have HR10 := Lib.hid (HR9.out.grow hv9 hg9' (fun k hk => (hb9 k hk).imp id (fun h => by simp at h; omega)))
          have hlo : ∀ k, (Value.slice ra k rc).ownBlock = some k → True := fun _ _ => trivial
          have HZ10 := Lib.hid (HZ9.out.grown hg9' (has_ne_c3 HR9.out.row_.has HZ9.out (by decide)))
          have HG10 := Lib.hid (grown_more HG9.out hg9' (fun k hk => .inr (by have := (HR9.out.row_.has.lt k hk).1; have := HNUM.out; omega)))
          have HS10 := Lib.hid (HS9.out.other hg9' (fun k hk => by have := (HR9.out.row_.has.lt k hk).1; have := HNUM.out; omega))
          have HRL : Hid ((r ++ [x]).length = k + 1) := by show _ = _; rw [List.length_append, hRL.out]; rfl
          clear hv9 hg9 hb9 hg9' HR9 HZ9 HG9 HS9 hlo
          go_wp2
          go_roundw
          case rel => exact ⟨k + 1, r ++ [x], w9.heap.size, by omega, by go_num, HRL, HR10, HZ10, HG10, HS10⟩
          case measure => simp [intOf]; omega
        case neg =>
          obtain rfl : b = k := by omega
          have d1 := hRG.out.cells.c1
          have d2 := (hRG.out.cells.alloc (.cells #[Value.slice ra b rc] 25)).c1
          have hpl := hRG.out.cells.lt
          have HNP := Lib.hid (has_ne_c3 hRG.out.top hRG.out.cells (by decide))
          have HNZ := Lib.hid (has_ne_c3 hRG.out.top hZ.out (by decide))
          have HLO8 := Lib.hid (show BB ≤ W8.heap.size from Nat.le_trans hRG.out.lo hRG.out.le)
          have HUL : Hid (us.length = i) := by show _ = _; rw [hRG.out.len, hL.out.1]
          go_wp2_with (at_builtin; refine wpList_append_list (enc := id) (e := 25) rfl (.tmp 31) (.tmp 33) 24 rfl BB i2 (.slice none 0 0) 24 Try.underlying24 hi2 hz20 hz21 hz22 rfl (.slice na i nc) us rfl (has_alloc hRG.out.top _) (.slice (some ⟨W8.heap.size, 0, none⟩) 1 1) [.slice ra b rc] rfl (lies_lit1v _ rfl) (fun y hy => by simp at hy; subst hy; rfl) (by rw [HUL.out]; simp only [List.length_cons, List.length_nil]; omega) (by rw [HUL.out]; simp only [List.length_cons, List.length_nil]; omega) (by have := HLO8.out; simp; omega) ?_; intro v' w2 hv' hg2 _; obtain ⟨a3, c3, hvf, _⟩ := hv'.form; rw [show (us ++ [Value.slice ra b rc]).length = i + 1 from by rw [List.length_append, HUL.out]; rfl] at hvf; subst hvf; have hg3 := grown_alloc hg2; have hc2 := hRG.out.cells.grown hg3 HNP.out; have d3 := hc2.c1; have df := hc2.f)
          obtain ⟨l3, hl3⟩ : ∃ l, l = i + 1 := ⟨_, rfl⟩
          rw [← hl3] at hv' ⊢
          have HM5 := Lib.hid (hRG.out.done hv' hg3)
          have hne1 : (p : Nat) ≠ z := by have := HNUM.out; omega
          have hne2 : p ≠ c := by have := HNUM.out; omega
          have HZ5 := Lib.hid ((hZ.out.grown hg3 HNZ.out).other (a := ⟨p, 1, none⟩) hne1 (.slice a3 l3 c3))
          have hg5 := grown_more hG.out hg3 (fun k hk => .inr (by have := (hRG.out.top.lt k hk).1; have := HNUM.out; omega))
          have HG5 : Hid (w.grownBy (w2.setCell ⟨p, 1, none⟩ (.slice a3 l3 c3)) (some c)) := grown_set hg5 (by have := HNUM.out; omega) _
          have hs5 := hS.out.other hg3 (fun k hk => by have := (hRG.out.top.lt k hk).1; have := HNUM.out; omega)
          have HS5 : Hid (Stands W (w2.setCell ⟨p, 1, none⟩ (.slice a3 l3 c3)) c a len cap) := hs5.other (Cursor.grown_setCell w2 p 1 _) (fun k hk => by cases hk; have := HNUM.out; omega)
          have HG6 : Hid (BB ≤ (w2.setCell ⟨p, 1, none⟩ (.slice a3 l3 c3)).heap.size) := by show _ ≤ _; rw [size_setCell']; exact Nat.le_trans HLO8.out hg3.size
          obtain ⟨W5, hW5⟩ : ∃ W, W = w2.setCell ⟨p, 1, none⟩ (.slice a3 l3 c3) := ⟨_, rfl⟩
          rw [← hW5] at HM5 HZ5 HG5 HS5 HG6 ⊢
          have HW5 := Lib.hid (show w2.heap.size = W5.heap.size by rw [hW5, size_setCell'])
          rw [HW5.out] at HM5
          clear hv' hg2 hg3 hc2 d1 d2 d3 df hpl hRG hZ hG hS hW5 hl3 HNP HNZ HLO8 HW5 hs5 hg5
          have HCC : Hid (c < BB ∧ c ≠ p ∧ c ≠ z) := by have := HNUM.out; exact ⟨by omega, by omega, by omega⟩
          have d1 := HM5.out.cells.c2
          have hpl := HM5.out.cells.lt
          go_region_law (first
            | (go_simp; go_at_call 37; (with_reducible refine (HB.out _ 2 (by decide) (by decide) HS5.out.drew).mono ?_); rintro e w1 ⟨x1, ⟨hx0, hx1⟩, rfl, g1, c1'⟩; have G1 := Lib.hid (Plain.grown_drew g1); have HM6 := Lib.hid (HM5.out.moved G1.out HCC.out.1 HCC.out.2.1); have HS6 := Lib.hid (HS5.out.drew.next g1 c1'); have d2 := HM6.out.cells.c2)
            | (go_simp; go_at_call 37; (with_reducible refine (HB.out _ (IntKind.i64.wrap (2 + x1)) (by rw [IntKind.wrap_i64]; omega) (by rw [IntKind.wrap_i64]; omega) HS6.out).mono ?_); rintro e w3 ⟨x2, hx2, rfl, g2, c2'⟩; have HM7 := Lib.hid (HM6.out.moved g2 HCC.out.1 HCC.out.2.1); have G2 := Lib.hid g2; have HS7 := Lib.hid (HS6.out.next g2 c2'); have HVO := Lib.hid HM7.out.terms; have HNO := Lib.hid (has_ne_c3 HVO.out.has HM7.out.cells (by decide)); have d3 := HM7.out.cells.c2; have d4 := (HM7.out.cells.alloc (.cells #[Value.int .i64 x2] 3)).c2; have hpl3 := HM7.out.cells.lt)
            | (refine step_append_at_list (enc := Value.int .i64) (e := 3) rfl (.tmp 37) (.tmp 43) 25 rfl BB i0 (.int .i64 0) 8 Try.underlying25 hi0 hz0 hz1 hz2 rfl (.slice oa i oc) out rfl (by repeat (first | with_reducible exact HVO.out.has | with_reducible apply has_drew | with_reducible apply has_alloc)) (Value.slice (some ⟨_, 0, none⟩) 1 1) [x2] rfl (by repeat (first | with_reducible apply lies_drew | (with_reducible refine lies_lit1 (enc := Value.int .i64) _ rfl) | with_reducible apply lies_alloc)) (fun _ _ => rfl) (by rw [hL.out.2.1]; simp only [List.length_cons, List.length_nil]; omega) (by rw [hL.out.2.1]; simp only [List.length_cons, List.length_nil]; omega) (by have := Nat.le_trans HM7.out.lo HM7.out.le; simp; omega) ?_; intro vt w6 ho6 hg6 hb6; obtain ⟨a6, c6, hvf, _⟩ := ho6.form; rw [show (out ++ [x2]).length = i + 1 from by rw [List.length_append, hL.out.2.1]; rfl] at hvf; subst hvf; have hg7 := grown_alloc hg6; have hc7 := HM7.out.cells.grown hg7 HNO.out; have r1 := hc7.c2; have r3 := hc7.f))
          all_goals
            have HM8 := Lib.hid (HM7.out.term ho6 hg7 (fun k hk => (hb6 k hk).imp id (fun h => by simp at h; omega)))
            have hz8 := (((HZ5.out.grown G1.out (by have := HCC.out; simp; omega)).grown G2.out (by have := HCC.out; simp; omega)).grown hg7 (has_ne_c3 HVO.out.has ((HZ5.out.grown G1.out (by have := HCC.out; simp; omega)).grown G2.out (by have := HCC.out; simp; omega)) (by decide))).other (a := ⟨p, 2, none⟩) hne1 (.slice a6 (i + 1) c6)
            have HZ8 := Lib.hid hz8
            have hg8 := grown_more (grown_more (grown_more HG5.out G1.out (fun k hk => .inl (Option.some.inj hk).symm)) G2.out (fun k hk => .inl (Option.some.inj hk).symm)) hg7 (fun k hk => .inr (by have := (HVO.out.has.lt k hk).1; have := HNUM.out; omega))
            have HG8 : Hid (w.grownBy (w6.setCell ⟨p, 2, none⟩ (.slice a6 (i + 1) c6)) (some c)) := grown_set hg8 (by have := HNUM.out; omega) _
            have hs8 := HS7.out.other hg7 (fun k hk => by have := (HVO.out.has.lt k hk).1; have := HNUM.out; omega)
            have HS8 : Hid (Stands W (w6.setCell ⟨p, 2, none⟩ (.slice a6 (i + 1) c6)) c a len cap) := hs8.other (Cursor.grown_setCell w6 p 2 _) (fun k hk => by cases hk; have := HNUM.out; omega)
            have HL8 : Hid ((rows ++ [r]).length = i + 1 ∧ (out ++ [x2]).length = i + 1 ∧ ∀ q ∈ rows ++ [r], q.length = b) := by
              refine ⟨by rw [List.length_append, hL.out.1]; rfl, by rw [List.length_append, hL.out.2.1]; rfl, fun q hq => ?_⟩
              rcases List.mem_append.1 hq with h1 | h1
              · exact hL.out.2.2 q h1
              · rw [List.mem_singleton.1 h1]; exact hRL.out
            clear ho6 hb6 hg6 hg7 hc7 r1 r3 d1 d2 d3 d4 hpl hpl3 HM5 HM6 HM7 HVO HNO HZ5 HG5 HS5 HS6 HS7 G1 G2 g1 g2 c1' c2' hz8 hg8 hs8 hx2 hx0 hx1
            go_wp2
            go_roundw
            case rel => exact ⟨i + 1, _, _, _, _, _, w6.heap.size, by omega, by go_num, HL8, HM8, HZ8, HG8, HS8⟩
            case measure => simp [intOf]; omega
end Cursor
end Go.Proofs.Ytdgfecjakmdheaa
