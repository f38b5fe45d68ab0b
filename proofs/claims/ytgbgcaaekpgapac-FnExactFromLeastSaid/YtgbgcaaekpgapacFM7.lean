/- Several texts of this proof, one behind the other: each says ahead of it what it shows and under which conditions. -/
import Derived.Test.YtgbgcaaekpgapacFM6
import Derived.Test.YtgbgcaaekpgapacFM2
import Derived.Deep.DeepCutAuto
import Derived.Test.YtgbgcaaekpgapacFM4
import Derived.WalkKit
import Derived.Lib.Hide
import Derived.Conc.LoneCalls
import Derived.Test.YtgbgcaaekpgapacFM3
import Derived.Maps.AppendAt
import Derived.Test.YtgbgcaaekpgapacFM1
/- Contract of the model's KernelOf. No conditions beyond those that it states. -/
namespace Go.Proofs.Ytgbgcaaekpgapac
open Go.ChangeShapes Go.WideShapes Go.ChangeAt Go.RowKit
open Go.PlainAid Plain
set_option linter.unusedVariables false
namespace Kern
open Seqs Mins
theorem OwnQ.frame {w0 w w' : World} {base : Nat} {v : Value} {L : List QV} (h : OwnQ w base v L) (hb : Below w0.heap.size w0 w) (hB : w0.heap.size ≤ base) (hg : w.grownBy w' v.ownBlock) : Below w0.heap.size w0 w' := hb.grown hg hb.size (fun k hk => Nat.le_trans hB (h.lt k hk).1)
theorem OwnQ.keepsIR {w w' : World} {base : Nat} {v : Value} {L : List QV} (h : OwnQ w base v L) (hg : w.grownBy w' v.ownBlock) : KeepsIR w w' :=
  ⟨hg.size, fun k cur e fr hk he => hg.block k (Array.getElem?_eq_some_iff.1 hk).1 (fun e1 => by
    have hf : ∃ cur fr, w.heap[k]? = some (.cells cur e fr) := ⟨_, _, hk⟩
    rcases h.2 with ⟨rfl, _⟩ | ⟨g', cap, cur', rfl, _, hc, _⟩
    · cases e1
    · have e2 : k = g' := by simpa [Value.ownBlock] using e1
      subst e2
      rw [hc] at hk
      simp at hk
      rcases he with rfl | rfl <;> exact absurd hk.2.1 (by decide))⟩
theorem wpList_append_q' {P : Program} {wr : World} {base : Nat} {L : List QV} {ops : Array Oper} {rest : List Oper} {o : Oper} {a : Act} {Q : Exit → Act → World → Prop} {x0 : Int} {x1 x2 : Value} (hgd : o.guard = none) (s x : Operand) (t : TypeId)
    (ho : o.op = .call { callee := .builtin .append, args := #[s, x], argTypes := #[t, t] })
    (i : TypeInfo) (ht : P.underlying t = some (.slice 30)) (hi : P.info? 30 = some i) (hz : i.zero = some (.agg #[.int .i64 0, .slice none 0 0, .slice none 0 0]))
    (hsize : i.size = 3) (hby : i.bytes = 56) (v : Value) (hs : a.eval s = v) (hown : OwnQ wr base v L) (g : Nat) (hx : a.eval x = .slice (some ⟨g, 0, none⟩) 1 1) (hgs : g = wr.heap.size)
    (h1 : x1.oneCell' = true) (h2 : x2.oneCell' = true) (hlen : L.length ≤ 100000) (hb : base ≤ wr.heap.size)
    (h : ∀ v' w', OwnQ w' base v' (L ++ [(x0, x1, x2)]) → wr.grownBy w' v.ownBlock → wpList P ops Q rest (a.put o.dst v') w') :
    wpList P ops Q (o :: rest) a (wr.alloc (.cells #[.int .i64 x0, x1, x2] 30)) :=
  wpList_append_q (q := (x0, x1, x2)) (g := g) (hgd := hgd) (s := s) (x := x) (t := t) (ho := ho) (i := i) (ht := ht) (hi := hi) (hz := hz) (hsize := hsize) (hby := hby) (v := v) (hs := hs) (hown := hown) (hx := hx) (hgs := hgs) (h1 := h1) (h2 := h2) (hlen := hlen) (hb := hb) (h := h)
theorem Elems.nil (w : World) (lo : Nat) : Elems w lo [] := ⟨fun e he => (by cases he), fun e he => (by cases he), .nil⟩
/-- A slice of sequences of the call's own, and whether there is one. -/
def GivesKer (L : List Sq) (k : Bool) (w : World) (en : Ending) (w' : World) : Prop := ∃ vs E, en = .returned (.tuple #[vs, .bool k]) ∧ OwnQ w' w.heap.size vs (E.map El.q) ∧ Elems w' w.heap.size E ∧ E.map El.s = L ∧ Below w.heap.size w w'
theorem ker_sub_s (e : El) (bn : Nat) (W : World) (hl : LiesS W (encQ e.q) e.s.b e.s.r e.s.o) (hg : Good (bn : Int) e.s) (r : Nat) (hr : r < bn) :
    Calls Try.prog 20 #[encQ e.q, .int .i64 r] W (fun en W' => ∃ v, en = .returned (.tuple #[v, .bool true]) ∧ OwnS W' W.heap.size W'.heap.size v (sub e.s r).b (sub e.s r).r (sub e.s r).o ∧ Below W.heap.size W W') := by
  have h1 := spec_sub (encQ e.q) e.s.b e.s.r e.s.o W hl (r : Int) hg.size
  rw [(hg.sub (by omega) (by omega)).2] at h1
  exact h1
theorem ker_yes {b : Int} {rows : List (List Int)} {out : List Int} {bn n : Nat} (hb : b = (bn : Int)) (hb0 : 0 < bn) (hk : formK b rows out = true) (h : n = bn * (kF (mini b rows out) bn n).length) (h40 : (kF (mini b rows out) bn n).length ≤ 40) : kerV b rows out = kF (mini b rows out) bn n ∧ kerK b rows out = true := by
  have h1 := ker_done (m := mini b rows out) hb0 h h40
  have h2 : kerK b rows out = true := by rw [kerK, hk, hb, Int.toNat_natCast, ← hb, h1, Bool.true_and]; exact decide_eq_true h40
  exact ⟨by rw [kerV, if_pos h2, hb, Int.toNat_natCast, ← hb, h1], h2⟩
theorem ker_no {b : Int} {rows : List (List Int)} {out : List Int} {bn n : Nat} (hb : b = (bn : Int)) (h : 40 < (kF (mini b rows out) bn n).length) (hn : n ≤ 41 * bn) : kerV b rows out = [] ∧ kerK b rows out = false := by
  have h1 : 40 < (kerL (mini b rows out) bn).length := Nat.lt_of_lt_of_le h (kF_len hn)
  have h2 : kerK b rows out = false := by
    rw [kerK, hb, Int.toNat_natCast, ← hb, Bool.and_eq_false_iff]
    exact .inr (decide_eq_false (by omega))
  exact ⟨by rw [kerV, h2]; simp, h2⟩
theorem any_succ {α : Type} {p : α → Bool} {F : List α} {k : Nat} {f : α} (h : F[k]? = some f) : (F.take (k + 1)).any p = ((F.take k).any p || p f) := by
  obtain ⟨h1, rfl⟩ := List.getElem?_eq_some_iff.1 h
  rw [List.take_succ_eq_append_getElem h1, List.any_append]
  simp
theorem kF_next {m : Sq} {bn i r : Nat} {f : Sq} (hr : r < bn) (hf : (kF m bn (bn * i + r))[i]? = some f) : kF m bn (bn * i + (r + 1)) = addQ (kF m bn (bn * i + r)) (sub f (r : Int)) := by
  have e1 : (bn * i + r) / bn = i := by rw [Nat.mul_add_div (by omega), Nat.div_eq_of_lt hr, Nat.add_zero]
  have e2 : (bn * i + r) % bn = r := by rw [Nat.mul_add_mod, Nat.mod_eq_of_lt hr]
  rw [← Nat.add_assoc, kF_step (by rw [e1]; exact hf), e2]
set_option maxRecDepth 100000 in
set_option maxHeartbeats 2000000 in
theorem spec_ker_no (v : Value) (b : Int) (rows : List (List Int)) (out : List Int) (w : World) (h : LiesS w v b rows out) (hs : rows.length + tot rows + out.length ≤ 1048576) (hk : formK b rows out = false) :
    Calls Try.prog 6 #[v] w (GivesKer [] false w) := by
  have HS := Lib.hid h
  obtain ⟨an, cn, ao, co, rfl⟩ := h.form
  clear h
  have HB : Hid (Below w.heap.size w (w.alloc (Obj.cells #[Value.int .i64 b, Value.slice an rows.length cn, Value.slice ao out.length co] 30))) := (Below.refl _ _).alloc (Nat.le_refl _) _
  have HC := Lib.hid (Cells3.new w 30 (.int .i64 b) (.slice an rows.length cn) (.slice ao out.length co))
  have HB0 : Hid (Below w.heap.size w ((w.alloc (Obj.cells #[Value.int .i64 b, Value.slice an rows.length cn, Value.slice ao out.length co] 30)).alloc (Obj.cells #[] 30))) := HB.out.alloc (by simp only [size_alloc'] <;> omega) _
  have HC0 := Lib.hid (HC.out.alloc (Obj.cells #[] 30))
  have hq := OwnQ.lit0 (base := w.heap.size + 1) (w.alloc (Obj.cells #[Value.int .i64 b, Value.slice an rows.length cn, Value.slice ao out.length co] 30)) (by rw [size_alloc']; exact Nat.le_refl _)
  rw [size_alloc'] at hq
  have HQ0 := Lib.hid hq
  have HCF : Hid (Calls Try.prog 19 #[.agg #[.int .i64 b, .slice an rows.length cn, .slice ao out.length co]] ((w.alloc (Obj.cells #[Value.int .i64 b, Value.slice an rows.length cn, Value.slice ao out.length co] 30)).alloc (Obj.cells #[] 30)) (GivesK (formB b rows out) (minRV b rows out) (minOV b rows out) false ((w.alloc (Obj.cells #[Value.int .i64 b, Value.slice an rows.length cn, Value.slice ao out.length co] 30)).alloc (Obj.cells #[] 30)))) := by
    have h1 := spec_min _ b rows out _ (HS.out.below HB0.out) hs
    rw [hk] at h1
    exact h1
  have k0 := HC0.out.c0
  have k1 := HC0.out.c1
  have k2 := HC0.out.c2
  clear hq hs hk HB HC
  go_enter Try.func6, Try.ntmps6
  go_wp2_with fail
  refine HCF.out.mono ?_
  rintro e W1 ⟨v1, rfl, hv1, b1⟩
  obtain ⟨a1, c1, a2, c2, rfl⟩ := hv1.form
  have HQ1 := Lib.hid (HQ0.out.below b1)
  have HB1 := Lib.hid (HB0.out.trans (b1.mono HB0.out.size))
  clear hv1 b1 k0 k1 k2
  go_wp2
  refine bodyPost_ret (v := .tuple #[(Value.slice (some ⟨w.heap.size + 1, 0, none⟩) 0 0), .bool false]) (by simp [results, Try.results6, go_sem]) rfl ?_
  have hbx : ∀ o, Below W1.heap.size W1 (W1.alloc o) := fun o => (Below.refl _ _).alloc (Nat.le_refl _) _
  exact ⟨_, [], rfl, (HQ1.out.below (hbx _)).mono (Nat.le_succ _), Elems.nil _ _, rfl, HB1.out.trans ((hbx _).mono HB1.out.size)⟩
set_option maxRecDepth 100000 in
set_option maxHeartbeats 4000000 in
theorem spec_ker_yes (v : Value) (b : Int) (rows : List (List Int)) (out : List Int) (w : World) (h : LiesS w v b rows out) (hs : rows.length + tot rows + out.length ≤ 1048576) (hk : formK b rows out = true) :
    Calls Try.prog 6 #[v] w (GivesKer (kerV b rows out) (kerK b rows out) w) := by
  obtain ⟨i0, hi, hz0, hz1, hz2⟩ := info_parts infoS
  have HS := Lib.hid h
  obtain ⟨an, cn, ao, co, rfl⟩ := h.form
  clear h
  have HB : Hid (Below w.heap.size w (w.alloc (Obj.cells #[Value.int .i64 b, Value.slice an rows.length cn, Value.slice ao out.length co] 30))) := (Below.refl _ _).alloc (Nat.le_refl _) _
  have HC := Lib.hid (Cells3.new w 30 (.int .i64 b) (.slice an rows.length cn) (.slice ao out.length co))
  have HB0 : Hid (Below w.heap.size w ((w.alloc (Obj.cells #[Value.int .i64 b, Value.slice an rows.length cn, Value.slice ao out.length co] 30)).alloc (Obj.cells #[] 30))) := HB.out.alloc (by simp only [size_alloc'] <;> omega) _
  have HC0 := Lib.hid (HC.out.alloc (Obj.cells #[] 30))
  have hq := OwnQ.lit0 (base := w.heap.size + 1) (w.alloc (Obj.cells #[Value.int .i64 b, Value.slice an rows.length cn, Value.slice ao out.length co] 30)) (by rw [size_alloc']; exact Nat.le_refl _)
  rw [size_alloc'] at hq
  have HQ0 := Lib.hid hq
  have hgd := mini_good hk
  have hsq := hgd.seq
  obtain ⟨bn, hbn⟩ : ∃ bn : Nat, b = (bn : Int) := ⟨b.toNat, by have := hsq.1; rw [hgd.base] at this; omega⟩
  have hb2 : 2 ≤ bn := by have := hsq.1; rw [hgd.base] at this; omega
  have hb4 : bn ≤ 4 := by have := hsq.2.1; rw [hgd.base] at this; omega
  have HYES := Lib.hid (fun n => ker_yes (n := n) hbn (by omega) hk)
  have HNO := Lib.hid (fun n => ker_no (rows := rows) (out := out) (n := n) hbn)
  have HCF : Hid (Calls Try.prog 19 #[.agg #[.int .i64 b, .slice an rows.length cn, .slice ao out.length co]] ((w.alloc (Obj.cells #[Value.int .i64 b, Value.slice an rows.length cn, Value.slice ao out.length co] 30)).alloc (Obj.cells #[] 30)) (GivesK (mini b rows out).b (mini b rows out).r (mini b rows out).o true ((w.alloc (Obj.cells #[Value.int .i64 b, Value.slice an rows.length cn, Value.slice ao out.length co] 30)).alloc (Obj.cells #[] 30)))) := by
    have h1 := spec_min _ b rows out _ (HS.out.below HB0.out) hs
    rw [hk] at h1
    exact h1
  have HG := Lib.hid hgd
  obtain ⟨m, hm⟩ : ∃ m, m = mini b rows out := ⟨_, rfl⟩
  obtain ⟨KV, hKV⟩ : ∃ x, x = kerK b rows out := ⟨_, rfl⟩
  obtain ⟨LV, hLV⟩ : ∃ x, x = kerV b rows out := ⟨_, rfl⟩
  rw [← hm] at HG HCF HYES HNO
  rw [← hKV, ← hLV] at HYES HNO ⊢
  have k0 := HC0.out.c0
  have k1 := HC0.out.c1
  have k2 := HC0.out.c2
  clear hq hs hk HB HC hgd hsq hm hKV hLV
  subst hbn
  go_enter Try.func6, Try.ntmps6
  go_wp2_with fail
  refine HCF.out.mono ?_
  rintro e W1 ⟨v1, rfl, hv1, b1⟩
  obtain ⟨a1, c1, a2, c2, rfl⟩ := hv1.form
  have hbx : Below W1.heap.size W1 (W1.alloc (.cells #[.int .i64 m.b, .slice a1 m.r.length c1, .slice a2 m.o.length c2] 30)) := (Below.refl _ _).alloc (Nat.le_refl _) _
  have HB1 := Lib.hid (HB0.out.trans (b1.mono HB0.out.size))
  have HB2 := Lib.hid (HB1.out.trans (hbx.mono HB1.out.size))
  have HC2 := Lib.hid ((HC0.out.below b1).below hbx)
  have HQ2 := Lib.hid ((HQ0.out.below b1).below hbx)
  have HE2 := Lib.hid (((Elems.nil ((w.alloc (Obj.cells #[Value.int .i64 (bn : Int), Value.slice an rows.length cn, Value.slice ao out.length co] 30)).alloc (Obj.cells #[] 30)) w.heap.size).push (v := (m.b, .slice a1 m.r.length c1, .slice a2 m.o.length c2)) (s := m) HB0.out.size b1 hv1).below hbx)
  have HX2 := Cells3.new W1 30 (.int .i64 m.b) (.slice a1 m.r.length c1) (.slice a2 m.o.length c2)
  have j0 := HX2.c0
  have j1 := HX2.c1
  have j2 := HX2.c2
  clear hv1 b1 k0 k1 k2 hbx HQ0 HC0 HCF HB1 HX2
  go_wp2_with (at_builtin; refine wpList_append_q' rfl _ _ 27 rfl i0 Try.underlying27 hi hz0 hz1 hz2 (Value.slice (some ⟨w.heap.size + 1, 0, none⟩) 0 0) rfl HQ2.out _ rfl (by first | rfl | simp) rfl rfl (by simp) HC2.out.lt ?_; intro v2 w2 ho2 hg2)
  have HO : Hid (OwnQ w2 (w.heap.size + 1) v2 (([] ++ [El.mk (m.b, .slice a1 m.r.length c1, .slice a2 m.o.length c2) m ((w.alloc (Obj.cells #[Value.int .i64 (bn : Int), Value.slice an rows.length cn, Value.slice ao out.length co] 30)).alloc (Obj.cells #[] 30)).heap.size W1.heap.size]).map El.q)) := ho2
  have HEE := Lib.hid (HE2.out.keep (HQ2.out.keepsIR hg2))
  have HCC := Lib.hid (HC2.out.grown hg2 (fun e => by have := (HQ2.out.lt _ e).1; omega))
  have HBB := Lib.hid (HQ2.out.frame HB2.out (Nat.le_succ _) hg2)
  clear ho2 hg2 HQ2 HE2 HC2 HB2 HB0 j0 j1 j2
  go_loopw [4, 7] (fun o' i' wr => ∃ (i : Nat) (E : List El) (vo : Value), i ≤ E.length ∧ i ≤ 40 ∧ E.length ≤ 41 ∧ i' = .int .i64 i ∧ vo = o' ∧ Hid (OwnQ wr (w.heap.size + 1) vo (E.map El.q)) ∧ Hid (Elems wr w.heap.size E) ∧ Hid (E.map El.s = kF m bn (bn * i)) ∧ Hid (Below w.heap.size w wr) ∧ Hid (Cells3 wr w.heap.size 30 (.int .i64 (bn : Int)) (.slice an rows.length cn) (.slice ao out.length co))) (fun _ i' _ => 41 - (intOf i').toNat)
  case atStart => exact ⟨0, [] ++ [El.mk (m.b, .slice a1 m.r.length c1, .slice a2 m.o.length c2) m ((w.alloc (Obj.cells #[Value.int .i64 (bn : Int), Value.slice an rows.length cn, Value.slice ao out.length co] 30)).alloc (Obj.cells #[] 30)).heap.size W1.heap.size], _, Nat.zero_le _, by omega, by simp, rfl, rfl, HO, HEE, rfl, HBB, HCC⟩
  case round =>
    clear HO HEE HBB HCC
    obtain ⟨i, E, vo, hiE0, hi40, hE41, rfl, rfl, HO, HEE, HK, HBB, HCC⟩ := hrel
    obtain ⟨va, vc, hvo, hag⟩ := HO.out.form
    rw [List.length_map] at hvo
    subst hvo
    by_cases hlt : i < E.length
    · have k0 := HCC.out.c0
      clear hag
      go_wp2
      clear k0
      go_loopw [4, 8] (fun o' r' wr => ∃ (r : Nat) (E : List El) (vo : Value), r ≤ bn ∧ i < E.length ∧ E.length ≤ 41 ∧ (r = 0 ∨ i ≤ 39) ∧ r' = .int .i64 r ∧ vo = o' ∧ Hid (OwnQ wr (w.heap.size + 1) vo (E.map El.q)) ∧ Hid (Elems wr w.heap.size E) ∧ Hid (E.map El.s = kF m bn (bn * i + r)) ∧ Hid (Below w.heap.size w wr) ∧ Hid (Cells3 wr w.heap.size 30 (.int .i64 (bn : Int)) (.slice an rows.length cn) (.slice ao out.length co))) (fun _ r' _ => bn - (intOf r').toNat)
      case atStart => exact ⟨0, E, _, Nat.zero_le _, hlt, hE41, .inl rfl, rfl, rfl, HO, HEE, HK, HBB, HCC⟩
      case round =>
        clear HO HEE HK HBB HCC hlt hE41 hiE0
        obtain ⟨r, E, vo, hrb, hiE, hE41, hr39, rfl, rfl, HO, HEE, HK, HBB, HCC⟩ := hrel
        obtain ⟨va, vc, hvo, hag⟩ := HO.out.form
        have hml : (E.map El.q).length = E.length := List.length_map ..
        rw [hml] at hvo hag
        subst hvo
        have k0 := HCC.out.c0
        by_cases hr : r < bn
        case pos =>
          obtain ⟨el, hel⟩ : ∃ e, E[i]? = some e := ⟨_, List.getElem?_eq_getElem hiE⟩
          obtain ⟨g, rfl, _⟩ := hag (by omega)
          have hq : (E.map El.q)[i]? = some el.q := by rw [List.getElem?_map, hel]; rfl
          have hS : (E.map El.s)[i]? = some el.s := by rw [List.getElem?_map, hel]; rfl
          have hO := HO.out
          rw [← hml] at hO
          obtain ⟨c0, c1, c2⟩ := hO.cells hq
          have hls := HEE.out.lies hel
          rw [HK.out] at hS
          have HKN := Lib.hid (kF_next hr hS)
          have HCS := Lib.hid (ker_sub_s el bn wr hls (kF_good (by omega) HG.out _ _ (List.mem_of_getElem? hS)) r hr)
          obtain ⟨an1, cn1, ao1, co1, hv⟩ := hls.form
          rw [hv] at HCS
          simp only [encQ, Value.agg.injEq, Array.mk.injEq, List.cons.injEq, and_true, Value.int.injEq, true_and] at hv
          obtain ⟨e1, e2, e3⟩ := hv
          rw [e1] at c0
          rw [e2] at c1
          rw [e3] at c2
          obtain ⟨y, hy⟩ : ∃ y, y = sub el.s r := ⟨_, rfl⟩
          obtain ⟨f, hf⟩ : ∃ f, f = el.s := ⟨_, rfl⟩
          rw [← hy] at HKN HCS
          rw [← hf] at HCS c0 c1 c2
          have hr0 : (0 : Int) ≤ (r : Int) := Int.natCast_nonneg _
          have hi0 : (0 : Int) ≤ (i : Int) := Int.natCast_nonneg _
          have hrb1 : (r : Int) < (bn : Int) := by omega
          have hiE1 : (i : Int) < (E.length : Int) := by omega
          clear hag hml hq hO hls hS e1 e2 e3 hel hf hy
          go_wp2_with fail
          refine HCS.out.mono ?_
          rintro e W2 ⟨v2, rfl, hv2, b2⟩
          obtain ⟨a3, c3, a4, c4, rfl⟩ := hv2.form
          have hbx : Below W2.heap.size W2 (W2.alloc (.cells #[.int .i64 y.b, .slice a3 y.r.length c3, .slice a4 y.o.length c4] 30)) := (Below.refl _ _).alloc (Nat.le_refl _) _
          have hbw : Below wr.heap.size wr (W2.alloc (.cells #[.int .i64 y.b, .slice a3 y.r.length c3, .slice a4 y.o.length c4] 30)) := b2.trans (hbx.mono b2.size)
          have HO3 := Lib.hid (HO.out.below hbw)
          have HE3 := Lib.hid (HEE.out.below hbw)
          have HN3 := Lib.hid ((HEE.out.push (v := (y.b, .slice a3 y.r.length c3, .slice a4 y.o.length c4)) (s := y) HBB.out.size b2 hv2).below hbx)
          have HB3 := Lib.hid (HBB.out.trans (hbw.mono HBB.out.size))
          have HC3 := Lib.hid (HCC.out.below hbw)
          have HY3 := Lib.hid (hv2.lies.below hbx)
          have HX3 := Lib.hid (Cells3.new W2 30 (.int .i64 y.b) (.slice a3 y.r.length c3) (.slice a4 y.o.length c4))
          clear hv2 b2 hbx hbw c0 c1 c2 k0 HCS HO HEE HBB HCC
          by_cases h40 : 40 < E.length
          · have hd := decide_eq_true (show (40 : Int) < (E.length : Int) by omega)
            obtain ⟨h1, h2⟩ := HNO.out (bn * i + r) (by rw [← HK.out, List.length_map]; exact h40) (by have : bn * i ≤ bn * 40 := Nat.mul_le_mul_left _ hi40; omega)
            subst h1; subst h2
            go_wp2
            have hq := OwnQ.lit0 (base := w.heap.size) (W2.alloc (.cells #[.int .i64 y.b, .slice a3 y.r.length c3, .slice a4 y.o.length c4] 30)) HB3.out.size
            rw [size_alloc'] at hq
            refine bodyPost_ret (v := .tuple #[(Value.slice (some ⟨W2.heap.size + 1, 0, none⟩) 0 0), .bool false]) (by simp [results, Try.results6, go_sem]) rfl ?_
            have hbx : Below (W2.alloc (.cells #[.int .i64 y.b, .slice a3 y.r.length c3, .slice a4 y.o.length c4] 30)).heap.size (W2.alloc (.cells #[.int .i64 y.b, .slice a3 y.r.length c3, .slice a4 y.o.length c4] 30)) ((W2.alloc (.cells #[.int .i64 y.b, .slice a3 y.r.length c3, .slice a4 y.o.length c4] 30)).alloc (Obj.cells #[] 30)) := (Below.refl _ _).alloc (Nat.le_refl _) _
            exact ⟨_, [], rfl, hq, Elems.nil _ _, rfl, HB3.out.trans (hbx.mono HB3.out.size)⟩
          · have hd := decide_eq_false (show ¬ (40 : Int) < (E.length : Int) by omega)
            have j0 := HX3.out.c0
            have j1 := HX3.out.c1
            have j2 := HX3.out.c2
            go_wp2
            clear j0 j1 j2
            obtain ⟨c', hc'⟩ : ∃ c', c' = wr.heap.size := ⟨_, rfl⟩
            obtain ⟨d', hd'⟩ : ∃ c', c' = W2.heap.size := ⟨_, rfl⟩
            obtain ⟨W3, hW3⟩ : ∃ W, W = W2.alloc (.cells #[.int .i64 y.b, .slice a3 y.r.length c3, .slice a4 y.o.length c4] 30) := ⟨_, rfl⟩
            rw [← hW3] at HO3 HE3 HN3 HB3 HC3 HY3 HX3 ⊢
            rw [← hc', ← hd'] at HN3
            rw [← hd'] at HX3 ⊢
            clear hW3 hc' hd'
            go_loopw [11, 12] (fun f' k' wr => ∃ k : Nat, k ≤ E.length ∧ k' = .int .i64 k ∧ f' = .bool (((E.map El.s).take k).any (·.same y)) ∧ Hid (Below W3.heap.size W3 wr)) (fun _ k' _ => E.length - (intOf k').toNat)
            case atStart => exact ⟨0, Nat.zero_le _, rfl, by simp, Below.refl _ _⟩
            case round =>
              obtain ⟨k, hkE, rfl, rfl, HBk⟩ := hrel
              obtain ⟨W4, rfl⟩ : ∃ W : World, W = wr := ⟨_, rfl⟩
              by_cases hk : k < E.length
              case pos =>
                obtain ⟨ek, hek⟩ : ∃ e, E[k]? = some e := ⟨_, List.getElem?_eq_getElem hk⟩
                have hml : (E.map El.q).length = E.length := List.length_map ..
                have hq : (E.map El.q)[k]? = some ek.q := by rw [List.getElem?_map, hek]; rfl
                have hS : (E.map El.s)[k]? = some ek.s := by rw [List.getElem?_map, hek]; rfl
                have hO := HO3.out.below HBk.out
                rw [← hml] at hO
                obtain ⟨c0, c1, c2⟩ := hO.cells hq
                have hls := (HE3.out.below HBk.out).lies hek
                have HAS := Lib.hid (any_succ (p := (·.same y)) hS)
                obtain ⟨an1, cn1, ao1, co1, hv⟩ := hls.form
                have hv2 := hv
                simp only [encQ, Value.agg.injEq, Array.mk.injEq, List.cons.injEq, and_true, Value.int.injEq, true_and] at hv2
                obtain ⟨e1, e2, e3⟩ := hv2
                rw [hv] at hls
                rw [e1] at c0
                rw [e2] at c1
                rw [e3] at c2
                have HEQ : Hid (∀ W, Below W4.heap.size W4 W → Calls Try.prog 21 #[.agg #[.int .i64 ek.s.b, .slice an1 ek.s.r.length cn1, .slice ao1 ek.s.o.length co1], .agg #[.int .i64 y.b, .slice a3 y.r.length c3, .slice a4 y.o.length c4]] W fun e w' => e = .returned (.bool (ek.s.same y)) ∧ Below W.heap.size W w') := fun W hW => spec_equal _ _ ek.s.b y.b ek.s.r y.r ek.s.o y.o W (hls.below hW) ((HY3.out.below HBk.out).below hW)
                have hX4 := HX3.out.below HBk.out
                have j0 := hX4.c0
                have j1 := hX4.c1
                have j2 := hX4.c2
                obtain ⟨f2, hf2⟩ : ∃ f, f = ek.s := ⟨_, rfl⟩
                rw [← hf2] at HEQ HAS c0 c1 c2
                obtain ⟨r2, hr2⟩ : ∃ r, r = f2.same y := ⟨_, rfl⟩
                rw [← hr2] at HEQ HAS
                obtain ⟨s2, hs2⟩ : ∃ r, r = ((E.map El.s).take k).any (·.same y) := ⟨_, rfl⟩
                rw [← hs2] at HAS ⊢
                have hk0 : (0 : Int) ≤ (k : Int) := Int.natCast_nonneg _
                have hkE1 : (k : Int) < (E.length : Int) := by omega
                have hD : Below W4.heap.size W4 W4.drew := below_drew' W4
                clear hX4 hek hml hq hS hO hls hv e1 e2 e3 hf2 hr2 hs2
                cases s2 with
                | true =>
                  go_wp2_with fail
                  go_quiet (fail)
                  go_wp2
                  go_roundw
                  case rel => exact ⟨k + 1, by omega, by go_num, by rw [HAS.out]; rfl, below_drewN HBk.out _⟩
                  case measure => simp [intOf]; omega
                | false =>
                  go_wp2_with fail
                  go_region_law (first | (go_simp; (with_reducible refine (HEQ.out _ hD).mono ?_); rintro e W8 ⟨rfl, b8⟩; have bA : Below W4.heap.size W4 W8 := hD.trans (b8.mono hD.size)))
                  all_goals
                    have HBA := Lib.hid (HBk.out.trans (bA.mono HBk.out.size))
                    clear c0 c1 c2 j0 j1 j2 bA b8
                    go_wp2
                    go_roundw
                    case rel => exact ⟨k + 1, by omega, by go_num, by rw [HAS.out]; rfl, HBA⟩
                    case measure => simp [intOf]; omega
              case neg =>
                obtain rfl : k = E.length := by omega
                have hO4 := Lib.hid (HO3.out.below HBk.out)
                have HE4 := Lib.hid (HE3.out.below HBk.out)
                have HN4 := Lib.hid (HN3.out.below HBk.out)
                have HB4 := Lib.hid (HB3.out.trans (HBk.out.mono HB3.out.size))
                have HC4 := Lib.hid (HC3.out.below HBk.out)
                have hX4 := HX3.out.below HBk.out
                have j0 := hX4.c0
                have j1 := hX4.c1
                have j2 := hX4.c2
                have hta : (E.map El.s).take E.length = E.map El.s := List.take_of_length_le (by rw [List.length_map]; exact Nat.le_refl _)
                rw [hta]
                rw [addQ, ← HK.out] at HKN
                obtain ⟨s2, hs2⟩ : ∃ r, r = (E.map El.s).any (·.same y) := ⟨_, rfl⟩
                rw [← hs2] at HKN ⊢
                have hi39 : i ≤ 39 := by omega
                clear hX4 hta hs2 HK HX3 HO3 HE3 HN3 HB3 HC3 HBk
                cases s2 with
                | true =>
                  rw [if_pos rfl] at HKN
                  go_wp2
                  go_roundw
                  case rel => exact ⟨r + 1, E, _, by omega, by omega, by omega, .inr hi39, by go_num, rfl, hO4, HE4, HKN.out.symm, HB4, HC4⟩
                  case measure => simp [intOf]; omega
                | false =>
                  rw [if_neg (by simp)] at HKN
                  go_wp2_with (at_builtin; refine wpList_append_q' rfl _ _ 27 rfl i0 Try.underlying27 hi hz0 hz1 hz2 (.slice (some ⟨g, 0, none⟩) E.length vc) rfl hO4.out _ rfl (by first | rfl | simp) rfl rfl (by rw [List.length_map]; omega) HC4.out.lt ?_; intro v5 w5 ho5 hg5)
                  have HO5 : Hid (OwnQ w5 (w.heap.size + 1) v5 ((E ++ [El.mk (y.b, .slice a3 y.r.length c3, .slice a4 y.o.length c4) y c' d']).map El.q)) := by rw [List.map_append]; exact ho5
                  have HE5 := Lib.hid (HN4.out.keep (hO4.out.keepsIR hg5))
                  have HC5 := Lib.hid (HC4.out.grown hg5 (fun e => by have := (hO4.out.lt _ e).1; omega))
                  have HB5 := Lib.hid (hO4.out.frame HB4.out (Nat.le_succ _) hg5)
                  clear ho5 hg5
                  go_wp2
                  go_roundw
                  case rel => exact ⟨r + 1, E ++ [El.mk (y.b, .slice a3 y.r.length c3, .slice a4 y.o.length c4) y c' d'], _, by omega, by simp; omega, by simp; omega, .inr hi39, by go_num, rfl, HO5, HE5, by rw [HKN.out, List.map_append]; rfl, HB5, HC5⟩
                  case measure => simp [intOf]; omega
        case neg =>
          obtain rfl : r = bn := by omega
          have hi39 : i ≤ 39 := by omega
          go_wp2
          go_roundw
          case rel => exact ⟨i + 1, E, _, by omega, by omega, hE41, by go_num, rfl, HO, HEE, by rw [Nat.mul_succ]; exact HK, HBB, HCC⟩
          case measure => simp [intOf]; omega
    · obtain rfl : i = E.length := by omega
      have hl : (kF m bn (bn * E.length)).length = E.length := by rw [← HK.out, List.length_map]
      obtain ⟨h1, h2⟩ := HYES.out (bn * E.length) (by rw [hl]) (by rw [hl]; exact hi40)
      rw [← HK.out] at h1
      subst h1; subst h2
      go_wp2
      refine bodyPost_ret (v := .tuple #[(Value.slice va E.length vc), .bool true]) (by simp [results, Try.results6, go_sem]) rfl ?_
      exact ⟨_, E, rfl, HO.out.mono (Nat.le_succ _), HEE.out, rfl, HBB.out⟩
theorem spec_ker (v : Value) (b : Int) (rows : List (List Int)) (out : List Int) (w : World) (h : LiesS w v b rows out) (hs : rows.length + tot rows + out.length ≤ 1048576) :
    Calls Try.prog 6 #[v] w (GivesKer (kerV b rows out) (kerK b rows out) w) := by
  cases hk : formK b rows out with
  | true => exact spec_ker_yes v b rows out w h hs hk
  | false =>
    have h2 : kerK b rows out = false := by rw [kerK, hk]; rfl
    have h1 : kerV b rows out = [] := by rw [kerV, h2]; simp
    rw [h1, h2]
    exact spec_ker_no v b rows out w h hs hk
end Kern
end Go.Proofs.Ytgbgcaaekpgapac
/- Contracts of the program's placeOf, its closure and the library's IndexFunc at it. No conditions beyond those that each states. -/
namespace Go.Proofs.Ytgbgcaaekpgapac
open Go.ChangeShapes Go.WideShapes Go.ChangeAt Go.RowKit
open Go.PlainAid Plain
set_option linter.unusedVariables false
namespace Kern
open Seqs Mins
theorem ret_k {a b : Int} (h : a = b) : Ending.returned (.int .i64 a) = Ending.returned (.int .i64 b) := by rw [h]
set_option maxHeartbeats 1000000 in
theorem place_cl (f y : Sq) (an ao bn bo : Option Addr) (cn co dn do_ B : Nat) (w : World) (hc : Cells3 w B 30 (.int .i64 y.b) (.slice bn y.r.length dn) (.slice bo y.o.length do_)) (h1 : LiesS w (.agg #[.int .i64 f.b, .slice an f.r.length cn, .slice ao f.o.length co]) f.b f.r f.o) (h2 : LiesS w (.agg #[.int .i64 y.b, .slice bn y.r.length dn, .slice bo y.o.length do_]) y.b y.r y.o) :
    Calls Try.prog 45 (#[.agg #[.int .i64 f.b, .slice an f.r.length cn, .slice ao f.o.length co]] ++ #[.pointer (some ⟨B, 0, none⟩)]) w fun e w' => e = .returned (.bool (f.same y)) ∧ Below w.heap.size w w' := by
  have hb : Below w.heap.size w (w.alloc (Obj.cells #[.int .i64 f.b, .slice an f.r.length cn, .slice ao f.o.length co] 30)) := (Below.refl _ _).alloc (Nat.le_refl _) _
  have HE := Lib.hid (impl_equal _ _ f.b y.b f.r y.r f.o y.o _ (h1.below hb) (h2.below hb))
  have HB := Lib.hid hb
  have HR : Hid (sameB f.b y.b f.r y.r f.o y.o = f.same y) := rfl
  have k := Cells3.new w 30 (.int .i64 f.b) (.slice an f.r.length cn) (.slice ao f.o.length co)
  have k0 := k.c0
  have k1 := k.c1
  have k2 := k.c2
  have m := hc.below hb
  have m0 := m.c0
  have m1 := m.c1
  have m2 := m.c2
  obtain ⟨r, hr⟩ : ∃ r, r = sameB f.b y.b f.r y.r f.o y.o := ⟨_, rfl⟩
  rw [← hr] at HE HR
  clear h1 h2 hc hb k m hr
  go_enter Try.func45, Try.ntmps45
  go_wp2_with fail
  refine HE.out.mono ?_
  rintro e w' ⟨rfl, hb⟩
  have HB2 := Lib.hid (HB.out.trans (hb.mono HB.out.size))
  clear hb k0 k1 k2 m0 m1 m2
  go_wp2
  go_ret
  exact ⟨by rw [HR.out]; rfl, HB2.out⟩
/-- Where it stands; -1 where it is new. -/
def ixQ (F : List Sq) (y : Sq) : Int := match F.findIdx? (·.same y) with | some i => (i : Int) | none => -1
theorem ixQ_hit {F : List Sq} {y f : Sq} {i : Nat} (hf : F[i]? = some f) (h : f.same y = true) (hb : ∀ (j : Nat) (g : Sq), j < i → F[j]? = some g → g.same y = false) : ixQ F y = (i : Int) := by
  obtain ⟨h1, rfl⟩ := List.getElem?_eq_some_iff.1 hf
  have : F.findIdx? (·.same y) = some i := List.findIdx?_eq_some_iff_getElem.2 ⟨h1, h, fun j hj => by have := hb j _ hj (List.getElem?_eq_getElem (by omega)); simp [this]⟩
  rw [ixQ, this]
theorem ixQ_none {F : List Sq} {y : Sq} (hb : ∀ (j : Nat) (g : Sq), F[j]? = some g → g.same y = false) : ixQ F y = -1 := by
  have : F.findIdx? (·.same y) = none := List.findIdx?_eq_none_iff.2 fun g hg => by
    obtain ⟨j, hj⟩ := List.getElem?_of_mem hg
    exact hb j g hj
  rw [ixQ, this]
theorem ixQ_at (F : List Sq) (y : Sq) : (ixQ F y < 0 ∧ (atQ F y : Int) = F.length) ∨ (¬ ixQ F y < 0 ∧ (atQ F y : Int) = ixQ F y) := by
  unfold ixQ atQ
  cases F.findIdx? (·.same y) with
  | none => exact .inl ⟨by simp, rfl⟩
  | some i => exact .inr ⟨by simp, rfl⟩
set_option maxHeartbeats 1000000 in
theorem place_ix (v : Value) (E : List El) (y : Sq) (bn bo : Option Addr) (dn do_ B lo base : Nat) (w : World) (h : OwnQ w base v (E.map El.q)) (hE : Elems w lo E) (hc : Cells3 w B 30 (.int .i64 y.b) (.slice bn y.r.length dn) (.slice bo y.o.length do_)) (h2 : LiesS w (.agg #[.int .i64 y.b, .slice bn y.r.length dn, .slice bo y.o.length do_]) y.b y.r y.o) :
    Calls Try.prog 44 #[v, .func (.func 45) #[] #[.pointer (some ⟨B, 0, none⟩)]] w fun e w' => e = .returned (.int .i64 (ixQ (E.map El.s) y)) ∧ Below w.heap.size w w' := by
  have eg : ∀ args w, (callFunc 45 args).run Try.prog w = .ok (.enter 45 args) w := enters_of Try.func45 (by kernel_rfl) rfl
  obtain ⟨a, c, rfl, hag⟩ := h.form
  have hml : (E.map El.q).length = E.length := List.length_map ..
  have HQ := Lib.hid h
  have HE := Lib.hid hE
  have HC := Lib.hid hc
  have HY := Lib.hid h2
  rw [hml] at HQ hag ⊢
  have hsm : E.length ≤ 9223372036854775807 := by have := h.small; omega
  clear h hE hc h2
  go_enter Try.func44, Try.ntmps44
  go_wp2
  go_loopw [8] (fun i' wr => ∃ i : Nat, i ≤ E.length ∧ i' = .int .i64 i ∧ Hid (∀ (j : Nat) (g : Sq), j < i → (E.map El.s)[j]? = some g → g.same y = false) ∧ Hid (Below w.heap.size w wr)) (fun i' _ => E.length - (intOf i').toNat)
  case atStart => exact ⟨0, Nat.zero_le _, rfl, (fun j g hj => by omega), Below.refl _ _⟩
  case round =>
    obtain ⟨i, hi', rfl, HI, HBr⟩ := hrel
    by_cases hlt : i < E.length
    · obtain ⟨el, hel⟩ : ∃ e, E[i]? = some e := ⟨_, List.getElem?_eq_getElem hlt⟩
      obtain ⟨g, rfl, _⟩ := hag (by omega)
      have hq : (E.map El.q)[i]? = some el.q := by rw [List.getElem?_map, hel]; rfl
      have HS : Hid ((E.map El.s)[i]? = some el.s) := by show _ = _; rw [List.getElem?_map, hel]; rfl
      have hO := HQ.out.below HBr.out
      rw [← hml] at hO
      obtain ⟨c0, c1, c2⟩ := hO.cells hq
      have hls := (HE.out.below HBr.out).lies hel
      obtain ⟨an, cn, ao, co, hv⟩ := hls.form
      have hv2 := hv
      simp only [encQ, Value.agg.injEq, Array.mk.injEq, List.cons.injEq, and_true, Value.int.injEq, true_and] at hv2
      obtain ⟨e1, e2, e3⟩ := hv2
      rw [hv] at hls
      rw [e1] at c0
      rw [e2] at c1
      rw [e3] at c2
      have HCL := Lib.hid (place_cl el.s y an ao bn bo cn co dn do_ B wr (HC.out.below HBr.out) hls (HY.out.below HBr.out))
      obtain ⟨f, hf⟩ : ∃ f, f = el.s := ⟨_, rfl⟩
      rw [← hf] at HCL HS c0 c1 c2
      obtain ⟨r, hr⟩ : ∃ r, r = f.same y := ⟨_, rfl⟩
      rw [← hr] at HCL
      have HR := Lib.hid hr
      have hi0 : (0 : Int) ≤ (i : Int) := Int.natCast_nonneg _
      clear hel hq hO hls hv e1 e2 e3 hf hr
      cases r with
      | true =>
        have HX := Lib.hid (ixQ_hit HS.out HR.out.symm HI.out)
        go_wp2_with (go_at_fn 45; refine HCL.out.mono ?_; rintro e w5 ⟨rfl, b5⟩)
        go_ret
        exact ⟨ret_k HX.out.symm, HBr.out.trans (b5.mono HBr.out.size)⟩
      | false =>
        have HN : Hid (∀ (j : Nat) (g : Sq), j < i + 1 → (E.map El.s)[j]? = some g → g.same y = false) := fun j g' hj hg => by
          by_cases e : j = i
          · subst e
            obtain rfl := Option.some.inj (HS.out.symm.trans hg)
            exact HR.out.symm
          · exact HI.out j g' (by omega) hg
        go_wp2_with (go_at_fn 45; refine HCL.out.mono ?_; rintro e w5 ⟨rfl, b5⟩)
        go_roundw
        case rel => exact ⟨i + 1, by omega, by go_num, HN, HBr.out.trans (b5.mono HBr.out.size)⟩
        case measure => simp [intOf]; omega
    · have HN := Lib.hid (ixQ_none (F := E.map El.s) (y := y) fun j g hj => HI.out j g (by have := (List.getElem?_eq_some_iff.1 hj).1; rw [List.length_map] at this; omega) hj)
      go_wp2
      go_ret
      exact ⟨ret_k HN.out.symm, HBr.out⟩
end Kern
end Go.Proofs.Ytgbgcaaekpgapac
/- Contract of the program's placeOf. No conditions beyond those that it states. -/
namespace Go.Proofs.Ytgbgcaaekpgapac
open Go.ChangeShapes Go.WideShapes Go.ChangeAt Go.RowKit
open Go.PlainAid Plain
set_option linter.unusedVariables false
namespace Kern
open Seqs Mins
theorem place (v vn : Value) (E : List El) (y : Sq) (bn bo : Option Addr) (dn do_ lo base : Nat) (w : World) (h : OwnQ w base v (E.map El.q)) (hE : Elems w lo E) (h2 : LiesS w (.agg #[.int .i64 y.b, .slice bn y.r.length dn, .slice bo y.o.length do_]) y.b y.r y.o) :
    Calls Try.prog 37 #[.agg #[v, vn], .agg #[.int .i64 y.b, .slice bn y.r.length dn, .slice bo y.o.length do_]] w fun e w' => e = .returned (.int .i64 (atQ (E.map El.s) y : Nat)) ∧ Below w.heap.size w w' := by
  obtain ⟨a, c, rfl, _⟩ := h.form
  have hml : (E.map El.q).length = E.length := List.length_map ..
  have hb0 : ∀ (W : World) o, Below W.heap.size W (W.alloc o) := fun W o => (Below.refl _ _).alloc (Nat.le_refl _) _
  have hb1 := (hb0 w (.cells #[.slice a (E.map El.q).length c, vn] 45)).trans ((hb0 (w.alloc (.cells #[.slice a (E.map El.q).length c, vn] 45)) (.cells #[.int .i64 y.b, .slice bn y.r.length dn, .slice bo y.o.length do_] 30)).mono (by simp))
  have k := (CellsN.new w 45 [.slice a (E.map El.q).length c, vn]).alloc (.cells #[.int .i64 y.b, .slice bn y.r.length dn, .slice bo y.o.length do_] 30)
  have m := Cells3.new (w.alloc (.cells #[.slice a (E.map El.q).length c, vn] 45)) 30 (.int .i64 y.b) (.slice bn y.r.length dn) (.slice bo y.o.length do_)
  have HIX := Lib.hid (place_ix _ E y bn bo dn do_ _ lo base _ (h.below hb1) (hE.below hb1) m (h2.below hb1))
  have HIA := Lib.hid (ixQ_at (E.map El.s) y)
  rw [size_alloc'] at HIX
  rw [hml] at HIX k hb1 ⊢
  rw [List.length_map] at HIA
  have HB := Lib.hid hb1
  have k0 := k.at_ (i := 0) rfl
  have k1 := k.at_ (i := 1) rfl
  obtain ⟨x, hx⟩ : ∃ x, x = ixQ (E.map El.s) y := ⟨_, rfl⟩
  obtain ⟨z, hz⟩ : ∃ x, x = atQ (E.map El.s) y := ⟨_, rfl⟩
  rw [← hx] at HIX HIA
  rw [← hz] at HIA ⊢
  have HK := Lib.hid k
  clear h hE h2 hb0 hb1 k m hx hz hml
  rcases HIA.out with ⟨h1, h2⟩ | ⟨h1, h2⟩
  · have hd := decide_eq_true h1
    go_enter Try.func37, Try.ntmps37
    go_wp2_with fail
    refine HIX.out.mono ?_
    rintro e w' ⟨rfl, hb⟩
    have q0 := (HK.out.below hb).at_ (i := 0) rfl
    have HB2 := Lib.hid (HB.out.trans (hb.mono HB.out.size))
    clear k0 k1 hb
    go_wp2
    go_ret
    exact ⟨ret_k h2.symm, HB2.out⟩
  · have hd := decide_eq_false h1
    go_enter Try.func37, Try.ntmps37
    go_wp2_with fail
    refine HIX.out.mono ?_
    rintro e w' ⟨rfl, hb⟩
    have q0 := (HK.out.below hb).at_ (i := 0) rfl
    have HB2 := Lib.hid (HB.out.trans (hb.mono HB.out.size))
    clear k0 k1 hb
    go_wp2
    go_ret
    exact ⟨ret_k h2.symm, HB2.out⟩
end Kern
end Go.Proofs.Ytgbgcaaekpgapac
/- Communication over a channel inside a walk, nobody else being there: a send into a buffer with room, a receive (with comma-ok) from a buffer that holds something or from a closed channel whose buffer is empty, a close; what a channel's block keeps. No conditions beyond those that each states. -/
namespace Go.Proofs.Ytgbgcaaekpgapac.Plain
open Go.Conc Go.RowKit
section
variable {P : Program} {ops : Array Oper} {Q : Exit → Act → World → Prop} {a : Act} {w : World}
/-- From the operations l of a region on the walk comes to an end of which Q holds. -/
def OpsTo (P : Program) (ops : Array Oper) (Q : Exit → Act → World → Prop) (l : List Nat) (a : Act) (w : World) : Prop :=
  ∀ (b : Frame) (k : List Item) (cs : List Frame), ∃ e a' w', Q e a' w' ∧ Arrives P (lone (b.at a (.inRegion ops l :: k)) cs w) b k cs e a' w'
theorem opsTo_end (h : Q .normal a w) : OpsTo P ops Q [] a w := fun _ _ _ => ⟨.normal, a, w, h, .one step_region_end⟩
theorem opsTo_region {id : Nat} (h : OpsTo P ops Q (List.range ops.size) a w) : (Code.region id ops false).wp P Q a w := fun b k cs =>
  let ⟨e, a', w', q, r⟩ := h b k cs
  ⟨e, a', w', q, .of_steps (.one step_region) r⟩
theorem opsTo_value {i : Nat} {rest : List Nat} {o : Oper} {v : Value} {w' : World} (ho : ops[i]? = some o) (hw : Region.wanted o (yielded ops a.tmps) = true) (hr : (execOp a.eval o).run P w = .ok (.value v) w')
    (h : OpsTo P ops Q rest (a.put o.dst v) w') : OpsTo P ops Q (i :: rest) a w := by
  intro b k cs
  obtain ⟨e, a', w₂, hq, harr⟩ := h b k cs
  refine ⟨e, a', w₂, hq, .of_steps (.one (step_lone_go ?_)) harr⟩
  have hf := Frame.finish_at b a ops i rest k v
  rw [ho] at hf
  rw [stepG_op ho hw]
  simp [stepG.apply, hr, hf]
theorem comm_step {i : Nat} {rest : List Nat} {o : Oper} {cases : Array CommCase} {blocking : Bool} {shape : CommShape} {w' : World} (ho : ops[i]? = some o) (hw : Region.wanted o (yielded ops a.tmps) = true)
    (hr : (execOp a.eval o).run P w = .ok (.comm cases blocking shape) w') (b : Frame) (k : List Item) (cs : List Frame) :
    ∃ es, stepG P true (G (b.at a (.inRegion ops (i :: rest) :: k)) cs) w = .comm (G (b.at a (.inRegion ops (i :: rest) :: k)) cs) cases blocking shape w' es := by
  have h : stepG P true (G (b.at a (.inRegion ops (i :: rest) :: k)) cs) w = stepG.apply P true (b.at a (.inRegion ops (i :: rest) :: k)) cs none (execOp a.eval o) w := stepG_op ho hw
  rw [h]
  simp only [stepG.apply, Sem.runT_eq, hr]
  split <;> exact ⟨_, rfl⟩
theorem opsTo_send {i : Nat} {rest : List Nat} {o : Oper} {c cap s r : Nat} {buf : Array Value} {v z' : Value} {tm : Bool} (ho : ops[i]? = some o) (hw : Region.wanted o (yielded ops a.tmps) = true)
    (hr : (execOp a.eval o).run P w = .ok (.comm #[scase c v z'] true .send) w) (hc : w.heap[c]? = some (.chan cap buf false s r tm)) (hroom : buf.size < cap)
    (h : OpsTo P ops Q rest (a.put o.dst undef) (w.setChan c cap (buf.push v) false (s + 1) r tm)) : OpsTo P ops Q (i :: rest) a w := by
  intro b k cs
  obtain ⟨e, a', w₂, hq, harr⟩ := h b k cs
  obtain ⟨es, hs⟩ := comm_step (P := P) ho hw hr b k cs
  have hst := step_lone_send_room hs hc hroom
  have hf := Frame.finish_at b a ops i rest k undef
  rw [ho] at hf
  rw [hf] at hst
  exact ⟨e, a', w₂, hq, .of_steps (.one hst) harr⟩
theorem opsTo_recv {i : Nat} {rest : List Nat} {o : Oper} {c cap s r : Nat} {buf : Array Value} {z : Value} {closed tm : Bool} (ho : ops[i]? = some o) (hw : Region.wanted o (yielded ops a.tmps) = true)
    (hr : (execOp a.eval o).run P w = .ok (.comm #[rcase c z] true (.recv true)) w) (hc : w.heap[c]? = some (.chan cap buf closed s r tm)) (hsome : 0 < buf.size)
    (h : OpsTo P ops Q rest (a.put o.dst (.tuple #[buf.getD 0 undef, .bool true])) (w.setChan c cap (buf.extract 1 buf.size) closed s (r + 1) tm)) : OpsTo P ops Q (i :: rest) a w := by
  intro b k cs
  obtain ⟨e, a', w₂, hq, harr⟩ := h b k cs
  obtain ⟨es, hs⟩ := comm_step (P := P) ho hw hr b k cs
  have hst := step_lone_recv_buf true hs hc hsome
  have hf := Frame.finish_at b a ops i rest k (got true (buf.getD 0 undef) true)
  rw [ho] at hf
  rw [hf] at hst
  exact ⟨e, a', w₂, hq, .of_steps (.one hst) harr⟩
theorem opsTo_shut {i : Nat} {rest : List Nat} {o : Oper} {c cap s r : Nat} {z : Value} {tm : Bool} (ho : ops[i]? = some o) (hw : Region.wanted o (yielded ops a.tmps) = true)
    (hr : (execOp a.eval o).run P w = .ok (.comm #[rcase c z] true (.recv true)) w) (hc : w.heap[c]? = some (.chan cap #[] true s r tm))
    (h : OpsTo P ops Q rest (a.put o.dst (.tuple #[z, .bool false])) w) : OpsTo P ops Q (i :: rest) a w := by
  intro b k cs
  obtain ⟨e, a', w₂, hq, harr⟩ := h b k cs
  obtain ⟨es, hs⟩ := comm_step (P := P) ho hw hr b k cs
  have hst := step_lone_recv_shut true hs hc
  have hf := Frame.finish_at b a ops i rest k (got true z false)
  rw [ho] at hf
  rw [hf] at hst
  exact ⟨e, a', w₂, hq, .of_steps (.one hst) harr⟩
end
end Go.Proofs.Ytgbgcaaekpgapac.Plain
/- What the search for a kernel of the program keeps: the kernel that it builds, its channel, what stays of them at each kind of write. No conditions beyond those that each states. -/
namespace Go.Proofs.Ytgbgcaaekpgapac
open Go.ChangeShapes Go.WideShapes Go.ChangeAt Go.RowKit
open Go.PlainAid Plain Go.Conc
set_option linter.unusedVariables false
namespace Kern
open Seqs Mins
/-- The row of the places of those that digits lead to. -/
def fAt (m : Sq) (b i : Nat) : Sq := (kF m b (b * i)).getD i m
def kRow (m : Sq) (b i r : Nat) : List Int := (List.range r).map fun j => ((atQ (kF m b (b * i + j)) (sub (fAt m b i) (j : Int)) : Nat) : Int)
def kRows (m : Sq) (b i : Nat) : List (List Int) := (List.range i).map fun i => kRow m b i b
theorem kRow_len (m : Sq) (b i r : Nat) : (kRow m b i r).length = r := by simp [kRow]
theorem kRow_succ (m : Sq) (b i r : Nat) : kRow m b i (r + 1) = kRow m b i r ++ [((atQ (kF m b (b * i + r)) (sub (fAt m b i) (r : Int)) : Nat) : Int)] := by simp [kRow, List.range_succ]
theorem kRows_succ (m : Sq) (b i : Nat) : kRows m b (i + 1) = kRows m b i ++ [kRow m b i b] := by simp [kRows, List.range_succ]
theorem kRows_len (m : Sq) (b i : Nat) : (kRows m b i).length = i := by simp [kRows]
theorem kRow_set (m : Sq) (b i r n : Nat) (h : r < n) (x : Int) (hx : ((atQ (kF m b (b * i + r)) (sub (fAt m b i) (r : Int)) : Nat) : Int) = x) : ((kRow m b i r ++ List.replicate (n - r) (0 : Int)).map (Value.int .i64)).set r (.int .i64 x) = (kRow m b i (r + 1) ++ List.replicate (n - (r + 1)) (0 : Int)).map (Value.int .i64) := by
  rw [← List.map_set, List.set_append_right _ _ (by rw [kRow_len]; omega), kRow_len, Nat.sub_self, show n - r = (n - (r + 1)) + 1 from by omega, List.replicate_succ, List.set_cons_zero, kRow_succ, hx, List.append_assoc]
  rfl
theorem grown_setChan (w : World) (c cap : Nat) (buf : Array Value) (cl : Bool) (s r : Nat) (tm : Bool) : w.grownBy (w.setChan c cap buf cl s r tm) (some c) :=
  ⟨rfl, rfl, rfl, by rw [size_setChan]; exact Nat.le_refl _, fun k _ hk => by
    have : c ≠ k := fun e => hk (by rw [e])
    simp only [World.setChan]
    rw [Array.getElem?_setIfInBounds_ne this]⟩
theorem grown_cell' (w : World) (g j : Nat) (v : Value) : w.grownBy (w.setCell ⟨g, j, none⟩ v) (some g) :=
  ⟨rfl, rfl, rfl, by rw [size_setCell']; exact Nat.le_refl _, fun k _ hk => by
    have : k ≠ g := fun e => hk (by rw [e])
    exact heap_setCell_other w ⟨g, j, none⟩ k v this⟩
theorem touch_of_grown {w w' : World} {g : Nat} (h : w.grownBy w' (some g)) : Plain.Touch g (g + 1) w w' := ⟨h.os, h.tape, h.output, h.size, fun k hk hn => h.block k hk (fun e => by have := Option.some.inj e; omega)⟩
theorem below_of_none {w w' : World} (h : w.grownBy w' none) : Below w.heap.size w w' := ⟨h.os, h.tape, h.output, h.size, fun k hk => h.block k hk (by simp)⟩
theorem Elems.grown {w w' : World} {lo : Nat} {E : List El} {r : Option Nat} (h : Elems w lo E) (hg : w.grownBy w' r) (ha : ∀ g, r = some g → Avoid E g) : Elems w' lo E := by
  cases r with
  | none => exact h.below (below_of_none hg)
  | some g => exact h.touch (touch_of_grown hg) (ha g rfl)
theorem HasRows.block {w : World} {lo hi : Nat} {v : Value} {rows : List (List Int)} (h : HasRows w lo hi v rows) : ∀ k, v.ownBlock = some k → (lo ≤ k ∧ k < w.heap.size) ∧ ∃ cur, w.heap[k]? = some (.cells cur 23 (0, 0)) := by
  obtain ⟨us, h1, _⟩ := h
  intro k hk
  refine ⟨h1.lt k hk, ?_⟩
  rcases h1.2 with ⟨rfl, _⟩ | ⟨g, cap, cur, rfl, _, hg, _⟩
  · cases hk
  · obtain rfl := Option.some.inj hk
    exact ⟨cur, hg⟩
theorem OwnQ.block {w : World} {base : Nat} {v : Value} {L : List QV} (h : OwnQ w base v L) : ∀ k, v.ownBlock = some k → ∃ cur, w.heap[k]? = some (.cells cur 30 (0, 0)) := by
  intro k hk
  rcases h.2 with ⟨rfl, _⟩ | ⟨g, cap, cur, rfl, _, hg, _⟩
  · cases hk
  · obtain rfl := Option.some.inj hk
    exact ⟨cur, hg⟩
theorem HasRows.write {w w' : World} {lo hi g : Nat} {v : Value} {rows : List (List Int)} (h : HasRows w lo hi v rows) (hg : w.grownBy w' (some g)) (hhi : hi ≤ g) (hn : v.ownBlock ≠ some g) : HasRows w' lo hi v rows := by
  obtain ⟨us, h1, h2, h3, h4⟩ := h
  exact ⟨us, h1.grown hg (.inr hn), ⟨h2.len, fun i u r hu hr => (h2.row i u r hu hr).grown hg (fun k hk => by have := Option.some.inj hk; omega), h2.apart⟩, h3, Nat.le_trans h4 hg.size⟩
/-- 'v = append(v, x)', x a row made behind all the others; where the new slice lies. -/
theorem wpList_append_row3 {P : Program} {wr : World} {lo hi : Nat} {rows : List (List Int)} {ops : Array Oper} {rest : List Oper} {o : Oper} {a : Act} {Q : Exit → Act → World → Prop} (hgd : o.guard = none) (s x : Operand) (t : TypeId)
    (ho : o.op = .call { callee := .builtin .append, args := #[s, x], argTypes := #[t, t] })
    (i : TypeInfo) (ht : P.underlying t = some (.slice 23)) (hi' : P.info? 23 = some i) (hz : i.zero = some (.slice none 0 0))
    (hsize : i.size = 1) (hby : i.bytes = 24) (v : Value) (hs : a.eval s = v) (hown : HasRows wr lo hi v rows) (u : Value) (r : List Int) (hu : Has (Value.int .i64) 3 wr hi u r)
    (g : Nat) (hx : a.eval x = .slice (some ⟨g, 0, none⟩) 1 1) (hgs : g = wr.heap.size) (hlen : rows.length ≤ 100000)
    (h : ∀ v' w', HasRows w' lo w'.heap.size v' (rows ++ [r]) → wr.grownBy w' v.ownBlock → (∀ k, v'.ownBlock = some k → v.ownBlock = some k ∨ wr.heap.size ≤ k) → wpList P ops Q rest (a.put o.dst v') w') :
    wpList P ops Q (o :: rest) a (wr.alloc (.cells #[u] 23)) := by
  subst hgs
  obtain ⟨us, h1, h2, h3, h4⟩ := hown
  have hu1 : u.oneCell' = true := by
    obtain ⟨a, c, h5, _⟩ := hu.form
    rw [h5]
    rfl
  have hul := h2.len
  refine wpList_append_list (enc := id) (e := 23) hgd s x t ho lo i (.slice none 0 0) 24 ht hi' hz hsize hby rfl v us hs (has_alloc h1 _) (.slice (some ⟨wr.heap.size, 0, none⟩) 1 1) [u] hx (lies_lit1v u rfl) (fun y hy => by simp at hy; subst hy; exact hu1) (by simp; omega) (by simp; omega) (by simp; omega) ?_
  intro v' w' hv' hg hb
  have hg' : wr.grownBy w' v.ownBlock := grown_alloc hg
  have hI : OwnI wr hi wr.heap.size u r := ⟨hu, fun k hk => (hu.lt k hk).2, Nat.le_refl _⟩
  have h5 := h2.snoc hI h3 h4
  have h6 := h5.top_grown h1 hg'
  exact h v' w' ⟨us ++ [u], hv', h6.mono hg'.size (Nat.le_refl _), Nat.le_trans h3 (Nat.le_trans h4 hg'.size), Nat.le_refl _⟩ hg' (fun k hk => (hb k hk).imp id (fun h => by simp at h; omega))
/-- 'v = append(v, q)'; where the new slice lies. -/
theorem wpList_append_q3 {P : Program} {wr : World} {base : Nat} {L : List QV} {ops : Array Oper} {rest : List Oper} {o : Oper} {a : Act} {Q : Exit → Act → World → Prop} {x0 : Int} {x1 x2 : Value} (hgd : o.guard = none) (s x : Operand) (t : TypeId)
    (ho : o.op = .call { callee := .builtin .append, args := #[s, x], argTypes := #[t, t] })
    (i : TypeInfo) (ht : P.underlying t = some (.slice 30)) (hi : P.info? 30 = some i) (hz : i.zero = some (.agg #[.int .i64 0, .slice none 0 0, .slice none 0 0]))
    (hsize : i.size = 3) (hby : i.bytes = 56) (v : Value) (hs : a.eval s = v) (hown : OwnQ wr base v L) (g : Nat) (hx : a.eval x = .slice (some ⟨g, 0, none⟩) 1 1) (hgs : g = wr.heap.size)
    (h1 : x1.oneCell' = true) (h2 : x2.oneCell' = true) (hlen : L.length ≤ 100000) (hb : base ≤ wr.heap.size)
    (h : ∀ v' w', OwnQ w' base v' (L ++ [(x0, x1, x2)]) → wr.grownBy w' v.ownBlock → (∀ k, v'.ownBlock = some k → v.ownBlock = some k ∨ wr.heap.size ≤ k) → wpList P ops Q rest (a.put o.dst v') w') :
    wpList P ops Q (o :: rest) a (wr.alloc (.cells #[.int .i64 x0, x1, x2] 30)) := by
  subst hgs
  have hal : Below wr.heap.size wr (wr.alloc (.cells #[.int .i64 x0, x1, x2] 30)) := (Below.refl _ _).alloc (Nat.le_refl _) _
  refine wpList_append_own_at _ hgd s x t ho base 30 i _ 3 56 ht hi hz hsize hby rfl (by decide) v L.length (flatQ L) hs (hown.below hal) ⟨wr.heap.size, 0, none⟩ 1 1 (flatQ [(x0, x1, x2)]) hx rfl (fun j u hj => ?_) (fun u hu => ?_) (by unfold maxLen; omega) (by omega) (by simp; omega) ?_
  · rw [addr_add]
    have hcell : ∀ j u, [Value.int .i64 x0, x1, x2][j]? = some u → (wr.alloc (.cells #[.int .i64 x0, x1, x2] 30)).cell? ⟨wr.heap.size, j, none⟩ = some u := fun j u hj => (CellsN.new wr 30 [.int .i64 x0, x1, x2]).at_ hj
    exact hcell j u hj
  · rw [flatQ_one] at hu
    rcases List.mem_cons.1 hu with rfl | hu
    · rfl
    · rcases List.mem_cons.1 hu with rfl | hu
      · exact h1
      · rw [List.mem_singleton.1 hu]; exact h2
  · intro v' w' ho' hg' _ hb'
    refine h v' w' ?_ (grown_alloc hg') (fun k hk => by
      rcases hb' with h1 | h1
      · exact .inl (h1 ▸ hk)
      · rw [h1] at hk
        have := Option.some.inj hk
        simp at this
        exact .inr (by omega))
    show w'.ownsRow _ _ _ _ _ _
    rw [List.length_append, flatQ_append]
    exact ho'
/-- What the search keeps: k the kernel's block, c the channel's. -/
structure KS (w wr : World) (x0 x1 x2 : Value) (k c : Nat) (vf vn : Value) (E : List El) (rows : List (List Int)) (hi : Nat) (buf : List Value) (cl : Bool) : Prop where
  below : Below w.heap.size w wr
  box : Cells3 wr w.heap.size 30 x0 x1 x2
  res : CellsN wr (w.heap.size + 1) 45 [.slice none 0 0, .slice none 0 0]
  ker : CellsN wr k 45 [vf, vn]
  chan : ∃ s r, wr.heap[c]? = some (.chan 40 buf.toArray cl s r false)
  own : OwnQ wr (w.heap.size + 2) vf (E.map El.q)
  els : Elems wr w.heap.size E
  next : HasRows wr (w.heap.size + 2) hi vn rows
  av : ∀ g, vn.ownBlock = some g → Avoid E g
  hk : w.heap.size + 2 ≤ k
  hc : w.heap.size + 2 ≤ c
  hkc : k ≠ c
section
variable {w wr w' w5 : World} {x0 x1 x2 : Value} {k c hi : Nat} {vf vn : Value} {E : List El} {rows : List (List Int)} {buf : List Value} {cl : Bool}
theorem KS.clt (h : KS w wr x0 x1 x2 k c vf vn E rows hi buf cl) : c < wr.heap.size := by
  obtain ⟨s, r, hc⟩ := h.chan
  exact (Array.getElem?_eq_some_iff.1 hc).1
theorem KS.call (h : KS w wr x0 x1 x2 k c vf vn E rows hi buf cl) (hb : Below wr.heap.size wr w') : KS w w' x0 x1 x2 k c vf vn E rows hi buf cl :=
  ⟨h.below.trans (hb.mono h.below.size), h.box.below hb, h.res.below hb, h.ker.below hb, by obtain ⟨s, r, hc⟩ := h.chan; exact ⟨s, r, (hb.block c h.clt).trans hc⟩, h.own.below hb, h.els.below hb, h.next.below hb, h.av, h.hk, h.hc, h.hkc⟩
theorem KS.vf_ne_chan (h : KS w wr x0 x1 x2 k c vf vn E rows hi buf cl) : vf.ownBlock ≠ some c := fun e => by
  obtain ⟨s, r, hc⟩ := h.chan
  obtain ⟨cur, h1⟩ := h.own.block c e
  rw [hc] at h1; cases h1
theorem KS.vn_ne_chan (h : KS w wr x0 x1 x2 k c vf vn E rows hi buf cl) : vn.ownBlock ≠ some c := fun e => by
  obtain ⟨s, r, hc⟩ := h.chan
  obtain ⟨_, cur, h1⟩ := HasRows.block h.next c e
  rw [hc] at h1; cases h1
theorem KS.vf_ne_ker (h : KS w wr x0 x1 x2 k c vf vn E rows hi buf cl) : vf.ownBlock ≠ some k := fun e => by
  obtain ⟨cur, h1⟩ := h.own.block k e
  rw [h.ker.row] at h1
  simp at h1
theorem KS.vn_ne_ker (h : KS w wr x0 x1 x2 k c vf vn E rows hi buf cl) : vn.ownBlock ≠ some k := fun e => by
  obtain ⟨_, cur, h1⟩ := HasRows.block h.next k e
  rw [h.ker.row] at h1
  simp at h1
theorem KS.vf_ne_vn (h : KS w wr x0 x1 x2 k c vf vn E rows hi buf cl) : ∀ g, vf.ownBlock = some g → vn.ownBlock ≠ some g := fun g e e' => by
  obtain ⟨cur, h1⟩ := h.own.block g e
  obtain ⟨_, cur', h2⟩ := HasRows.block h.next g e'
  rw [h1] at h2
  simp at h2
/-- The channel turns. -/
theorem KS.set (h : KS w wr x0 x1 x2 k c vf vn E rows hi buf cl) (buf' : List Value) (a : Array Value) (ha : a = buf'.toArray) (cl' : Bool) (s' r' : Nat) : KS w (wr.setChan c 40 a cl' s' r' false) x0 x1 x2 k c vf vn E rows hi buf' cl' := by
  subst ha
  have hg := grown_setChan wr c 40 buf'.toArray cl' s' r' false
  obtain ⟨s, r, hc⟩ := h.chan
  have hkp : KeepsIR wr (wr.setChan c 40 buf'.toArray cl' s' r' false) := KeepsIR.of_grown hg (fun cur e fr h1 => by rw [hc] at h1; cases h1)
  have h0 := h.hk
  have h1 := h.hc
  exact ⟨below_setChan h.below (by omega) _ _ _ _ _ _, h.box.grown hg (fun e => by have := Option.some.inj e; omega), h.res.grown hg (fun e => by have := Option.some.inj e; omega), h.ker.grown hg (fun e => h.hkc (Option.some.inj e).symm),
    ⟨s', r', heap_setChan wr c 40 _ _ _ _ _ h.clt⟩, h.own.kept hg (.inr h.vf_ne_chan), h.els.keep hkp, HasRows.keep h.next hkp, h.av, h.hk, h.hc, h.hkc⟩
/-- A block of ints that is the call's own turns. -/
theorem KS.write (h : KS w wr x0 x1 x2 k c vf vn E rows hi buf cl) {g : Nat} (j : Nat) (u : Value) {cur : Array Value} (hI : wr.heap[g]? = some (.cells cur 3 (0, 0))) (hlo : w.heap.size + 2 ≤ g) (hhi : hi ≤ g) (ha : Avoid E g) : KS w (wr.setCell ⟨g, j, none⟩ u) x0 x1 x2 k c vf vn E rows hi buf cl := by
  have hg := grown_cell' wr g j u
  have n1 : g ≠ k := fun e => by subst e; rw [h.ker.row] at hI; simp at hI
  have n2 : g ≠ c := fun e => by subst e; obtain ⟨s, r, hc⟩ := h.chan; rw [hc] at hI; cases hI
  have n3 : vf.ownBlock ≠ some g := fun e => by obtain ⟨cur, h1⟩ := h.own.block g e; rw [hI] at h1; simp at h1
  have n4 : vn.ownBlock ≠ some g := fun e => by obtain ⟨_, cur, h1⟩ := HasRows.block h.next g e; rw [hI] at h1; simp at h1
  exact ⟨h.below.setCell (p := ⟨g, j, none⟩) (by show _ ≤ g; omega) _, h.box.grown hg (fun e => by have := Option.some.inj e; omega), h.res.grown hg (fun e => by have := Option.some.inj e; omega), h.ker.grown hg (fun e => n1 (Option.some.inj e)),
    by obtain ⟨s, r, hc⟩ := h.chan; exact ⟨s, r, (hg.block c h.clt (fun e => n2 (Option.some.inj e).symm)).trans hc⟩, h.own.kept hg (.inr n3), h.els.grown hg (fun g' e => by cases e; exact ha), HasRows.write h.next hg hhi n4, h.av, h.hk, h.hc, h.hkc⟩
/-- A sequence is put behind those found. -/
theorem KS.add (h : KS w wr x0 x1 x2 k c vf vn E rows hi buf cl) {v' : Value} (e : El) (ho : OwnQ w5 (w.heap.size + 2) v' ((E ++ [e]).map El.q)) (hg : wr.grownBy w5 vf.ownBlock) (hE : Elems wr w.heap.size (E ++ [e])) (hav : ∀ g, vn.ownBlock = some g → Avoid (E ++ [e]) g) : KS w (w5.setCell ⟨k, 0, none⟩ v') x0 x1 x2 k c v' vn (E ++ [e]) rows hi buf cl := by
  have hk5 := h.ker.grown hg h.vf_ne_ker
  have hg2 := grown_cell' w5 k 0 v'
  have hkp1 := h.own.keepsIR hg
  have hkp2 : KeepsIR w5 (w5.setCell ⟨k, 0, none⟩ v') := KeepsIR.of_grown hg2 (fun cur e fr h1 => by rw [hk5.row] at h1; simp at h1; rcases h1 with ⟨_, h1, _⟩; rw [← h1]; decide)
  have h0 := h.hk
  have h1 := h.hc
  have hlt := h.own.lt
  have hb : Below w.heap.size w w5 := h.own.frame h.below (by omega) hg
  refine ⟨hb.setCell (p := ⟨k, 0, none⟩) (by show _ ≤ k; omega) _, (h.box.grown hg (fun e => by have := (hlt _ e).1; omega)).grown hg2 (fun e => by have := Option.some.inj e; omega), (h.res.grown hg (fun e => by have := (hlt _ e).1; omega)).grown hg2 (fun e => by have := Option.some.inj e; omega), hk5.set 0 v', ?_, ho.kept hg2 (.inr (fun e => ?_)), (hE.keep hkp1).keep hkp2, HasRows.keep (HasRows.keep h.next hkp1) hkp2, hav, h.hk, h.hc, h.hkc⟩
  · obtain ⟨s, r, hc⟩ := h.chan
    have hc5 := (hg.block c h.clt (Ne.symm h.vf_ne_chan)).trans hc
    exact ⟨s, r, (hg2.block c (Array.getElem?_eq_some_iff.1 hc5).1 (fun e => h.hkc (Option.some.inj e).symm)).trans hc5⟩
  · obtain ⟨cur, h1⟩ := ho.block k e
    rw [hk5.row] at h1
    simp at h1
/-- A row is put behind the rows. -/
theorem KS.put (h : KS w wr x0 x1 x2 k c vf vn E rows hi buf cl) {v' : Value} {rows' : List (List Int)} (ho : HasRows w5 (w.heap.size + 2) w5.heap.size v' rows') (hg : wr.grownBy w5 vn.ownBlock) (hb' : ∀ k, v'.ownBlock = some k → vn.ownBlock = some k ∨ wr.heap.size ≤ k) : KS w (w5.setCell ⟨k, 1, none⟩ v') x0 x1 x2 k c vf v' E rows' w5.heap.size buf cl := by
  have hk5 := h.ker.grown hg h.vn_ne_ker
  have hg2 := grown_cell' w5 k 1 v'
  have hkp2 : KeepsIR w5 (w5.setCell ⟨k, 1, none⟩ v') := KeepsIR.of_grown hg2 (fun cur e fr h1 => by rw [hk5.row] at h1; simp at h1; rcases h1 with ⟨_, h1, _⟩; rw [← h1]; decide)
  have h0 := h.hk
  have h1 := h.hc
  have hlt := fun k e => (HasRows.block h.next k e).1
  have hb : Below w.heap.size w w5 := HasRows.frame h.next h.below (by omega) hg
  have ho5 : OwnQ w5 (w.heap.size + 2) vf (E.map El.q) := h.own.kept hg (by
    cases hv : vf.ownBlock with
    | none => exact .inl rfl
    | some g => exact .inr (fun e => h.vf_ne_vn g hv e.symm))
  refine ⟨hb.setCell (p := ⟨k, 1, none⟩) (by show _ ≤ k; omega) _, (h.box.grown hg (fun e => by have := (hlt _ e).1; omega)).grown hg2 (fun e => by have := Option.some.inj e; omega), (h.res.grown hg (fun e => by have := (hlt _ e).1; omega)).grown hg2 (fun e => by have := Option.some.inj e; omega), hk5.set 1 v', ?_, ho5.kept hg2 (.inr (fun e => ?_)), (h.els.grown hg h.av).keep hkp2, ?_, fun g e => ?_, h.hk, h.hc, h.hkc⟩
  · obtain ⟨s, r, hc⟩ := h.chan
    have hc5 := (hg.block c h.clt (Ne.symm h.vn_ne_chan)).trans hc
    exact ⟨s, r, (hg2.block c (Array.getElem?_eq_some_iff.1 hc5).1 (fun e => h.hkc (Option.some.inj e).symm)).trans hc5⟩
  · exact h.vf_ne_ker e
  · exact HasRows.keep ho hkp2
  · rcases hb' g e with h1 | h1
    · exact h.av g h1
    · exact Avoid.new h.els h1
end
end Kern
end Go.Proofs.Ytgbgcaaekpgapac
/- Contract of the program's searchedKernel. No conditions beyond those that it states. -/
namespace Go.Proofs.Ytgbgcaaekpgapac
open Go.ChangeShapes Go.WideShapes Go.ChangeAt Go.RowKit
open Go.PlainAid Plain Go.Conc
set_option linter.unusedVariables false
namespace Kern
open Seqs Mins
theorem infoRk : (Try.prog.info? 23).map (fun i => (i.zero, i.size, i.bytes)) = some (some (.slice none 0 0), 1, 24) := by kernel_rfl
theorem infoSq : ∃ i, Try.prog.info? 30 = some i ∧ i.bytes = 56 := by
  have h : (Try.prog.info? 30).map (·.bytes) = some 56 := by kernel_rfl
  obtain ⟨i, hi, hb⟩ := Option.map_eq_some_iff.1 h
  exact ⟨i, hi, hb⟩
theorem mk40 (w : World) : (Instr.makeChan 52 (.int .i64 40)).run Try.prog w = .ok (.chan (some w.heap.size)) (w.alloc (.chan 40 #[] false 0 0 false)) := by
  obtain ⟨i, hi, hb⟩ := infoSq
  simpa using run_makeChan (P := Try.prog) (w := w) Try.underlying52 hi .i64 40 (by omega) (by rw [hb]; omega)
/-- A kernel of the call's own, and whether there is one. -/
def GivesKS (L : List Sq) (R : List (List Int)) (k : Bool) (w : World) (en : Ending) (w' : World) : Prop := ∃ vf vn E, en = .returned (.tuple #[.agg #[vf, vn], .bool k]) ∧ OwnQ w' w.heap.size vf (E.map El.q) ∧ Elems w' w.heap.size E ∧ E.map El.s = L ∧ (∃ lo hi, w.heap.size ≤ lo ∧ HasRows w' lo hi vn R) ∧ Below w.heap.size w w'
def kerR (b : Int) (rows : List (List Int)) (out : List Int) : List (List Int) := if kerK b rows out = true then kRows (mini b rows out) b.toNat (kerV b rows out).length else []
set_option maxRecDepth 100000 in
set_option maxHeartbeats 2000000 in
theorem impl_ker_no (v : Value) (b : Int) (rows : List (List Int)) (out : List Int) (w : World) (h : LiesS w v b rows out) (hs : rows.length + tot rows + out.length ≤ 1048576) (hk : formK b rows out = false) :
    Calls Try.prog 24 #[v] w (GivesKS [] [] false w) := by
  have HS := Lib.hid h
  obtain ⟨an, cn, ao, co, rfl⟩ := h.form
  clear h
  have HB : Hid (Below w.heap.size w (w.alloc (Obj.cells #[Value.int .i64 b, Value.slice an rows.length cn, Value.slice ao out.length co] 30))) := (Below.refl _ _).alloc (Nat.le_refl _) _
  have HC := Lib.hid (Cells3.new w 30 (.int .i64 b) (.slice an rows.length cn) (.slice ao out.length co))
  have HB0 : Hid (Below w.heap.size w ((w.alloc (Obj.cells #[Value.int .i64 b, Value.slice an rows.length cn, Value.slice ao out.length co] 30)).alloc (Obj.cells #[Value.slice none 0 0, Value.slice none 0 0] 45))) := HB.out.alloc (by simp only [size_alloc'] <;> omega) _
  have HC0 := Lib.hid (HC.out.alloc (Obj.cells #[Value.slice none 0 0, Value.slice none 0 0] 45))
  have hr := CellsN.new (w.alloc (Obj.cells #[Value.int .i64 b, Value.slice an rows.length cn, Value.slice ao out.length co] 30)) 45 [.slice none 0 0, .slice none 0 0]
  rw [size_alloc'] at hr
  have HR0 := Lib.hid hr
  have HCF : Hid (Calls Try.prog 35 #[.agg #[.int .i64 b, .slice an rows.length cn, .slice ao out.length co]] ((w.alloc (Obj.cells #[Value.int .i64 b, Value.slice an rows.length cn, Value.slice ao out.length co] 30)).alloc (Obj.cells #[Value.slice none 0 0, Value.slice none 0 0] 45)) (GivesK (formB b rows out) (minRV b rows out) (minOV b rows out) false ((w.alloc (Obj.cells #[Value.int .i64 b, Value.slice an rows.length cn, Value.slice ao out.length co] 30)).alloc (Obj.cells #[Value.slice none 0 0, Value.slice none 0 0] 45)))) := by
    have h1 := impl_min _ b rows out _ (HS.out.below HB0.out) hs
    rw [hk] at h1
    exact h1
  have k0 := HC0.out.c0
  have k1 := HC0.out.c1
  have k2 := HC0.out.c2
  clear hr hs hk HB HC
  go_enter Try.func24, Try.ntmps24
  go_wp2_with fail
  refine HCF.out.mono ?_
  rintro e W1 ⟨v1, rfl, hv1, b1⟩
  obtain ⟨a1, c1, a2, c2, rfl⟩ := hv1.form
  have HB1 := Lib.hid (HB0.out.trans (b1.mono HB0.out.size))
  have HR1 := Lib.hid (HR0.out.below b1)
  clear hv1 b1 k0 k1 k2
  have hbx : ∀ o, Below W1.heap.size W1 (W1.alloc o) := fun o => (Below.refl _ _).alloc (Nat.le_refl _) _
  have HX := Lib.hid (HR1.out.below (hbx (.cells #[.int .i64 (formB b rows out), .slice a1 (minRV b rows out).length c1, .slice a2 (minOV b rows out).length c2] 30)))
  have HBX := Lib.hid (HB1.out.trans ((hbx (.cells #[.int .i64 (formB b rows out), .slice a1 (minRV b rows out).length c1, .slice a2 (minOV b rows out).length c2] 30)).mono HB1.out.size))
  have z0 := HX.out.at_ (i := 0) rfl
  have z1 := HX.out.at_ (i := 1) rfl
  have z2 := HX.out.f
  go_wp2
  have hZ := (HX.out.set 0 (.slice none 0 0)).set 1 (.slice none 0 0)
  have n0 := hZ.at_ (i := 0) rfl
  have n1 := hZ.at_ (i := 1) rfl
  refine bodyPost_ret (v := .tuple #[.agg #[(.slice none 0 0), (.slice none 0 0)], .bool false]) (by simp [results, Try.results24, go_sem, n0, n1]) rfl ?_
  exact ⟨_, _, [], rfl, OwnQ.nil _ _, Elems.nil _ _, rfl, ⟨_, _, Nat.le_refl _, HasRows.nil (World.ownsRow_nil _ _ _ _) (((HBX.out.setCell (Nat.le_succ _) _).setCell (Nat.le_succ _) _).size)⟩, (HBX.out.setCell (Nat.le_succ _) _).setCell (Nat.le_succ _) _⟩
theorem ker_sub_i (e : El) (bn : Nat) (W : World) (hl : LiesS W (encQ e.q) e.s.b e.s.r e.s.o) (hg : Good (bn : Int) e.s) (r : Nat) (hr : r < bn) :
    Calls Try.prog 36 #[encQ e.q, .int .i64 r] W (fun en W' => ∃ v, en = .returned (.tuple #[v, .bool true]) ∧ OwnS W' W.heap.size W'.heap.size v (sub e.s r).b (sub e.s r).r (sub e.s r).o ∧ Below W.heap.size W W') := by
  have h1 := impl_sub (encQ e.q) e.s.b e.s.r e.s.o W hl (r : Int) hg.size
  rw [(hg.sub (by omega) (by omega)).2] at h1
  exact h1
theorem fAt_eq {m : Sq} {b i r : Nat} {f : Sq} {F : List Sq} (hF : F = kF m b (b * i + r)) (hf : F[i]? = some f) (hl : i < (kF m b (b * i)).length) : fAt m b i = f := by
  obtain ⟨g, hg⟩ : ∃ g, (kF m b (b * i))[i]? = some g := ⟨_, List.getElem?_eq_getElem hl⟩
  have h1 := kF_get (k := b * i + r) (Nat.le_add_right _ _) hg
  rw [← hF, hf] at h1
  rw [fAt, List.getD_eq_getElem?_getD, hg, Option.getD_some]
  exact (Option.some.inj h1).symm
section
variable {P : Program} {ops : Array Oper} {Q : Exit → Act → World → Prop} {a : Act} {w wr : World} {x0 x1 x2 : Value} {k c hi : Nat} {vf vn : Value} {E : List El} {rows : List (List Int)} {cl : Bool} {i : Nat} {rest : List Nat} {o : Oper}
theorem ks_recv {x : Value} (z : Value) {T : List Value} (HK : KS w wr x0 x1 x2 k c vf vn E rows hi (x :: T) cl) (ho : ops[i]? = some o) (hw : Region.wanted o (yielded ops a.tmps) = true)
    (hr : (execOp a.eval o).run P wr = .ok (.comm #[rcase c z] true (.recv true)) wr) (h : ∀ W', KS w W' x0 x1 x2 k c vf vn E rows hi T cl → wr.grownBy W' (some c) → OpsTo P ops Q rest (a.put o.dst (.tuple #[x, .bool true])) W') : OpsTo P ops Q (i :: rest) a wr := by
  obtain ⟨s, r, hc⟩ := HK.chan
  refine opsTo_recv ho hw hr hc (by simp) ?_
  have e : (x :: T).toArray.getD 0 undef = x := by simp
  rw [e]
  exact h _ (HK.set T _ (by simp) cl s (r + 1)) (grown_setChan ..)
theorem ks_shut (z : Value) (HK : KS w wr x0 x1 x2 k c vf vn E rows hi [] true) (ho : ops[i]? = some o) (hw : Region.wanted o (yielded ops a.tmps) = true)
    (hr : (execOp a.eval o).run P wr = .ok (.comm #[rcase c z] true (.recv true)) wr) (h : OpsTo P ops Q rest (a.put o.dst (.tuple #[z, .bool false])) wr) : OpsTo P ops Q (i :: rest) a wr := by
  obtain ⟨s, r, hc⟩ := HK.chan
  exact opsTo_shut ho hw hr hc h
theorem ks_send (v z' : Value) {T : List Value} (HK : KS w wr x0 x1 x2 k c vf vn E rows hi T false) (hT : T.length < 40) (ho : ops[i]? = some o) (hw : Region.wanted o (yielded ops a.tmps) = true)
    (hr : (execOp a.eval o).run P wr = .ok (.comm #[scase c v z'] true .send) wr) (h : ∀ W', KS w W' x0 x1 x2 k c vf vn E rows hi (T ++ [v]) false → wr.grownBy W' (some c) → OpsTo P ops Q rest (a.put o.dst undef) W') : OpsTo P ops Q (i :: rest) a wr := by
  obtain ⟨s, r, hc⟩ := HK.chan
  refine opsTo_send ho hw hr hc (by simpa using hT) ?_
  exact h _ (HK.set (T ++ [v]) _ (by simp) false (s + 1) r) (grown_setChan ..)
end
theorem row_block {W : World} {zb n : Nat} {L : List Value} (h : W.ownsRow zb 3 1 (.slice (some ⟨zb, 0, none⟩) n n) n L) : ∃ cur, W.heap[zb]? = some (.cells cur 3 (0, 0)) := by
  rcases h.2 with ⟨h1, _⟩ | ⟨g, cap, cur, h1, _, hg, _⟩
  · cases h1
  · injection h1 with h1
    injection h1 with h1
    injection h1 with h1
    subst h1
    exact ⟨cur, hg⟩
theorem row_write {W : World} {zb n i r : Nat} {m : Sq} {F : List Sq} {f y : Sq} {z : Nat} (h : W.ownsRow zb 3 1 (.slice (some ⟨zb, 0, none⟩) n n) n ((kRow m n i r ++ List.replicate (n - r) (0 : Int)).map (Value.int .i64))) (hr : r < n) (hF : F = kF m n (n * i + r)) (hf : fAt m n i = f) (hy : y = sub f (r : Int)) (hz : z = atQ F y) :
    (∃ u, W.cell? ⟨zb, r, none⟩ = some u) ∧ W.frozen? ⟨zb, r, none⟩ = false ∧ (W.setCell ⟨zb, r, none⟩ (.int .i64 (z : Int))).ownsRow zb 3 1 (.slice (some ⟨zb, 0, none⟩) n n) n ((kRow m n i (r + 1) ++ List.replicate (n - (r + 1)) (0 : Int)).map (Value.int .i64)) := by
  refine ⟨?_, h.frozenAt r, ?_⟩
  · have h1 := h.cellAt r (by omega)
    have hlen : r < ((kRow m n i r ++ List.replicate (n - r) (0 : Int)).map (Value.int .i64)).length := by
      rw [List.length_map, List.length_append, kRow_len, List.length_replicate]; omega
    rw [List.getElem?_eq_getElem hlen] at h1
    exact ⟨_, h1⟩
  · have h1 := (h.stored r (.int .i64 (z : Int))).1
    rw [kRow_set m n i r n hr (z : Int) (by rw [hf, hz, hF, hy])] at h1
    exact h1
theorem KS.done {w wr : World} {x0 x1 x2 : Value} {k c hi : Nat} {vf vn : Value} {E : List El} {rows : List (List Int)} {buf : List Value} {cl : Bool} (h : KS w wr x0 x1 x2 k c vf vn E rows hi buf cl) (a b : Value) :
    let W' := (wr.setCell ⟨w.heap.size + 1, 0, none⟩ a).setCell ⟨w.heap.size + 1, 1, none⟩ b
    OwnQ W' w.heap.size vf (E.map El.q) ∧ Elems W' w.heap.size E ∧ HasRows W' (w.heap.size + 2) hi vn rows ∧ Below w.heap.size w W' := by
  intro W'
  have g1 := grown_cell' wr (w.heap.size + 1) 0 a
  have g2 := grown_cell' (wr.setCell ⟨w.heap.size + 1, 0, none⟩ a) (w.heap.size + 1) 1 b
  have hg : wr.grownBy W' (some (w.heap.size + 1)) := grown_trans' g1 g2
  have hkp : KeepsIR wr W' := KeepsIR.of_grown hg (fun cur e fr h1 => by rw [h.res.row] at h1; simp at h1; rcases h1 with ⟨_, h1, _⟩; rw [← h1]; decide)
  exact ⟨(h.own.kept hg (.inr (fun e => by have := (h.own.lt _ e).1; omega))).mono (by omega), h.els.keep hkp, HasRows.keep h.next hkp, (h.below.setCell (p := ⟨w.heap.size + 1, 0, none⟩) (Nat.le_succ _) _).setCell (p := ⟨w.heap.size + 1, 1, none⟩) (Nat.le_succ _) _⟩
theorem ks_start {w W0 W1 : World} {x0 x1 x2 : Value} {m : Sq} {a1 a2 : Option Addr} {c1 c2 : Nat} (hb0 : Below w.heap.size w W0) (hc : Cells3 W0 w.heap.size 30 x0 x1 x2) (hr : CellsN W0 (w.heap.size + 1) 45 [.slice none 0 0, .slice none 0 0]) (b1 : Below W0.heap.size W0 W1) (hv : OwnS W1 W0.heap.size W1.heap.size (.agg #[.int .i64 m.b, .slice a1 m.r.length c1, .slice a2 m.o.length c2]) m.b m.r m.o) :
    KS w ((((W1.alloc (.cells #[.int .i64 m.b, .slice a1 m.r.length c1, .slice a2 m.o.length c2] 30)).alloc (.cells #[.int .i64 m.b, .slice a1 m.r.length c1, .slice a2 m.o.length c2] 30)).alloc (.cells #[.slice (some ⟨W1.heap.size + 1, 0, none⟩) 1 1, .slice none 0 0] 45)).alloc (.chan 40 #[] false 0 0 false)) x0 x1 x2 (W1.heap.size + 1 + 1) (W1.heap.size + 1 + 1 + 1) (.slice (some ⟨W1.heap.size + 1, 0, none⟩) 1 1) (.slice none 0 0) [El.mk (m.b, .slice a1 m.r.length c1, .slice a2 m.o.length c2) m W0.heap.size W1.heap.size] [] (w.heap.size + 2) [] false := by
  have hal : ∀ (W : World) o, Below W.heap.size W (W.alloc o) := fun W o => (Below.refl _ _).alloc (Nat.le_refl _) _
  have hlt := hr.lt
  have h01 := b1.size
  have e1 := size_alloc' W1 (.cells #[.int .i64 m.b, .slice a1 m.r.length c1, .slice a2 m.o.length c2] 30)
  have e2 := size_alloc' (W1.alloc (.cells #[.int .i64 m.b, .slice a1 m.r.length c1, .slice a2 m.o.length c2] 30)) (.cells #[.int .i64 m.b, .slice a1 m.r.length c1, .slice a2 m.o.length c2] 30)
  have e3 := size_alloc' ((W1.alloc (.cells #[.int .i64 m.b, .slice a1 m.r.length c1, .slice a2 m.o.length c2] 30)).alloc (.cells #[.int .i64 m.b, .slice a1 m.r.length c1, .slice a2 m.o.length c2] 30)) (.cells #[.slice (some ⟨W1.heap.size + 1, 0, none⟩) 1 1, .slice none 0 0] 45)
  have hB : Below W1.heap.size W1 ((((W1.alloc (.cells #[.int .i64 m.b, .slice a1 m.r.length c1, .slice a2 m.o.length c2] 30)).alloc (.cells #[.int .i64 m.b, .slice a1 m.r.length c1, .slice a2 m.o.length c2] 30)).alloc (.cells #[.slice (some ⟨W1.heap.size + 1, 0, none⟩) 1 1, .slice none 0 0] 45)).alloc (.chan 40 #[] false 0 0 false)) := (hal _ _).trans (((hal _ _).trans (((hal _ _).trans ((hal _ _).mono (by omega))).mono (by omega))).mono (by omega))
  have hq : OwnQ ((W1.alloc (.cells #[.int .i64 m.b, .slice a1 m.r.length c1, .slice a2 m.o.length c2] 30)).alloc (.cells #[.int .i64 m.b, .slice a1 m.r.length c1, .slice a2 m.o.length c2] 30)) (w.heap.size + 2) (.slice (some ⟨W1.heap.size + 1, 0, none⟩) 1 1) [(m.b, .slice a1 m.r.length c1, .slice a2 m.o.length c2)] := by
    have h1 := OwnQ.lit (base := w.heap.size + 2) (W1.alloc (.cells #[.int .i64 m.b, .slice a1 m.r.length c1, .slice a2 m.o.length c2] 30)) (m.b, .slice a1 m.r.length c1, .slice a2 m.o.length c2) (by omega)
    rw [e1] at h1
    exact h1
  have hE := (Elems.nil W0 w.heap.size).push (v := (m.b, .slice a1 m.r.length c1, .slice a2 m.o.length c2)) (s := m) hb0.size b1 hv
  refine ⟨(hb0.trans (b1.mono hb0.size)).trans (hB.mono (by omega)), (hc.below b1).below hB, (hr.below b1).below hB, ?_, ⟨0, 0, ?_⟩, (hq.below (hal _ _)).below (hal _ _), hE.below hB, HasRows.nil (World.ownsRow_nil _ _ _ _) (by simp; omega), fun g e => by simp [Value.ownBlock] at e, by omega, by omega, by omega⟩
  · have h1 := (CellsN.new ((W1.alloc (.cells #[.int .i64 m.b, .slice a1 m.r.length c1, .slice a2 m.o.length c2] 30)).alloc (.cells #[.int .i64 m.b, .slice a1 m.r.length c1, .slice a2 m.o.length c2] 30)) 45 [.slice (some ⟨W1.heap.size + 1, 0, none⟩) 1 1, .slice none 0 0]).alloc (.chan 40 #[] false 0 0 false)
    rw [e2, e1] at h1
    exact h1
  · have h1 := heap_alloc_new (((W1.alloc (.cells #[.int .i64 m.b, .slice a1 m.r.length c1, .slice a2 m.o.length c2] 30)).alloc (.cells #[.int .i64 m.b, .slice a1 m.r.length c1, .slice a2 m.o.length c2] 30)).alloc (.cells #[.slice (some ⟨W1.heap.size + 1, 0, none⟩) 1 1, .slice none 0 0] 45)) (.chan 40 #[] false 0 0 false)
    rw [e3, e2, e1] at h1
    exact h1
set_option maxRecDepth 100000 in
set_option maxHeartbeats 4000000 in
theorem impl_ker_yes (v : Value) (b : Int) (rows : List (List Int)) (out : List Int) (w : World) (h : LiesS w v b rows out) (hs : rows.length + tot rows + out.length ≤ 1048576) (hk : formK b rows out = true) :
    Calls Try.prog 24 #[v] w (GivesKS (kerV b rows out) (kerR b rows out) (kerK b rows out) w) := by
  obtain ⟨i0, hi, hz0, hz1, hz2⟩ := info_parts infoS
  obtain ⟨i1, hi1, hz10, hz11, hz12⟩ := info_parts Ints.infoI
  obtain ⟨i2, hi2, hz20, hz21, hz22⟩ := info_parts infoRk
  have HS := Lib.hid h
  obtain ⟨an, cn, ao, co, rfl⟩ := h.form
  clear h
  have HB : Hid (Below w.heap.size w (w.alloc (Obj.cells #[Value.int .i64 b, Value.slice an rows.length cn, Value.slice ao out.length co] 30))) := (Below.refl _ _).alloc (Nat.le_refl _) _
  have HC := Lib.hid (Cells3.new w 30 (.int .i64 b) (.slice an rows.length cn) (.slice ao out.length co))
  have HB0 : Hid (Below w.heap.size w ((w.alloc (Obj.cells #[Value.int .i64 b, Value.slice an rows.length cn, Value.slice ao out.length co] 30)).alloc (Obj.cells #[Value.slice none 0 0, Value.slice none 0 0] 45))) := HB.out.alloc (by simp only [size_alloc'] <;> omega) _
  have HC0 := Lib.hid (HC.out.alloc (Obj.cells #[Value.slice none 0 0, Value.slice none 0 0] 45))
  have hr := CellsN.new (w.alloc (Obj.cells #[Value.int .i64 b, Value.slice an rows.length cn, Value.slice ao out.length co] 30)) 45 [.slice none 0 0, .slice none 0 0]
  rw [size_alloc'] at hr
  have HR0 := Lib.hid hr
  have hgd := mini_good hk
  have hsq := hgd.seq
  obtain ⟨bn, hbn⟩ : ∃ bn : Nat, b = (bn : Int) := ⟨b.toNat, by have := hsq.1; rw [hgd.base] at this; omega⟩
  have hb2 : 2 ≤ bn := by have := hsq.1; rw [hgd.base] at this; omega
  have hb4 : bn ≤ 4 := by have := hsq.2.1; rw [hgd.base] at this; omega
  have HYES : Hid (∀ n, n = bn * (kF (mini b rows out) bn n).length → (kF (mini b rows out) bn n).length ≤ 40 → kerV b rows out = kF (mini b rows out) bn n ∧ kerR b rows out = kRows (mini b rows out) bn (kF (mini b rows out) bn n).length ∧ kerK b rows out = true) := fun n h1 h2 => by
    obtain ⟨h3, h4⟩ := ker_yes (n := n) hbn (by omega) hk h1 h2
    exact ⟨h3, by rw [kerR, if_pos h4, h3, hbn, Int.toNat_natCast], h4⟩
  have HNO : Hid (∀ n, 40 < (kF (mini b rows out) bn n).length → n ≤ 41 * bn → kerV b rows out = [] ∧ kerR b rows out = [] ∧ kerK b rows out = false) := fun n h1 h2 => by
    obtain ⟨h3, h4⟩ := ker_no (rows := rows) (out := out) (n := n) hbn h1 h2
    exact ⟨h3, by rw [kerR, h4]; simp, h4⟩
  have HCF : Hid (Calls Try.prog 35 #[.agg #[.int .i64 b, .slice an rows.length cn, .slice ao out.length co]] ((w.alloc (Obj.cells #[Value.int .i64 b, Value.slice an rows.length cn, Value.slice ao out.length co] 30)).alloc (Obj.cells #[Value.slice none 0 0, Value.slice none 0 0] 45)) (GivesK (mini b rows out).b (mini b rows out).r (mini b rows out).o true ((w.alloc (Obj.cells #[Value.int .i64 b, Value.slice an rows.length cn, Value.slice ao out.length co] 30)).alloc (Obj.cells #[Value.slice none 0 0, Value.slice none 0 0] 45)))) := by
    have h1 := impl_min _ b rows out _ (HS.out.below HB0.out) hs
    rw [hk] at h1
    exact h1
  have HG := Lib.hid hgd
  obtain ⟨m, hm⟩ : ∃ m, m = mini b rows out := ⟨_, rfl⟩
  obtain ⟨KV, hKV⟩ : ∃ x, x = kerK b rows out := ⟨_, rfl⟩
  obtain ⟨LV, hLV⟩ : ∃ x, x = kerV b rows out := ⟨_, rfl⟩
  obtain ⟨RV, hRV⟩ : ∃ x, x = kerR b rows out := ⟨_, rfl⟩
  rw [← hm] at HG HCF HYES HNO
  rw [← hKV, ← hLV, ← hRV] at HYES HNO ⊢
  have k0 := HC0.out.c0
  have k1 := HC0.out.c1
  have k2 := HC0.out.c2
  clear hr hs hk HB HC hgd hsq hm hKV hLV hRV
  subst hbn
  go_enter Try.func24, Try.ntmps24
  go_wp2_with fail
  refine HCF.out.mono ?_
  rintro e W1 ⟨v1, rfl, hv1, b1⟩
  obtain ⟨a1, c1, a2, c2, rfl⟩ := hv1.form
  have hmc := mk40
  have HX1 := Cells3.new W1 30 (.int .i64 m.b) (.slice a1 m.r.length c1) (.slice a2 m.o.length c2)
  have HB1 := Lib.hid b1
  have HV1 := Lib.hid hv1
  have j0 := HX1.c0
  have j1 := HX1.c1
  have j2 := HX1.c2
  have HK1 := Lib.hid (ks_start HB0.out HC0.out HR0.out b1 hv1)
  have HX2 := Lib.hid (((HX1.alloc (.cells #[.int .i64 m.b, .slice a1 m.r.length c1, .slice a2 m.o.length c2] 30)).alloc (.cells #[.slice (some ⟨W1.heap.size + 1, 0, none⟩) 1 1, .slice none 0 0] 45)).alloc (.chan 40 #[] false 0 0 false))
  clear b1 hv1 k0 k1 k2 HB1 HV1 HC0 HR0 HCF HB0 HX1
  go_upto_region 6 with fail
  obtain ⟨p, hp⟩ : ∃ p, p = W1.heap.size := ⟨_, rfl⟩
  obtain ⟨W2, hW2⟩ : ∃ W, W = ((((W1.alloc (.cells #[.int .i64 m.b, .slice a1 m.r.length c1, .slice a2 m.o.length c2] 30)).alloc (.cells #[.int .i64 m.b, .slice a1 m.r.length c1, .slice a2 m.o.length c2] 30)).alloc (.cells #[.slice (some ⟨W1.heap.size + 1, 0, none⟩) 1 1, .slice none 0 0] 45)).alloc (.chan 40 #[] false 0 0 false)) := ⟨_, rfl⟩
  rw [← hW2] at HK1 HX2 ⊢
  rw [← hp] at HK1 HX2 ⊢
  clear j0 j1 j2 hW2 hp
  have j0 := HX2.out.c0
  have j1 := HX2.out.c1
  have j2 := HX2.out.c2
  obtain ⟨kb, hkb⟩ : ∃ x, x = p + 1 + 1 := ⟨_, rfl⟩
  obtain ⟨cb, hcb⟩ : ∃ x, x = p + 1 + 1 + 1 := ⟨_, rfl⟩
  rw [← hcb] at HK1 ⊢
  rw [← hkb] at HK1 ⊢
  refine opsTo_region ?_
  refine opsTo_value (v := .chan (some cb)) (w' := W2) rfl (by simp [Region.wanted]) (by go_simp) ?_
  refine opsTo_value (v := (.agg #[.int .i64 m.b, .slice a1 m.r.length c1, .slice a2 m.o.length c2])) (w' := W2) rfl (by simp [Region.wanted]) (by go_simp) ?_
  refine ks_send (.agg #[.int .i64 m.b, .slice a1 m.r.length c1, .slice a2 m.o.length c2]) (.tuple #[]) HK1.out (by simp) rfl (by simp [Region.wanted]) (by simp [execOp, scase, Act.eval, Act.put]) ?_
  intro W3 hk3 _
  refine opsTo_end ?_
  have HK2 := Lib.hid hk3
  clear j0 j1 j2 HX2 HK1 hkb hcb hmc hk3
  go_simp
  go_wp2
  go_loopw [8] (fun _ wr => ∃ (i hi : Nat) (vf vn : Value) (E : List El), i ≤ E.length ∧ E.length ≤ 40 ∧ Hid (KS w wr (.int .i64 (bn : Int)) (.slice an rows.length cn) (.slice ao out.length co) kb cb vf vn E (kRows m bn i) hi ((E.drop i).map fun e => encQ e.q) (decide (i = E.length))) ∧ Hid (E.map El.s = kF m bn (bn * i))) (fun _ wr => match wr.cell? ⟨kb, 1, none⟩ with | some (.slice _ n _) => 41 - n | _ => 0)
  case atStart => exact ⟨0, _, _, _, _, Nat.zero_le _, by simp, HK2, rfl⟩
  case round =>
    clear HK2
    obtain ⟨i, hi', vf, vn, E, hiE, hE40, HK, HF⟩ := hrel
    have HKO := HK
    by_cases hlt : i < E.length
    · obtain ⟨el, hel⟩ : ∃ e, E[i]? = some e := ⟨_, List.getElem?_eq_getElem hlt⟩
      have hdr : E.drop i = el :: E.drop (i + 1) := by
        obtain ⟨h1, rfl⟩ := List.getElem?_eq_some_iff.1 hel
        exact List.drop_eq_getElem_cons h1
      rw [decide_eq_false (show ¬ i = E.length by omega), hdr, List.map_cons] at HK
      have hls := HK.out.els.lies hel
      obtain ⟨an1, cn1, ao1, co1, hv⟩ := hls.form
      rw [hv] at HK
      have HEL := Lib.hid hel
      have HV := Lib.hid hv
      obtain ⟨f, hf⟩ : ∃ f, f = el.s := ⟨_, rfl⟩
      have HFS := Lib.hid hf
      rw [← hf] at HV HK
      obtain ⟨T, hT⟩ : ∃ T, T = (E.drop (i + 1)).map fun e => encQ e.q := ⟨_, rfl⟩
      rw [← hT] at HK
      have HT := Lib.hid hT
      clear hel hdr hls hv hf hT
      go_upto_region 8 with fail
      refine opsTo_region ?_
      refine ks_recv (.agg #[.int .i64 0, .slice none 0 0, .slice none 0 0]) HK.out rfl (by simp [Region.wanted]) (by simp [go_sem, rcase]) ?_
      intro W4 hk4 _
      have HK4 := Lib.hid hk4
      clear hk4 HK
      refine opsTo_value (v := .bool true) (w' := W4) rfl (by simp [Region.wanted]) (by go_simp) ?_
      refine opsTo_end ?_
      go_simp
      have HM : Hid (∃ a c, wr.cell? ⟨kb, 1, none⟩ = some (.slice a i c)) := by
        obtain ⟨a, c, h1⟩ := HasRows.form HKO.out.next
        rw [kRows_len] at h1
        have h2 := HKO.out.ker.at_ (i := 1) rfl
        rw [h1] at h2
        exact ⟨a, c, h2⟩
      have HL := Lib.hid (show i < (kF m bn (bn * i)).length by rw [← HF.out, List.length_map]; exact hlt)
      have hal : Below W4.heap.size W4 (W4.alloc (.cells #[.int .i64 f.b, .slice an1 f.r.length cn1, .slice ao1 f.o.length co1] 30)) := (Below.refl _ _).alloc (Nat.le_refl _) _
      have HK5 := Lib.hid (HK4.out.call hal)
      have k0 := HK5.out.box.c0
      have HX8 := Lib.hid (Cells3.new W4 30 (.int .i64 f.b) (.slice an1 f.r.length cn1) (.slice ao1 f.o.length co1))
      clear hal HKO
      go_wp2_with (at_make; refine wpList_make_full (W4.alloc (.cells #[.int .i64 f.b, .slice an1 f.r.length cn1, .slice ao1 f.o.length co1] 30)) rfl _ _ 23 rfl (W4.alloc (.cells #[.int .i64 f.b, .slice an1 f.r.length cn1, .slice ao1 f.o.length co1] 30)).heap.size 3 i1 (.int .i64 0) 1 Try.underlying23 hi1 hz10 hz11 .i64 .i64 _ _ bn rfl rfl rfl rfl (by rw [hz12]; omega) (by unfold maxLen; omega) (Nat.le_refl _) ?_; intro W6 hown hgrow)
      obtain ⟨qb, hqb⟩ : ∃ x, x = W4.heap.size := ⟨_, rfl⟩
      obtain ⟨zb, hzb⟩ : ∃ x, x = W4.heap.size + 1 := ⟨_, rfl⟩
      have hza : (W4.alloc (.cells #[.int .i64 f.b, .slice an1 f.r.length cn1, .slice ao1 f.o.length co1] 30)).heap.size = zb := by rw [hzb, size_alloc']
      have hb6 := below_of_grown hgrow
      have HK6 := Lib.hid (HK5.out.call hb6)
      have HQ6 := Lib.hid (HX8.out.below hb6)
      have HO6 : Hid (W6.ownsRow zb 3 1 (.slice (some ⟨zb, 0, none⟩) bn bn) bn ((kRow m bn i 0 ++ List.replicate (bn - 0) (0 : Int)).map (Value.int .i64))) := by
        show W6.ownsRow _ _ _ _ _ _
        rw [Ints.zero_made, hza] at hown
        simpa [kRow] using hown
      have HA6 : Hid (Avoid E zb) := Avoid.new HK4.out.els (by omega)
      have hhi : hi' ≤ zb := by have := (HasRows.hi_le HK4.out.next).2; omega
      have hlo : w.heap.size + 2 ≤ zb := by have := HK4.out.clt; have := HK4.out.hc; omega
      have HV6 : Hid (vf.ownBlock ≠ some qb) := fun e => by have := (HK4.out.own.lt _ e).2; omega
      rw [HT.out] at HK6
      rw [← hqb] at HQ6
      rw [← hzb, ← hqb]
      clear hown hgrow hb6 hza hqb hzb HX8 HK5 HK4 HT k0
      go_loopw [37] (fun r' wr => ∃ (r : Nat) (vf : Value) (E : List El), r ≤ bn ∧ i < E.length ∧ E.length ≤ 40 ∧ r' = .int .i64 r ∧ Hid (E[i]? = some el) ∧ Hid (KS w wr (.int .i64 (bn : Int)) (.slice an rows.length cn) (.slice ao out.length co) kb cb vf vn E (kRows m bn i) hi' ((E.drop (i + 1)).map fun e => encQ e.q) false) ∧ Hid (E.map El.s = kF m bn (bn * i + r)) ∧ Hid (Avoid E zb) ∧ Hid (wr.ownsRow zb 3 1 (.slice (some ⟨zb, 0, none⟩) bn bn) bn ((kRow m bn i r ++ List.replicate (bn - r) (0 : Int)).map (Value.int .i64))) ∧ Hid (Cells3 wr qb 30 (.int .i64 f.b) (.slice an1 f.r.length cn1) (.slice ao1 f.o.length co1)) ∧ Hid (vf.ownBlock ≠ some qb)) (fun r' _ => bn - (intOf r').toNat)
      case atStart => exact ⟨0, vf, E, Nat.zero_le _, hlt, hE40, rfl, HEL, HK6, HF, HA6, HO6, HQ6, HV6⟩
      case round =>
        clear HEL HK6 HF HA6 HO6 HQ6 HV6 hlt hE40 hiE
        obtain ⟨r, vf, E, hrb, hiE, hE40, rfl, HEL, HK, HF, HA, HO, HQ, HVQ⟩ := hrel
        obtain ⟨va, vc, hvf, _⟩ := HK.out.own.form
        rw [List.length_map] at hvf
        subst hvf
        by_cases hr : r < bn
        case pos =>
          have hS : (E.map El.s)[i]? = some f := by rw [List.getElem?_map, HEL.out, HFS.out]; rfl
          have HFA := Lib.hid (fAt_eq HF.out hS HL.out)
          have hS2 := hS
          rw [HF.out] at hS
          have HKN := Lib.hid (kF_next hr hS)
          have hgd := kF_good (by omega) HG.out _ _ (List.mem_of_getElem? hS)
          have hls := HK.out.els.lies HEL.out
          have hcs := ker_sub_i el bn wr hls (by rw [← HFS.out]; exact hgd) r hr
          rw [← HFS.out, HV.out] at hcs
          have HCS := Lib.hid hcs
          obtain ⟨y, hy⟩ : ∃ y, y = sub f r := ⟨_, rfl⟩
          rw [← hy] at HKN HCS
          have HYE := Lib.hid hy
          have q0 := HQ.out.c0
          have q1 := HQ.out.c1
          have q2 := HQ.out.c2
          have hr0 : (0 : Int) ≤ (r : Int) := Int.natCast_nonneg _
          have hrb1 : (r : Int) < (bn : Int) := by omega
          clear hS hS2 hgd hls hcs hy
          go_wp2_with fail
          refine HCS.out.mono ?_
          rintro e W7 ⟨v2, rfl, hv2, b2⟩
          obtain ⟨a3, c3, a4, c4, rfl⟩ := hv2.form
          have hbx : Below W7.heap.size W7 (W7.alloc (.cells #[.int .i64 y.b, .slice a3 y.r.length c3, .slice a4 y.o.length c4] 30)) := (Below.refl _ _).alloc (Nat.le_refl _) _
          have hbw : Below wr.heap.size wr (W7.alloc (.cells #[.int .i64 y.b, .slice a3 y.r.length c3, .slice a4 y.o.length c4] 30)) := b2.trans (hbx.mono b2.size)
          have hzw := (World.ownsRow.lt HO.out zb rfl).2
          have hqw := HQ.out.lt
          have HK8 := Lib.hid (HK.out.call hbw)
          have HN8 := Lib.hid ((HK.out.els.push (v := (y.b, .slice a3 y.r.length c3, .slice a4 y.o.length c4)) (s := y) HK.out.below.size b2 hv2).below hbx)
          have HA8 := Lib.hid (HA.out.push hzw (y.b, .slice a3 y.r.length c3, .slice a4 y.o.length c4) y W7.heap.size)
          have HO8 := Lib.hid (HO.out.kept (grown_of_below hbw) (.inr (by simp [Value.ownBlock])))
          have HQ8 := Lib.hid (HQ.out.below hbw)
          have hY8 := hv2.lies.below hbx
          have HX8 := Lib.hid (Cells3.new W7 30 (.int .i64 y.b) (.slice a3 y.r.length c3) (.slice a4 y.o.length c4))
          have HVX : Hid ((Value.slice va E.length vc).ownBlock ≠ some W7.heap.size) := fun e => by have := (HK.out.own.lt _ e).2; have := b2.size; omega
          have HPL := Lib.hid (place _ vn E y a3 a4 c3 c4 w.heap.size (w.heap.size + 2) (W7.alloc (.cells #[.int .i64 y.b, .slice a3 y.r.length c3, .slice a4 y.o.length c4] 30)) HK8.out.own HK8.out.els hY8)
          have HAV : Hid (∀ g, vn.ownBlock = some g → Avoid (E ++ [El.mk (y.b, .slice a3 y.r.length c3, .slice a4 y.o.length c4) y wr.heap.size W7.heap.size]) g) := fun g e => (HK.out.av g e).push (HasRows.block HK.out.next g e).1.2 _ _ _
          obtain ⟨z, hz⟩ : ∃ z, z = atQ (E.map El.s) y := ⟨_, rfl⟩
          rw [← hz] at HPL
          have HZ := Lib.hid hz
          have g0 := HK8.out.ker.at_ (i := 0) rfl
          have g1 := HK8.out.ker.at_ (i := 1) rfl
          have j0 := HX8.out.c0
          have j1 := HX8.out.c1
          have j2 := HX8.out.c2
          have hqw7 : qb < W7.heap.size := Nat.lt_of_lt_of_le hqw b2.size
          have hqe : Hid (∀ k, wr.heap.size ≤ k → k ≠ qb) := fun k h e => by omega
          clear hv2 b2 hbx hbw hY8 hz HK HA HO HQ HCS q0 q1 q2
          go_wp2_with fail
          refine HPL.out.mono ?_
          rintro e W9 ⟨rfl, b9⟩
          have HK9 := Lib.hid (HK8.out.call b9)
          have HN9 := Lib.hid (HN8.out.below b9)
          have HO9 := Lib.hid (HO8.out.kept (grown_of_below b9) (.inr (by simp [Value.ownBlock])))
          have HQ9 := Lib.hid (HQ8.out.below b9)
          have HX9 := Lib.hid (HX8.out.below b9)
          have hs9 : W7.heap.size < W9.heap.size := HX9.out.lt
          clear b9 g0 g1 j0 j1 j2 HK8 HN8 HO8 HQ8 HX8 HPL
          by_cases h40 : z = 40
          · have hd : ((z : Int) == 40) = true := by simp; omega
            obtain ⟨h1, h2, h3⟩ := HNO.out (bn * i + (r + 1)) (by
              have hle := atQ_le (E.map El.s) y
              rw [← HZ.out, List.length_map] at hle
              rw [HKN.out, ← HF.out, (addQ_new (by rw [← HZ.out, List.length_map]; omega)).1, List.length_append, List.length_map]
              simp
              omega) (by have : bn * i ≤ bn * 39 := Nat.mul_le_mul_left _ (by omega); omega)
            subst h1; subst h2; subst h3
            have z0 := HK9.out.res.at_ (i := 0) rfl
            have z1 := HK9.out.res.at_ (i := 1) rfl
            have z2 := HK9.out.res.f
            go_wp2
            have hZ := (HK9.out.res.set 0 (.slice none 0 0)).set 1 (.slice none 0 0)
            have n0 := hZ.at_ (i := 0) rfl
            have n1 := hZ.at_ (i := 1) rfl
            refine bodyPost_ret (v := .tuple #[.agg #[(.slice none 0 0), (.slice none 0 0)], .bool false]) (by simp [results, Try.results24, go_sem, n0, n1]) rfl ?_
            have hdn := HK9.out.done (.slice none 0 0) (.slice none 0 0)
            exact ⟨_, _, [], rfl, OwnQ.nil _ _, Elems.nil _ _, rfl, ⟨_, _, Nat.le_refl _, HasRows.nil (World.ownsRow_nil _ _ _ _) hdn.2.2.2.size⟩, hdn.2.2.2⟩
          · have hd : ((z : Int) == 40) = false := by simp; omega
            have g0 := HK9.out.ker.at_ (i := 0) rfl
            have g1 := HK9.out.ker.at_ (i := 1) rfl
            have g2 := HK9.out.ker.f
            by_cases hn : z = E.length
            · subst hn
              have hle41 : E.length + 1 ≤ 40 := by omega
              have hd2 : ((E.length : Int) == (E.length : Int)) = true := by simp
              have hadd := (addQ_new (F := E.map El.s) (y := y) (by rw [← HZ.out, List.length_map]; omega)).1
              rw [HF.out] at hadd
              rw [hadd] at HKN
              have j0 := HX9.out.c0
              have j1 := HX9.out.c1
              have j2 := HX9.out.c2
              clear hadd
              go_upto_region 20 with (at_builtin; refine wpList_append_q3 rfl _ _ 27 rfl i0 Try.underlying27 hi hz0 hz1 hz2 (.slice va E.length vc) rfl HK9.out.own _ rfl (by first | rfl | simp) rfl rfl (by rw [List.length_map]; omega) (by have := HK9.out.clt; have := HK9.out.hc; omega) ?_; intro v5 w5 ho5 hg5 hb5; obtain ⟨xa, xc, hv5, _⟩ := ho5.form; rw [List.length_append, List.length_map, List.length_singleton] at hv5; subst hv5; have hk5 := HK9.out.ker.grown hg5 HK9.out.vf_ne_ker; have s0 := hk5.at_ (i := 0) rfl; have s1 := hk5.f)
              have HO5 : Hid (OwnQ w5 (w.heap.size + 2) (Value.slice xa (E.length + 1) xc) ((E ++ [El.mk (y.b, .slice a3 y.r.length c3, .slice a4 y.o.length c4) y wr.heap.size W7.heap.size]).map El.q)) := by rw [List.map_append]; exact ho5
              have HK10 := Lib.hid (HK9.out.add _ HO5.out hg5 HN9.out HAV.out)
              obtain ⟨cu, hcu⟩ := row_block HO9.out
              have hcu5 := (hg5.block zb (Array.getElem?_eq_some_iff.1 hcu).1 (fun e => by obtain ⟨_, h1⟩ := HK9.out.own.block zb e.symm; rw [hcu] at h1; simp at h1)).trans hcu
              have hg6 := grown_cell' w5 kb 0 (Value.slice xa (E.length + 1) xc)
              have hkz : kb ≠ zb := fun e => by rw [← e, hk5.row] at hcu5; simp at hcu5
              have HO10 := Lib.hid ((HO9.out.kept hg5 (.inr (fun e => by obtain ⟨_, h1⟩ := HK9.out.own.block zb e.symm; rw [hcu] at h1; simp at h1))).kept hg6 (.inr (fun e => hkz (Option.some.inj e).symm)))
              have hq5 := HQ9.out.grown hg5 HVQ.out
              have hx5 := HX9.out.grown hg5 HVX.out
              have HQ10 := Lib.hid (hq5.grown hg6 (fun e => hk5.ne3 hq5 (by decide) (Option.some.inj e)))
              have HX10 := Lib.hid (hx5.grown hg6 (fun e => hk5.ne3 hx5 (by decide) (Option.some.inj e)))
              have HV10 : Hid ((Value.slice xa (E.length + 1) xc).ownBlock ≠ some qb) := fun e => (hb5 qb e).elim (fun h => HVQ.out h) (fun h => by omega)
              obtain ⟨W10, hW10⟩ : ∃ W, W = w5.setCell ⟨kb, 0, none⟩ (Value.slice xa (E.length + 1) xc) := ⟨_, rfl⟩
              rw [← hW10] at HK10 HO10 HQ10 HX10 ⊢
              clear ho5 hg5 hb5 hk5 s0 s1 g0 g1 g2 j0 j1 j2 HO5 hcu hcu5 hg6 hq5 hx5 hW10 HK9 HO9 HQ9 HX9 HN9
              have j0 := HX10.out.c0
              have j1 := HX10.out.c1
              have j2 := HX10.out.c2
              refine opsTo_region ?_
              refine opsTo_value (v := .chan (some cb)) (w' := W10) rfl (by simp [Region.wanted]) (by go_simp) ?_
              refine opsTo_value (v := (.agg #[.int .i64 y.b, .slice a3 y.r.length c3, .slice a4 y.o.length c4])) (w' := W10) rfl (by simp [Region.wanted]) (by go_simp) ?_
              refine ks_send (.agg #[.int .i64 y.b, .slice a3 y.r.length c3, .slice a4 y.o.length c4]) (.tuple #[]) HK10.out (by rw [List.length_map, List.length_drop]; omega) rfl (by simp [Region.wanted]) (by simp [execOp, scase, Act.eval, Act.put]) ?_
              intro W11 hk11 hg11
              refine opsTo_end ?_
              obtain ⟨s, r0, hch⟩ := HK10.out.chan
              obtain ⟨cu, hcu⟩ := row_block HO10.out
              have HO11 := Lib.hid (HO10.out.kept hg11 (.inr (fun e => by have e2 : zb = cb := Option.some.inj e; rw [e2, hch] at hcu; cases hcu)))
              have HQ11 := Lib.hid (HQ10.out.grown hg11 (fun e => by have h1 := HQ10.out.row; rw [← Option.some.inj e, hch] at h1; cases h1))
              have HK11 : Hid (KS w W11 (.int .i64 (bn : Int)) (.slice an rows.length cn) (.slice ao out.length co) kb cb (Value.slice xa (E.length + 1) xc) vn (E ++ [El.mk (y.b, .slice a3 y.r.length c3, .slice a4 y.o.length c4) y wr.heap.size W7.heap.size]) (kRows m bn i) hi' (((E ++ [El.mk (y.b, .slice a3 y.r.length c3, .slice a4 y.o.length c4) y wr.heap.size W7.heap.size]).drop (i + 1)).map fun e => encQ e.q) false) := by
                rw [List.drop_append_of_le_length (by omega), List.map_append]
                exact hk11
              clear hk11 hg11 hch hcu j0 j1 j2 HK10 HO10 HQ10 HX10
              go_simp
              obtain ⟨⟨u, hu⟩, hfz, hst⟩ := row_write HO11.out hr HF.out HFA.out HYE.out HZ.out
              obtain ⟨cu, hcu⟩ := row_block HO11.out
              have HST := Lib.hid hst
              have HK12 := Lib.hid (HK11.out.write r (.int .i64 (E.length : Int)) hcu hlo hhi HA8.out)
              have HQ12 := Lib.hid (HQ11.out.other (a := ⟨zb, r, none⟩) (fun e => by have e2 : zb = qb := e; rw [e2, HQ11.out.row] at hcu; simp at hcu) (.int .i64 (E.length : Int)))
              clear hst HK11 HO11 HQ11 hcu
              go_wp2
              go_roundw
              case rel => exact ⟨r + 1, (Value.slice xa (E.length + 1) xc), E ++ [El.mk (y.b, .slice a3 y.r.length c3, .slice a4 y.o.length c4) y wr.heap.size W7.heap.size], by omega, by rw [List.length_append]; exact Nat.lt_of_lt_of_le hiE (Nat.le_add_right _ _), by rw [List.length_append, List.length_singleton]; exact hle41, by go_num, by show _ = _; rw [List.getElem?_append_left hiE]; exact HEL.out, HK12, by show _ = _; rw [HKN.out, List.map_append, HF.out]; rfl, HA8, HST, HQ12, HV10⟩
              case measure => simp [intOf]; omega
            · have hd2 : ((z : Int) == (E.length : Int)) = false := by simp; omega
              have hle := atQ_le (E.map El.s) y
              rw [← HZ.out, List.length_map] at hle
              have hadd := (addQ_old (F := E.map El.s) (y := y) (by rw [← HZ.out, List.length_map]; omega)).1
              rw [HF.out] at hadd
              rw [hadd] at HKN
              obtain ⟨⟨u, hu⟩, hfz, hst⟩ := row_write HO9.out hr HF.out HFA.out HYE.out HZ.out
              obtain ⟨cu, hcu⟩ := row_block HO9.out
              have HST := Lib.hid hst
              have HA9 : Hid (Avoid E zb) := fun e he => HA8.out e (List.mem_append_left _ he)
              have HK12 := Lib.hid (HK9.out.write r (.int .i64 (z : Int)) hcu hlo hhi HA9.out)
              have HQ12 := Lib.hid (HQ9.out.other (a := ⟨zb, r, none⟩) (fun e => by have e2 : zb = qb := e; rw [e2, HQ9.out.row] at hcu; simp at hcu) (.int .i64 (z : Int)))
              clear hst hle hadd hcu HK9 HO9 HQ9 HX9 HN9
              go_wp2
              go_roundw
              case rel => exact ⟨r + 1, _, E, by omega, hiE, hE40, by go_num, HEL, HK12, by show _ = _; rw [HKN.out]; exact HF.out, HA9, HST, HQ12, HVQ⟩
              case measure => simp [intOf]; omega
        case neg =>
          obtain rfl : bn = r := by omega
          obtain ⟨vna, vnc, hvn⟩ := HasRows.form HK.out.next
          rw [kRows_len] at hvn
          subst hvn
          have HU : Hid (Has (Value.int .i64) 3 wr hi' (.slice (some ⟨zb, 0, none⟩) bn bn) (kRow m bn i bn)) := by
            have h1 := HO.out
            rw [Nat.sub_self, List.replicate_zero, List.append_nil] at h1
            have h2 : Has (Value.int .i64) 3 wr zb (.slice (some ⟨zb, 0, none⟩) bn bn) (kRow m bn i bn) := by
              show wr.ownsRow _ _ _ _ _ _
              rw [kRow_len]
              exact h1
            exact h2.mono hhi
          have g0 := HK.out.ker.at_ (i := 0) rfl
          have g1 := HK.out.ker.at_ (i := 1) rfl
          have g2 := HK.out.ker.f
          go_upto_region 24 with (at_builtin; refine wpList_append_row3 rfl _ _ 22 rfl i2 Try.underlying22 hi2 hz20 hz21 hz22 (.slice vna i vnc) rfl HK.out.next (.slice (some ⟨zb, 0, none⟩) bn bn) (kRow m bn i bn) HU.out _ rfl (by first | rfl | simp) (by rw [kRows_len]; omega) ?_; intro v5 w5 ho5 hg5 hb5; obtain ⟨wna, wnc, hwn⟩ := HasRows.form ho5; rw [List.length_append, kRows_len, List.length_singleton] at hwn; subst hwn; have hk5 := HK.out.ker.grown hg5 HK.out.vn_ne_ker; have s0 := hk5.at_ (i := 1) rfl; have s1 := hk5.f)
          have hk10 := HK.out.put ho5 hg5 hb5
          rw [← kRows_succ] at hk10
          have HK10 := Lib.hid hk10
          obtain ⟨W10, hW10⟩ : ∃ W, W = w5.setCell ⟨kb, 1, none⟩ (.slice wna (i + 1) wnc) := ⟨_, rfl⟩
          rw [← hW10] at HK10 ⊢
          clear ho5 hg5 hb5 hk5 s0 s1 g0 g1 g2 hk10 hW10 HU
          have t0 := HK10.out.ker.at_ (i := 0) rfl
          have t1 := HK10.out.ker.at_ (i := 1) rfl
          have HFN : Hid (E.map El.s = kF m bn (bn * (i + 1))) := by rw [Nat.mul_succ]; exact HF
          obtain ⟨ma, mc, HM2⟩ := HM.out
          by_cases hc : i + 1 = E.length
          · have hd : (((i + 1 : Nat) : Int) == (E.length : Int)) = true := by simp; omega
            have hdn : E.drop (i + 1) = [] := List.drop_eq_nil_of_le (by omega)
            rw [hdn, List.map_nil] at HK10
            obtain ⟨s, r0, hch⟩ := HK10.out.chan
            have hcl := fun ats ty => run_close_open (P := Try.prog) (w := W10) ats ty hch
            have HK11 := Lib.hid (HK10.out.set [] #[] rfl true s r0)
            go_wp2
            go_roundw
            case rel => exact ⟨i + 1, _, _, _, E, by omega, hE40, by rw [decide_eq_true hc, hdn]; exact HK11, HFN⟩
            case measure =>
              have h5 := HK11.out.ker.at_ (i := 1) rfl
              have h6 : ∀ (x : Option Value) (n : Nat), (∃ a c, x = some (.slice a n c)) → (match x with | some (.slice _ n _) => 41 - n | _ => 0) = 41 - n := by
                rintro _ n ⟨a, c, rfl⟩
                rfl
              have h7 := h6 _ (i + 1) ⟨_, _, h5⟩
              have h8 := h6 _ i HM.out
              exact Nat.lt_of_le_of_lt (Nat.le_of_eq h7) (Nat.lt_of_lt_of_le (by omega) (Nat.le_of_eq h8.symm))
          · have hd : (((i + 1 : Nat) : Int) == (E.length : Int)) = false := by simp; omega
            go_wp2
            go_roundw
            case rel => exact ⟨i + 1, _, _, _, E, by omega, hE40, by rw [decide_eq_false hc]; exact HK10, HFN⟩
            case measure =>
              simp only [HM2, t1]
              omega
    · obtain rfl : i = E.length := by omega
      rw [decide_eq_true rfl, List.drop_eq_nil_of_le (Nat.le_refl _), List.map_nil] at HK
      have hl : (kF m bn (bn * E.length)).length = E.length := by rw [← HF.out, List.length_map]
      obtain ⟨h1, h2, h3⟩ := HYES.out (bn * E.length) (by rw [hl]) (by rw [hl]; exact hE40)
      rw [hl] at h2
      rw [← HF.out] at h1
      subst h1; subst h2; subst h3
      go_upto_region 8 with fail
      refine opsTo_region ?_
      refine ks_shut (.agg #[.int .i64 0, .slice none 0 0, .slice none 0 0]) HK.out rfl (by simp [Region.wanted]) (by simp [go_sem, rcase]) ?_
      refine opsTo_value (v := .bool false) (w' := wr) rfl (by simp [Region.wanted]) (by go_simp) ?_
      refine opsTo_end ?_
      go_simp
      obtain ⟨va, vc, hvf, _⟩ := HK.out.own.form
      obtain ⟨na, nc, hvn⟩ := HasRows.form HK.out.next
      rw [List.length_map] at hvf
      rw [kRows_len] at hvn
      subst hvf; subst hvn
      have g0 := HK.out.ker.at_ (i := 0) rfl
      have g1 := HK.out.ker.at_ (i := 1) rfl
      have z0 := HK.out.res.at_ (i := 0) rfl
      have z1 := HK.out.res.at_ (i := 1) rfl
      have z2 := HK.out.res.f
      go_wp2
      have hZ := (HK.out.res.set 0 (.slice va E.length vc)).set 1 (.slice na E.length nc)
      have n0 := hZ.at_ (i := 0) rfl
      have n1 := hZ.at_ (i := 1) rfl
      refine bodyPost_ret (v := .tuple #[.agg #[(.slice va E.length vc), (.slice na E.length nc)], .bool true]) (by simp [results, Try.results24, go_sem, n0, n1]) rfl ?_
      obtain ⟨d1, d2, d3, d4⟩ := HK.out.done (.slice va E.length vc) (.slice na E.length nc)
      exact ⟨_, _, E, rfl, d1, d2, rfl, ⟨w.heap.size + 2, _, by omega, d3⟩, d4⟩
theorem impl_search (v : Value) (b : Int) (rows : List (List Int)) (out : List Int) (w : World) (h : LiesS w v b rows out) (hs : rows.length + tot rows + out.length ≤ 1048576) :
    Calls Try.prog 24 #[v] w (GivesKS (kerV b rows out) (kerR b rows out) (kerK b rows out) w) := by
  cases hk : formK b rows out with
  | true => exact impl_ker_yes v b rows out w h hs hk
  | false =>
    have h2 : kerK b rows out = false := by rw [kerK, hk]; rfl
    have h1 : kerV b rows out = [] := by rw [kerV, h2]; simp
    have h3 : kerR b rows out = [] := by rw [kerR, h2]; simp
    rw [h1, h2, h3]
    exact impl_ker_no v b rows out w h hs hk
end Kern
end Go.Proofs.Ytgbgcaaekpgapac
/- Plain facts on the search for a kernel: no sequence stands twice, and where a sequence was found to stand it stands in the end, and there only. No conditions beyond those that each fact states. -/
namespace Go.Proofs.Ytgbgcaaekpgapac
open Plain
set_option linter.unusedVariables false
namespace Kern
open Seqs Mins
theorem addQ_nodup {F : List Sq} {y : Sq} (h : F.Nodup) : (addQ F y).Nodup := by
  unfold addQ
  split
  · exact h
  · rename_i hn
    refine List.nodup_append.2 ⟨h, by simp, fun x hx z hz e => hn ?_⟩
    rw [List.mem_singleton.1 hz] at e
    subst e
    exact List.any_eq_true.2 ⟨x, hx, Sq.same_iff.2 rfl⟩
theorem kF_nodup (m : Sq) (b : Nat) : ∀ n, (kF m b n).Nodup
  | 0 => by show [m].Nodup; simp
  | n + 1 => by
    have ih := kF_nodup m b n
    cases hg : (kF m b n)[n / b]? with
    | none => rw [kF_stay (List.getElem?_eq_none_iff.1 hg)]; exact ih
    | some g => rw [kF_step hg]; exact addQ_nodup ih
theorem addQ_at (F : List Sq) (y : Sq) : (addQ F y)[atQ F y]? = some y := by
  by_cases h : atQ F y < F.length
  · obtain ⟨h1, f, h2, rfl⟩ := addQ_old h
    rw [h1]; exact h2
  · obtain ⟨h1, h2⟩ := addQ_new h
    rw [h1, h2, List.getElem?_append_right (Nat.le_refl _), Nat.sub_self]
    rfl
/-- In what is found in the end a sequence stands where it was found to stand. -/
theorem at_end {m : Sq} {bn i r k : Nat} {f : Sq} (hr : r < bn) (hf : (kF m bn (bn * i + r))[i]? = some f) (hk : bn * i + (r + 1) ≤ k) : (kF m bn k)[atQ (kF m bn (bn * i + r)) (sub f (r : Int))]? = some (sub f (r : Int)) := by
  refine kF_get hk ?_
  rw [kF_next hr hf]
  exact addQ_at _ _
theorem at_only {L : List Sq} (h : L.Nodup) {p k : Nat} {x y : Sq} (hp : L[p]? = some y) (hk : L[k]? = some x) : x.same y = true ↔ k = p := by
  rw [Sq.same_iff]
  constructor
  · rintro rfl
    obtain ⟨h1, h2⟩ := List.getElem?_eq_some_iff.1 hp
    obtain ⟨h3, h4⟩ := List.getElem?_eq_some_iff.1 hk
    exact (List.getElem_inj h).1 (h4.trans h2.symm)
  · rintro rfl
    exact Option.some.inj (hk.symm.trans hp)
end Kern
end Go.Proofs.Ytgbgcaaekpgapac
/- Contract of the laws' eqSequenceS, at two slices that hold the same sequences. No conditions beyond those that it states. -/
namespace Go.Proofs.Ytgbgcaaekpgapac
open Go.ChangeShapes Go.WideShapes Go.ChangeAt Go.RowKit
open Go.PlainAid Plain
set_option linter.unusedVariables false
namespace Kern
open Seqs Mins
/-- What stands at one place of such a slice. -/
theorem elem_at {w : World} {base lo : Nat} {v : Value} {E : List El} {k : Nat} {s : Sq} (h : OwnQ w base v (E.map El.q)) (hE : Elems w lo E) (hs : (E.map El.s)[k]? = some s) :
    ∃ g c a1 c1 a2 c2, v = .slice (some ⟨g, 0, none⟩) E.length c ∧ w.cell? ⟨g, k * 3, none⟩ = some (.int .i64 s.b) ∧ w.cell? ⟨g, k * 3 + 1, none⟩ = some (.slice a1 s.r.length c1) ∧ w.cell? ⟨g, k * 3 + 2, none⟩ = some (.slice a2 s.o.length c2) ∧ LiesS w (.agg #[.int .i64 s.b, .slice a1 s.r.length c1, .slice a2 s.o.length c2]) s.b s.r s.o := by
  obtain ⟨a, c, hv, hag⟩ := h.form
  have hml : (E.map El.q).length = E.length := List.length_map ..
  have hlt := (List.getElem?_eq_some_iff.1 hs).1
  rw [List.length_map] at hlt
  obtain ⟨el, hel⟩ : ∃ e, E[k]? = some e := ⟨_, List.getElem?_eq_getElem hlt⟩
  rw [List.getElem?_map, hel] at hs
  obtain rfl := Option.some.inj hs
  have hq : (E.map El.q)[k]? = some el.q := by rw [List.getElem?_map, hel]; rfl
  obtain ⟨g, rfl, _⟩ := hag (by rw [hml]; omega)
  rw [hv] at h
  obtain ⟨c0, c1, c2⟩ := h.cells hq
  have hls := hE.lies hel
  obtain ⟨an1, cn1, ao1, co1, he⟩ := hls.form
  rw [he] at hls
  simp only [encQ, Value.agg.injEq, Array.mk.injEq, List.cons.injEq, and_true, Value.int.injEq, true_and] at he
  obtain ⟨e1, e2, e3⟩ := he
  rw [e1] at c0
  rw [e2] at c1
  rw [e3] at c2
  rw [hml] at hv
  exact ⟨g, c, an1, cn1, ao1, co1, hv, c0, c1, c2, hls⟩
set_option maxHeartbeats 1000000 in
theorem eqQ (u v : Value) (E F : List El) (lo lo' base base' : Nat) (w : World) (h1 : OwnQ w base u (E.map El.q)) (h2 : OwnQ w base' v (F.map El.q)) (hE : Elems w lo E) (hF : Elems w lo' F) (hs : E.map El.s = F.map El.s) :
    Calls Try.prog 9 #[u, v] w fun e w' => e = .returned (.bool true) ∧ Below w.heap.size w w' := by
  obtain ⟨a, c, hu, _⟩ := h1.form
  obtain ⟨a', c', hv, _⟩ := h2.form
  have hl : F.length = E.length := by have := congrArg List.length hs; rw [List.length_map, List.length_map] at this; exact this.symm
  have hsm : E.length ≤ 9223372036854775807 := by have := h1.small; rw [List.length_map] at this; exact this
  rw [List.length_map] at hu hv
  rw [hl] at hv
  subst hu; subst hv
  have HE := Lib.hid h1
  have HF := Lib.hid h2
  have HEE := Lib.hid hE
  have HFF := Lib.hid hF
  have HS := Lib.hid hs
  have HL := Lib.hid hl
  clear h1 h2 hE hF hs hl
  go_enter Try.func9, Try.ntmps9
  go_wp2
  go_loopw [5] (fun k' wr => ∃ k : Nat, k ≤ E.length ∧ k' = .int .i64 k ∧ Hid (Below w.heap.size w wr)) (fun k' _ => E.length - (intOf k').toNat)
  case atStart => exact ⟨0, Nat.zero_le _, rfl, Below.refl _ _⟩
  case round =>
    obtain ⟨k, hkE, rfl, HB⟩ := hrel
    obtain ⟨W4, rfl⟩ : ∃ W : World, W = wr := ⟨_, rfl⟩
    by_cases hk : k < E.length
    · obtain ⟨s, hs⟩ : ∃ s, (E.map El.s)[k]? = some s := ⟨_, List.getElem?_eq_getElem (by rw [List.length_map]; exact hk)⟩
      obtain ⟨g, d, a1, c1, a2, c2, hu, p0, p1, p2, hl1⟩ := elem_at (HE.out.below HB.out) (HEE.out.below HB.out) hs
      rw [HS.out] at hs
      obtain ⟨g', d', b1, d1, b2, d2, hv, q0, q1, q2, hl2⟩ := elem_at (HF.out.below HB.out) (HFF.out.below HB.out) hs
      rw [HL.out] at hv
      injection hu with hu _ hud
      subst hu; subst hud
      injection hv with hv _ hvd
      subst hv; subst hvd
      have HEQ : Hid (∀ W, Below W4.heap.size W4 W → Calls Try.prog 10 #[.agg #[.int .i64 s.b, .slice a1 s.r.length c1, .slice a2 s.o.length c2], .agg #[.int .i64 s.b, .slice b1 s.r.length d1, .slice b2 s.o.length d2]] W fun e w' => e = .returned (.bool true) ∧ Below W.heap.size W w') := fun W hW => eqS _ _ s.b s.r s.o W (hl1.below hW) (hl2.below hW)
      have hk0 : (0 : Int) ≤ (k : Int) := Int.natCast_nonneg _
      have hkE1 : (k : Int) < (E.length : Int) := by omega
      have hD : Below W4.heap.size W4 W4.drew := below_drew' W4
      clear hs hl1 hl2
      go_wp2_with fail
      go_region_law (first | (go_simp; (with_reducible refine (HEQ.out _ hD).mono ?_); rintro e W8 ⟨rfl, b8⟩; have bA : Below W4.heap.size W4 W8 := hD.trans (b8.mono hD.size)))
      all_goals
        have HBA := Lib.hid (HB.out.trans (bA.mono HB.out.size))
        clear p0 p1 p2 q0 q1 q2 bA b8
        go_wp2
        go_roundw
        case rel => exact ⟨k + 1, by omega, by go_num, HBA⟩
        case measure => simp [intOf]; omega
    · obtain rfl : k = E.length := by omega
      go_wp2
      go_ret
      exact ⟨rfl, HB.out⟩
end Kern
end Go.Proofs.Ytgbgcaaekpgapac
/- Contract of the program's FromLeast. No conditions beyond those that it states. -/
namespace Go.Proofs.Ytgbgcaaekpgapac
open Go.ChangeShapes Go.WideShapes Go.ChangeAt Go.RowKit
open Go.PlainAid Plain
set_option linter.unusedVariables false
namespace Kern
open Seqs Mins
/-- What reads the least digits first: whether there is one, its base, its next states, its terms. -/
def flK (b : Int) (rows : List (List Int)) (out : List Int) : Bool := kerK b rows out && decide ((kerV b rows out).length ≤ 16)
def flT (L : List Sq) : List Int := L.map fun s => s.o.getD 0 0
def flB (b : Int) (rows : List (List Int)) (out : List Int) : Int := if flK b rows out = true then b else 0
def flR (b : Int) (rows : List (List Int)) (out : List Int) : List (List Int) := if flK b rows out = true then kerR b rows out else []
def flO (b : Int) (rows : List (List Int)) (out : List Int) : List Int := if flK b rows out = true then flT (kerV b rows out) else []
theorem fl_no {b : Int} {rows : List (List Int)} {out : List Int} (h : flK b rows out = false) : flB b rows out = 0 ∧ flR b rows out = [] ∧ flO b rows out = [] := by simp [flB, flR, flO, h]
theorem fl_yes {b : Int} {rows : List (List Int)} {out : List Int} (h : flK b rows out = true) : flB b rows out = b ∧ flR b rows out = kerR b rows out ∧ flO b rows out = flT (kerV b rows out) := by simp [flB, flR, flO, h]
theorem flT_take {L : List Sq} {k : Nat} {s : Sq} (h : L[k]? = some s) : flT (L.take (k + 1)) = flT (L.take k) ++ [s.o.getD 0 0] := by
  obtain ⟨h1, rfl⟩ := List.getElem?_eq_some_iff.1 h
  rw [List.take_succ_eq_append_getElem h1]
  simp only [flT, List.map_append, List.map_cons, List.map_nil]
theorem flT_len (L : List Sq) : (flT L).length = L.length := by simp [flT]
/-- Each sequence that is found is valid. -/
theorem kerV_good {b : Int} {rows : List (List Int)} {out : List Int} : ∀ q ∈ kerV b rows out, IsSeq q.b q.r q.o := by
  unfold kerV
  split
  · rename_i h
    rw [kerK, Bool.and_eq_true] at h
    have hg := mini_good h.1
    have hs := hg.seq
    have hb : 0 < b.toNat := by have := hs.1; have := hg.base; omega
    have hm : Good (b.toNat : Int) (mini b rows out) := ⟨by rw [hg.base]; have := hs.1; have := hg.base; omega, hg.steady⟩
    exact fun q hq => (kF_good hb hm _ q hq).seq
  · intro q hq; cases hq
set_option maxRecDepth 100000 in
set_option maxHeartbeats 2000000 in
theorem impl_fl (v : Value) (b : Int) (rows : List (List Int)) (out : List Int) (w : World) (h : LiesS w v b rows out) (hs : rows.length + tot rows + out.length ≤ 1048576) :
    Calls Try.prog 15 #[v] w (GivesK (flB b rows out) (flR b rows out) (flO b rows out) (flK b rows out) w) := by
  obtain ⟨i0, hi, hz0, hz1, hz2⟩ := info_parts Ints.infoI
  have HS := Lib.hid h
  obtain ⟨an, cn, ao, co, rfl⟩ := h.form
  clear h
  have HB : Hid (Below w.heap.size w (w.alloc (Obj.cells #[Value.int .i64 b, Value.slice an rows.length cn, Value.slice ao out.length co] 30))) := (Below.refl _ _).alloc (Nat.le_refl _) _
  have HC := Lib.hid (Cells3.new w 30 (.int .i64 b) (.slice an rows.length cn) (.slice ao out.length co))
  have hbz : Below (w.alloc (Obj.cells #[Value.int .i64 b, Value.slice an rows.length cn, Value.slice ao out.length co] 30)).heap.size (w.alloc (Obj.cells #[Value.int .i64 b, Value.slice an rows.length cn, Value.slice ao out.length co] 30)) ((w.alloc (Obj.cells #[Value.int .i64 b, Value.slice an rows.length cn, Value.slice ao out.length co] 30)).alloc (Obj.cells #[Value.int .i64 0, Value.slice none 0 0, Value.slice none 0 0] 30)) := (Below.refl _ _).alloc (Nat.le_refl _) _
  have HB0 := Lib.hid (HB.out.trans (hbz.mono HB.out.size))
  have HC0 := Lib.hid (HC.out.below hbz)
  have hz := Cells3.new (w.alloc (Obj.cells #[Value.int .i64 b, Value.slice an rows.length cn, Value.slice ao out.length co] 30)) 30 (.int .i64 0) (.slice none 0 0) (.slice none 0 0)
  rw [size_alloc'] at hz
  have HZ0 := Lib.hid hz
  have HS0 := Lib.hid (HS.out.below HB0.out)
  clear hz hbz HB HC
  obtain ⟨W0, hW0⟩ : ∃ W, W = (w.alloc (Obj.cells #[Value.int .i64 b, Value.slice an rows.length cn, Value.slice ao out.length co] 30)).alloc (Obj.cells #[Value.int .i64 0, Value.slice none 0 0, Value.slice none 0 0] 30) := ⟨_, rfl⟩
  have hz0s : W0.heap.size = w.heap.size + 2 := by rw [hW0, size_alloc', size_alloc']
  have HCK := Lib.hid (impl_search _ b rows out _ HS0.out hs)
  rw [← hW0] at HB0 HC0 HZ0 HS0 HCK
  have HW0 := Lib.hid hW0
  have HZS := Lib.hid hz0s
  have HGD := Lib.hid (kerV_good (b := b) (rows := rows) (out := out))
  have HFK : Hid (flK b rows out = (kerK b rows out && decide ((kerV b rows out).length ≤ 16))) := rfl
  have HNO := Lib.hid (@fl_no b rows out)
  have HYES := Lib.hid (@fl_yes b rows out)
  obtain ⟨K, hK⟩ : ∃ x, x = kerK b rows out := ⟨_, rfl⟩
  obtain ⟨L, hL⟩ : ∃ x, x = kerV b rows out := ⟨_, rfl⟩
  obtain ⟨R, hR⟩ : ∃ x, x = kerR b rows out := ⟨_, rfl⟩
  rw [← hK, ← hL] at HFK
  rw [← hK, ← hL, ← hR] at HCK
  rw [← hL] at HGD
  rw [← hL, ← hR] at HYES
  have k0 := HC0.out.c0
  have k1 := HC0.out.c1
  have k2 := HC0.out.c2
  clear hK hL hR hs hz0s
  go_enter Try.func15, Try.ntmps15
  go_wp2_with fail
  rw [← HW0.out]
  refine HCK.out.mono ?_
  rintro e W1 ⟨vf, vn, E, rfl, ho, he, hm, ⟨lo, hi1, hlo, hn⟩, b1⟩
  have hml : E.length = L.length := by rw [← hm, List.length_map]
  obtain ⟨a, c, rfl, _⟩ := ho.form
  obtain ⟨a', c', rfl⟩ := HasRows.form hn
  rw [List.length_map, hml] at ho ⊢
  have hL40 : L.length ≤ 9223372036854775807 := by have := ho.small; rw [List.length_map] at this; omega
  have hbx : Below W1.heap.size W1 (W1.alloc (.cells #[.slice a L.length c, .slice a' R.length c'] 45)) := (Below.refl _ _).alloc (Nat.le_refl _) _
  have hx := CellsN.new W1 45 [.slice a L.length c, .slice a' R.length c']
  have hb2 := HB0.out.trans (b1.mono HB0.out.size)
  have HB2 := Lib.hid (hb2.trans (hbx.mono hb2.size))
  have HO2 := Lib.hid (ho.below hbx)
  have HE2 := Lib.hid (he.below hbx)
  have HN2 := Lib.hid (hn.below hbx)
  have HZ2 := Lib.hid ((HZ0.out.below b1).below hbx)
  have HC2 := Lib.hid ((HC0.out.below b1).below hbx)
  have HM := Lib.hid hm
  have HSZ2 : Hid (w.heap.size + 2 ≤ W1.heap.size ∧ W1.heap.size ≤ (W1.alloc (.cells #[.slice a L.length c, .slice a' R.length c'] 45)).heap.size ∧ W0.heap.size ≤ lo) := ⟨by have := HZS.out; have := b1.size; omega, hbx.size, hlo⟩
  have HKB := Lib.hid hx
  clear ho he hn hm b1 hb2 hbx hx hlo k0 k1 k2 hml HCK HZ0 HC0 HW0 HS0 HB0
  have x0 := HKB.out.at_ (i := 0) rfl
  have x1 := HKB.out.at_ (i := 1) rfl
  have k0 := HC2.out.c0
  have k1 := HC2.out.c1
  have k2 := HC2.out.c2
  have z0 := HZ2.out.c0
  have z1 := HZ2.out.c1
  have z2 := HZ2.out.c2
  have z3 := HZ2.out.f
  cases K with
  | false =>
    have HK := Lib.hid (show flK b rows out = false from HFK.out)
    go_wp2
    obtain ⟨q1, q2, q3⟩ := HNO.out HK.out
    have hZ3 := (((HZ2.out.set0 (.int .i64 0)).set1 (.slice none 0 0)).set2 (.slice none 0 0))
    have n0 := hZ3.c0
    have n1 := hZ3.c1
    have n2 := hZ3.c2
    refine bodyPost_ret (v := .tuple #[.agg #[.int .i64 0, .slice none 0 0, .slice none 0 0], .bool false]) (by simp [results, Try.results15, go_sem, n0, n1, n2]) rfl ?_
    rw [q1, q2, q3, HK.out]
    exact ⟨_, rfl, OwnS.zero _, ((HB2.out.setCell (Nat.le_succ _) _).setCell (Nat.le_succ _) _).setCell (Nat.le_succ _) _⟩
  | true =>
    by_cases h16 : L.length ≤ 16
    · have HK : Hid (flK b rows out = true) := by show _ = _; rw [HFK.out]; simp [h16]
      have hd := decide_eq_false (show ¬ (L.length : Int) > 16 by omega)
      have hdn := decide_eq_false (show ¬ 16 < L.length by omega)
      obtain ⟨e1, e2, e3⟩ := HYES.out HK.out
      have HV := Lib.hid (show flB b rows out = b ∧ flR b rows out = R ∧ flO b rows out = flT L from ⟨e1, e2, e3⟩)
      clear e1 e2 e3 HNO HYES HFK
      go_wp2
      obtain ⟨W2, hW2⟩ : ∃ W, W = W1.alloc (.cells #[.slice a L.length c, .slice a' R.length c'] 45) := ⟨_, rfl⟩
      have hws : W2.heap.size = W1.heap.size + 1 := by rw [hW2, size_alloc']
      have h3 : Below W2.heap.size W2 (W2.alloc (.cells #[.int .i64 b, .slice a' R.length c', .slice none 0 0] 30)) := (Below.refl _ _).alloc (Nat.le_refl _) _
      have hp3 := Cells3.new W2 30 (.int .i64 b) (.slice a' R.length c') (.slice none 0 0)
      rw [← hW2] at HB2 HO2 HE2 HN2 HZ2 HC2 HSZ2 HKB ⊢
      obtain ⟨p, hp⟩ : ∃ p, p = W2.heap.size := ⟨_, rfl⟩
      rw [← hp] at h3 hp3 HSZ2 hws
      have hw1p : W1.heap.size + 1 = p := hws.symm
      have H3 := Lib.hid h3
      have HP3 := Lib.hid hp3
      have HPS := Lib.hid hp
      have HWP := Lib.hid hw1p
      rw [hw1p]
      have hpl : W1.heap.size < p := by omega
      clear hW2 h3 hp3 hp x0 x1 k0 k1 k2 z0 z1 z2 z3 hd hdn hw1p hws
      go_loopw [31] (fun i' wr => ∃ (k : Nat) (vo : Value), k ≤ L.length ∧ i' = .int .i64 k ∧ Hid (Cells3 wr p 30 (.int .i64 b) (.slice a' R.length c') vo) ∧ Hid (Has (Value.int .i64) 3 wr (p + 1) vo (flT (L.take k))) ∧ Hid (Below p W2 wr)) (fun i' _ => L.length - (intOf i').toNat)
      case atStart => exact ⟨0, _, Nat.zero_le _, rfl, HP3, World.ownsRow_nil _ _ _ _, H3⟩
      case round =>
        obtain ⟨k, vo, hk, rfl, HP, HO, HB⟩ := hrel
        obtain ⟨W4, rfl⟩ : ∃ W : World, W = wr := ⟨_, rfl⟩
        have HBW : Hid (Below W2.heap.size W2 W4) := by show Below _ _ _; rw [← HPS.out]; exact HB.out
        by_cases hlt : k < L.length
        · obtain ⟨s, hs⟩ : ∃ s, L[k]? = some s := ⟨_, List.getElem?_eq_getElem hlt⟩
          have hsE := hs
          rw [← HM.out] at hsE
          obtain ⟨g, d, a1, c1, a2, c2, hv, p0, p1, p2, hls⟩ := elem_at (HO2.out.below HBW.out) (HE2.out.below HBW.out) hsE
          injection hv with hv1 hv2 hv3
          subst hv1; subst hv3
          have hsq := HGD.out s (List.mem_of_getElem? hs)
          obtain ⟨x, hx⟩ : ∃ x, s.o[0]? = some x := ⟨_, List.getElem?_eq_getElem (by have := hsq.2.2.1; have := hsq.2.2.2.2.1; omega)⟩
          have hol : 0 < s.o.length := (List.getElem?_eq_some_iff.1 hx).1
          obtain ⟨q, t, hq, hcx⟩ : ∃ q t, a2 = some ⟨q, t, none⟩ ∧ W4.cell? ⟨q, t + 0, none⟩ = some (.int .i64 x) := by
            obtain ⟨vn, vo, he, _, hl2⟩ := hls
            simp only [Value.agg.injEq, Array.mk.injEq, List.cons.injEq, and_true, true_and] at he
            obtain ⟨rfl, rfl⟩ := he
            obtain ⟨_, a3, c3, he3, _, hc3⟩ := hl2
            injection he3 with e1 e2 e3
            subst e1
            exact hc3 0 x hx
          rw [Nat.add_zero] at hcx
          subst hq
          have HFT : Hid (flT (L.take (k + 1)) = flT (L.take k) ++ [x]) := by
            show _ = _
            rw [flT_take hs, List.getD_eq_getElem?_getD, hx]
            rfl
          have HFL : Hid ((flT (L.take k)).length ≤ 16) := by show _ ≤ _; rw [flT_len, List.length_take]; omega
          obtain ⟨oa, oc, rfl, _⟩ := HO.out.form
          have hby : Below W4.heap.size W4 (W4.alloc (.cells #[.int .i64 s.b, .slice a1 s.r.length c1, .slice (some ⟨q, t, none⟩) s.o.length c2] 30)) := (Below.refl _ _).alloc (Nat.le_refl _) _
          have hY := Cells3.new W4 30 (.int .i64 s.b) (.slice a1 s.r.length c1) (.slice (some ⟨q, t, none⟩) s.o.length c2)
          have hP5 := HP.out.below hby
          have hO5 := HO.out.below hby
          have hcx5 := (hby.cell (p := ⟨q, t, none⟩) (World.block_lt_of_cell? _ _ hcx)).trans hcx
          have hpw : p < W4.heap.size := HP.out.lt
          have hB5 : Below p W2 (W4.alloc (.cells #[.int .i64 s.b, .slice a1 s.r.length c1, .slice (some ⟨q, t, none⟩) s.o.length c2] 30)) := HB.out.trans (hby.mono (Nat.le_of_lt hpw))
          have hkd : (k : Int) < (L.length : Int) := by omega
          clear hs hsE hls hsq hx hv2
          obtain ⟨F, hF⟩ : ∃ F, F = flT (L.take k) := ⟨_, rfl⟩
          rw [← hF] at HFT HFL HO hO5 HP hP5
          clear hF
          go_wp2_with fail
          obtain ⟨W5, hW5⟩ : ∃ W, W = W4.alloc (.cells #[.int .i64 s.b, .slice a1 s.r.length c1, .slice (some ⟨q, t, none⟩) s.o.length c2] 30) := ⟨_, rfl⟩
          rw [← hW5] at hby hY hP5 hO5 hcx5 hB5 ⊢
          clear hW5 p0 p1 p2 hcx HO HP HB
          have HY := Lib.hid hY
          have HP := Lib.hid hP5
          have HO := Lib.hid hO5
          have HB := Lib.hid hB5
          have f2 := hY.c2
          have l2 := hP5.c2
          have l2a := (hP5.alloc (.cells #[Value.int .i64 x] 3)).c2
          have HSW : Hid (p + 1 ≤ W5.heap.size) := by have := hby.size; show _ ≤ _; omega
          have HNP := Lib.hid (has_ne_c3 hO5 hP5 (by decide))
          clear hby hY hP5 hO5 hB5
          go_region_law (refine step_append_at_list (enc := (Value.int .i64)) (e := 3) rfl (.tmp 36) (.tmp 41) 23 rfl (p + 1) i0 (.int .i64 0) 8 Try.underlying23 hi hz0 hz1 hz2 rfl (.slice oa F.length oc) F rfl (by repeat (first | with_reducible exact HO.out | with_reducible apply has_alloc | with_reducible apply has_drew)) (Value.slice (some ⟨_, 0, none⟩) 1 1) [x] rfl (by repeat (first | (with_reducible refine lies_lit1 (enc := (Value.int .i64)) _ rfl) | with_reducible apply lies_alloc | with_reducible apply lies_drew)) (fun _ _ => rfl) (by have := HFL.out; simp; omega) (by have := HFL.out; simp; omega) (by have := HSW.out; simp; omega) ?_; intro vt w6 ho6 hg6 hb6; obtain ⟨a6, c6, hvf, _⟩ := ho6.form; rw [show (F ++ [x]).length = F.length + 1 from by simp] at hvf; subst hvf; refine with_fact (T := W5.grownBy w6 (Value.slice oa F.length oc).ownBlock) ?_ ?_; (focus (first | exact grown_drew (grown_alloc hg6) | exact grown_alloc hg6)); intro hg7; have hc7 := HP.out.grown hg7 HNP.out; have r1 := hc7.c2; have r3 := hc7.f)
          all_goals
            go_wp2
            have HP9 := Lib.hid (hc7.set2 (.slice a6 (F.length + 1) c6))
            have HO9 : Hid (Has (Value.int .i64) 3 (w6.setCell ⟨p, 2, none⟩ (.slice a6 (F.length + 1) c6)) (p + 1) (.slice a6 (F.length + 1) c6) (flT (L.take (k + 1)))) := by
              show Has _ _ _ _ _ _
              rw [HFT.out]
              exact ho6.of_same fun j hj => by
                have : p ≠ j := by have := (ho6.lt j hj).1; omega
                simp [World.setCell, Array.getElem?_modify, this]
            have HB9 : Hid (Below p W2 (w6.setCell ⟨p, 2, none⟩ (.slice a6 (F.length + 1) c6))) := (HB.out.grown hg7 (by have := HSW.out; omega) (fun j hj => by have := (HO.out.lt j hj).1; omega)).setCell (Nat.le_refl p) _
            go_roundw
            case rel => exact ⟨k + 1, _, by omega, by go_num, HP9, HO9, HB9⟩
            case measure => simp [intOf] <;> omega
        · have hE : k = L.length := by omega
          have HOE : Hid (Has (Value.int .i64) 3 W4 (p + 1) vo (flT L)) := by
            have h := HO.out
            rw [List.take_of_length_le (by omega)] at h
            exact h
          obtain ⟨oa, oc, rfl, _⟩ := HOE.out.form
          obtain ⟨us, hR⟩ := HN2.out.ownR
          rw [← HPS.out] at hR
          have hR4 : OwnR W4 lo p (.slice a' R.length c') us R := ⟨hR.top.below HBW.out, hR.lt, Nat.le_of_lt HP.out.lt, hR.rows.below HBW.out⟩
          have hI4 : OwnI W4 p W4.heap.size (.slice oa (flT L).length oc) (flT L) := ⟨HOE.out.mono (Nat.le_succ p), fun j hj => (HOE.out.lt j hj).2, Nat.le_refl _⟩
          have hlo2 : w.heap.size + 2 ≤ lo := by have := HSZ2.out.2.2; have := HZS.out; omega
          have hV : OwnS W4 (w.heap.size + 2) W4.heap.size (.agg #[.int .i64 b, .slice a' R.length c', .slice oa (flT L).length oc]) b R (flT L) := OwnS.make hR4 hI4 hlo2 (by have := HN2.out.hi_le; have := HPS.out; omega) (Nat.le_of_lt HP.out.lt)
          have HOS := Lib.hid hV
          have HZR := Lib.hid (HZ2.out.below HBW.out)
          have HBR := Lib.hid (HB2.out.trans (HBW.out.mono HB2.out.size))
          have m0 := HP.out.c0
          have m1 := HP.out.c1
          have m2 := HP.out.c2
          have z0 := HZR.out.c0
          have z1 := HZR.out.c1
          have z2 := HZR.out.c2
          have z3 := HZR.out.f
          have hkd : ¬ (k : Int) < (L.length : Int) := by omega
          clear hE hR hR4 hI4 hlo2 hV HO
          obtain ⟨T, hT⟩ : ∃ T, T = flT L := ⟨_, rfl⟩
          rw [← hT] at HOS HP m2 HV
          clear hT HOE
          go_wp2
          have hZ3 := (((HZR.out.set0 (.int .i64 b)).set1 (.slice a' R.length c')).set2 (.slice oa T.length oc))
          have n0 := hZ3.c0
          have n1 := hZ3.c1
          have n2 := hZ3.c2
          refine bodyPost_ret (v := .tuple #[.agg #[.int .i64 b, .slice a' R.length c', .slice oa T.length oc], .bool true]) (by simp [results, Try.results15, go_sem, n0, n1, n2]) rfl ?_
          rw [HV.out.1, HV.out.2.1, HV.out.2.2, HK.out]
          refine ⟨_, rfl, ?_, ((HBR.out.setCell (Nat.le_succ _) _).setCell (Nat.le_succ _) _).setCell (Nat.le_succ _) _⟩
          have hT : ∀ (i : Nat) (u : Value) (W : World), Plain.Touch (w.heap.size + 1) (w.heap.size + 2) W (W.setCell ⟨w.heap.size + 1, i, none⟩ u) := fun i u W => Plain.Touch.of_set (a := ⟨w.heap.size + 1, i, none⟩) u (Nat.le_refl _) (Nat.lt_succ_self _)
          have T0 : Plain.Touch (w.heap.size + 1) (w.heap.size + 2) W4 (((W4.setCell ⟨w.heap.size + 1, 0, none⟩ (.int .i64 b)).setCell ⟨w.heap.size + 1, 1, none⟩ (.slice a' R.length c')).setCell ⟨w.heap.size + 1, 2, none⟩ (.slice oa T.length oc)) := ((hT 0 _ _).trans (hT 1 _ _)).trans (hT 2 _ _)
          have h1 := (HOS.out.touch T0 (.inr (Nat.le_refl _))).lower (show w.heap.size ≤ w.heap.size + 2 by omega)
          simpa only [size_setCell'] using h1
    · have HK : Hid (flK b rows out = false) := by show _ = _; rw [HFK.out]; simp; omega
      have hd := decide_eq_true (show (L.length : Int) > 16 by omega)
      have hdn := decide_eq_true (show 16 < L.length by omega)
      go_wp2
      obtain ⟨q1, q2, q3⟩ := HNO.out HK.out
      have hZ3 := (((HZ2.out.set0 (.int .i64 0)).set1 (.slice none 0 0)).set2 (.slice none 0 0))
      have n0 := hZ3.c0
      have n1 := hZ3.c1
      have n2 := hZ3.c2
      refine bodyPost_ret (v := .tuple #[.agg #[.int .i64 0, .slice none 0 0, .slice none 0 0], .bool false]) (by simp [results, Try.results15, go_sem, n0, n1, n2]) rfl ?_
      rw [q1, q2, q3, HK.out]
      exact ⟨_, rfl, OwnS.zero _, ((HB2.out.setCell (Nat.le_succ _) _).setCell (Nat.le_succ _) _).setCell (Nat.le_succ _) _⟩
end Kern
end Go.Proofs.Ytgbgcaaekpgapac
/- Plain facts on the rows of a kernel: each digit leads from each sequence that is found to one place alone. No conditions beyond those that each fact states. -/
namespace Go.Proofs.Ytgbgcaaekpgapac
open Plain
set_option linter.unusedVariables false
namespace Kern
open Seqs Mins
theorem kF_stuck {m : Sq} {b n : Nat} (hb : 0 < b) (h : (kF m b n).length ≤ n / b) : ∀ j, kF m b (n + j) = kF m b n
  | 0 => rfl
  | j + 1 => by
    have ih := kF_stuck hb h j
    rw [← Nat.add_assoc, kF_stay, ih]
    rw [ih]
    exact Nat.le_trans h (Nat.div_le_div_right (by omega))
theorem kF_early {m : Sq} {b n i : Nat} (hb : 0 < b) (hi : i < (kF m b n).length) (hn : b * i ≤ n) : i < (kF m b (b * i)).length := by
  rcases Nat.lt_or_ge i (kF m b (b * i)).length with h | h
  · exact h
  · have h1 := kF_stuck (m := m) (n := b * i) hb (by rw [Nat.mul_div_cancel_left i hb]; exact h) (n - b * i)
    rw [show b * i + (n - b * i) = n from by omega] at h1
    rw [h1] at hi
    omega
/-- From each sequence each digit leads to one place. -/
theorem ker_at {m : Sq} {bn i r : Nat} {f : Sq} (hb : 0 < bn) (h16 : (kerL m bn).length ≤ 40) (hf : (kerL m bn)[i]? = some f) (hr : r < bn) :
    ∃ pa : Nat, (kerL m bn)[pa]? = some (sub f (r : Int)) ∧ kRow m bn i (r + 1) = kRow m bn i r ++ [(pa : Int)] := by
  have hil := (List.getElem?_eq_some_iff.1 hf).1
  have h1 : bn * i ≤ bn * 40 := Nat.mul_le_mul_left _ (by omega)
  have h2 : bn * (i + 1) ≤ bn * 41 := Nat.mul_le_mul_left _ (by omega)
  have he := kF_early (m := m) (n := 41 * bn) hb hil (by omega)
  obtain ⟨f0, hf0⟩ : ∃ f0, (kF m bn (bn * i))[i]? = some f0 := ⟨_, List.getElem?_eq_getElem he⟩
  have hfe : f0 = f := by
    have h3 := kF_get (k := 41 * bn) (by omega) hf0
    exact Option.some.inj (h3.symm.trans hf)
  subst hfe
  have hat : fAt m bn i = f0 := by rw [fAt, List.getD_eq_getElem?_getD, hf0]; rfl
  have h4 := at_end (m := m) (k := 41 * bn) hr (kF_get (k := bn * i + r) (by omega) hf0) (by rw [Nat.mul_add] at h2; omega)
  refine ⟨atQ (kF m bn (bn * i + r)) (sub f0 (r : Int)), h4, ?_⟩
  rw [kRow_succ, hat]
theorem ker_nodup (m : Sq) (b : Nat) : (kerL m b).Nodup := kF_nodup m b _
end Kern
end Go.Proofs.Ytgbgcaaekpgapac
