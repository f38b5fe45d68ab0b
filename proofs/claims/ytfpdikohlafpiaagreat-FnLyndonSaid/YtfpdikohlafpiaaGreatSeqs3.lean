/- Append told with the block that the result lies in; the terms of a sequence kept ahead of its rows while both grow. No conditions beyond those that each fact states. -/
import Derived.Test.YtfpdikohlafpiaaGreatSeqs2
namespace Go.Proofs.YtfpdikohlafpiaaGreat.Plain
open Go.RowKit
/-- The result of an append lies where the slice lay, or in a new block. -/
theorem append_block {P : Program} {w : World} {base : Nat} {t ty e : TypeId} {i : TypeInfo} {z : Value} {bytes : Nat} (ht : P.underlying t = some (.slice e)) (hi : P.info? e = some i) (hz : i.zero = some z)
    (hsize : i.size = 1) (hby : i.bytes = bytes) (hzs : z.cells.size = 1) {v : Value} {n : Nat} {xs : List Value} (hown : w.ownsRow base e 1 v n xs)
    {a : Addr} {m c : Nat} {news : List Value} (hl : news.length = m * 1) (hnews : ∀ j u, news[j]? = some u → w.cell? (a.add j) = some u) (h1 : ∀ u ∈ news, u.oneCell' = true)
    (h63 : n + m ≤ maxLen) (hbytes : (n + m) * bytes ≤ 140737488355328) {v' : Value} {w' : World} (hr : (Builtin.append_ #[t, t] ty #[v, .slice (some a) m c]).run P w = .ok v' w') :
    ∀ k, v'.ownBlock = some k → v.ownBlock = some k ∨ w.heap.size ≤ k := by
  intro k hk
  rcases hown.2 with ⟨rfl, rfl⟩ | ⟨g, cap, cur, rfl, hbg, hg, hnc, hcm, hcs, htake⟩
  · obtain ⟨v1, w1, hr1, ho1, _⟩ := run_append_own (P := P) w w.heap.size t ty e i z 1 bytes ht hi hz hsize hby hzs (by decide) (.slice none 0 0) 0 [] (World.ownsRow_nil w w.heap.size e 1) a m c news hl hnews h1 h63 hbytes (Nat.le_refl _)
    rw [hr] at hr1
    injection hr1 with e1 e2
    subst e1; subst e2
    exact .inr (World.ownsRow.lt ho1 k hk).1
  · by_cases hroom : n + m ≤ cap
    · have hfit : n * i.size + news.length ≤ cur.size := by rw [hl, hcs, hsize]; omega
      have hr2 := run_append_room (P := P) w t ty e i ht hi g n cap cur hg a m c news (by rw [hsize]; exact hl) hnews h1 hroom hfit
      rw [hr] at hr2
      injection hr2 with e1 e2
      subst e1
      exact .inl hk
    · have holds : ∀ j u, xs[j]? = some u → w.cell? ((⟨g, 0, none⟩ : Addr).add j) = some u := hown.cells (g := g) rfl
      have hr2 := run_append_grow (P := P) w t ty e i z ht hi hz ⟨g, 0, none⟩ n cap xs (by rw [hsize]; exact hown.1) holds a m c news (by rw [hsize]; exact hl) hnews (by omega) (by unfold maxLen at h63; omega) (growslice_fits (by omega) (by rw [hby]; exact hbytes))
      rw [hr] at hr2
      injection hr2 with e1 e2
      subst e1
      exact .inr (by have e2 : w.heap.size = k := Option.some.inj hk
                     omega)
section
variable {α : Type} {enc : α → Value} {e : TypeId}
/-- step_append_list, told also where the result lies. -/
theorem step_append_at_list {P : Program} {ops : Array Oper} {o : Oper} {a : Act} {wx : World} {K : Act → World → Prop} {Q : Exit → Act → World → Prop} {E : Prop}
    (hgd : o.guard = none) (s x : Operand) (t : TypeId) (hop : o.op = Op.call { callee := Callee.builtin Builtin.append, args := #[s, x], argTypes := #[t, t] })
    (base : Nat) (i : TypeInfo) (z : Value) (bytes : Nat) (ht : P.underlying t = some (.slice e)) (hi : P.info? e = some i) (hz : i.zero = some z)
    (hsize : i.size = 1) (hby : i.bytes = bytes) (hzs : z.cells.size = 1)
    (v : Value) (xs : List α) (hs : a.eval s = v) (hown : Has enc e wx base v xs) (u : Value) (ys : List α) (hx : a.eval x = u) (hu : Lies enc wx u ys)
    (h1 : ∀ y ∈ ys, (enc y).oneCell' = true) (hbytes : (xs.length + ys.length) * bytes ≤ 140737488355328) (h63 : xs.length + ys.length ≤ 9223372036854775807) (hb2 : base ≤ wx.heap.size)
    (hK : ∀ v' w', Has enc e w' base v' (xs ++ ys) → wx.grownBy w' v.ownBlock → (∀ k, v'.ownBlock = some k → v.ownBlock = some k ∨ wx.heap.size ≤ k) → K (a.put o.dst v') w') :
    if Region.wanted o (yielded ops a.tmps) = true then Oper.wp P o a wx K Q else E := by
  have hw : Region.wanted o (yielded ops a.tmps) = true := by simp [Region.wanted, hgd]
  rw [if_pos hw]
  obtain ⟨hl, A, cap, rfl, hnone, hc⟩ := hu
  have hh : ∀ v' w', w'.ownsRow base e 1 v' (xs.length + ys.length) (xs.map enc ++ ys.map enc) → wx.grownBy w' v.ownBlock → (∀ k, v'.ownBlock = some k → v.ownBlock = some k ∨ wx.heap.size ≤ k) → K (a.put o.dst v') w' := by
    intro v' w' ho' hg' hb'
    refine hK v' w' ?_ hg' hb'
    show w'.ownsRow base e 1 v' _ _
    rw [List.length_append, List.map_append]
    exact ho'
  cases A with
  | none =>
    obtain rfl := hnone rfl
    have hy : ys = [] := by
      cases ys with
      | nil => rfl
      | cons y l => obtain ⟨_, _, h', _⟩ := hc 0 y rfl; cases h'
    subst hy
    have hrun := run_append_owned_none (P := P) (w := wx) base t o.type e i 1 ht hi v xs.length (xs.map enc) hown
    unfold Oper.wp
    simp only [List.length_nil] at hx
    simp [execOp, hop, resolve, invoke, builtin, hs, hx, hrun, Result.andThen]
    exact hh v wx (by simpa [Has] using hown) (World.grownBy.refl wx _) (fun k hk => .inl hk)
  | some ad =>
    have hnews : ∀ j u, (ys.map enc)[j]? = some u → wx.cell? (ad.add j) = some u := by
      intro j y hj
      rw [List.getElem?_map, Option.map_eq_some_iff] at hj
      obtain ⟨x', hx', rfl⟩ := hj
      obtain ⟨b, off, he, hcell⟩ := hc j x' hx'
      obtain rfl := Option.some.inj he
      rw [addr_plus]
      exact hcell
    have hone : ∀ u ∈ ys.map enc, u.oneCell' = true := by
      intro y hy
      obtain ⟨x', hx', rfl⟩ := List.mem_map.1 hy
      exact h1 x' hx'
    obtain ⟨v', w', hr, h2, h3, _⟩ := run_append_own (P := P) wx base t o.type e i z 1 bytes ht hi hz hsize hby hzs (by decide) v xs.length (xs.map enc) hown ad ys.length cap (ys.map enc) (by simp) hnews hone (by unfold maxLen; omega) hbytes hb2
    have hblk := append_block ht hi hz hsize hby hzs hown (by simp) hnews hone (by unfold maxLen; omega) hbytes hr
    unfold Oper.wp execOp
    simp only [hop, resolve, invoke, builtin, Sem.run_bind, Sem.run_pure, Result.andThen_ok, List.map_toArray, List.map_cons, List.map_nil, hs, hx, hr]
    exact hh v' w' h2 h3 hblk
end
section
variable {α : Type} {enc : α → Value} {e : TypeId}
/-- Append as a statement in a fixed order. -/
theorem wpList_append_list {P : Program} {w : World} {ops : Array Oper} {rest : List Oper} {o : Oper} {a : Act} {Q : Exit → Act → World → Prop} (hgd : o.guard = none) (s x : Operand) (t : TypeId)
    (ho : o.op = .call { callee := .builtin .append, args := #[s, x], argTypes := #[t, t] })
    (base : Nat) (i : TypeInfo) (z : Value) (bytes : Nat) (ht : P.underlying t = some (.slice e)) (hi : P.info? e = some i) (hz : i.zero = some z)
    (hsize : i.size = 1) (hby : i.bytes = bytes) (hzs : z.cells.size = 1)
    (v : Value) (xs : List α) (hs : a.eval s = v) (hown : Has enc e w base v xs) (u : Value) (ys : List α) (hx : a.eval x = u) (hu : Lies enc w u ys)
    (h1 : ∀ y ∈ ys, (enc y).oneCell' = true) (hbytes : (xs.length + ys.length) * bytes ≤ 140737488355328) (h63 : xs.length + ys.length ≤ 9223372036854775807) (hb2 : base ≤ w.heap.size)
    (h : ∀ v' w', Has enc e w' base v' (xs ++ ys) → w.grownBy w' v.ownBlock → (∀ k, v'.ownBlock = some k → v.ownBlock = some k ∨ w.heap.size ≤ k) → wpList P ops Q rest (a.put o.dst v') w') :
    wpList P ops Q (o :: rest) a w :=
  wpList_plain hgd fun K hK => by
    have hh := step_append_at_list (ops := ops) (E := True) (K := K) (Q := Q) hgd s x t ho base i z bytes ht hi hz hsize hby hzs v xs hs hown u ys hx hu h1 hbytes h63 hb2 (fun v' w' k1 k2 k3 => hK _ _ (h v' w' k1 k2 k3))
    rw [if_pos (by simp [Region.wanted, hgd])] at hh
    exact hh
end
/-- The head's slice has grown: it lies where it lay, or in a new block. -/
theorem OwnRows.head_grown {w w' : World} {lo hi base : Nat} {vo vo' : Value} {us : List Value} {out out' : List Int} {rows : List (List Int)} (h : OwnRows w lo hi (vo :: us) (out :: rows)) (ho : Has (Value.int .i64) 3 w' base vo' out') (hlo : lo ≤ base) (hle : hi ≤ w.heap.size)
    (hg : w.grownBy w' vo.ownBlock) (hb : ∀ k, vo'.ownBlock = some k → vo.ownBlock = some k ∨ w.heap.size ≤ k) : OwnRows w' lo w'.heap.size (vo' :: us) (out' :: rows) := by
  have hlen := h.len
  have hold : ∀ (i : Nat) (u : Value), us[i]? = some u → ∃ r, rows[i]? = some r ∧ OwnI w lo hi u r := fun i u hu => by
    obtain ⟨r, hr⟩ : ∃ r, rows[i]? = some r := ⟨_, List.getElem?_eq_getElem (by simp at hlen; rw [← hlen]; exact (List.getElem?_eq_some_iff.1 hu).1)⟩
    exact ⟨r, hr, h.row (i + 1) u r (by simpa using hu) (by simpa using hr)⟩
  have hne : ∀ (i : Nat) (u : Value), us[i]? = some u → u.ownBlock = none ∨ u.ownBlock ≠ vo.ownBlock := fun i u hu => h.apart (i + 1) 0 u vo (by simpa using hu) rfl (by omega)
  have hnew : ∀ (i : Nat) (u : Value), us[i]? = some u → ∀ k, u.ownBlock = some k → vo'.ownBlock ≠ some k := fun i u hu k hk e => by
    obtain ⟨r, _, hI⟩ := hold i u hu
    have h1 := hI.lt k hk
    rcases hb k e with h2 | h2
    · rcases hne i u hu with h3 | h3
      · rw [hk] at h3; cases h3
      · exact h3 (by rw [hk, h2])
    · omega
  refine ⟨by simpa using hlen, fun i u r hu hr => ?_, fun i j u u' hu hu' hij => ?_⟩
  · cases i with
    | zero =>
      simp at hu hr
      subst hu; subst hr
      exact ⟨ho.mono hlo, fun k hk => (ho.lt k hk).2, Nat.le_refl _⟩
    | succ i =>
      simp at hu hr
      have hI := h.row (i + 1) u r (by simpa using hu) (by simpa using hr)
      exact ⟨hI.has.of_same fun k hk => hg.block k (hI.has.lt k hk).2 (fun e => by
        rcases hne i u hu with h3 | h3
        · rw [hk] at h3; cases h3
        · exact h3 (by rw [hk, e])), fun k hk => Nat.lt_of_lt_of_le (hI.lt k hk) (Nat.le_trans hle hg.size), Nat.le_refl _⟩
  · cases i with
    | zero =>
      cases j with
      | zero => omega
      | succ j =>
        simp at hu hu'
        subst hu
        cases hk : vo'.ownBlock with
        | none => exact .inl rfl
        | some k => exact .inr fun e => hnew j u' hu' k e.symm hk
    | succ i =>
      cases j with
      | zero =>
        simp at hu hu'
        subst hu'
        cases hk : u.ownBlock with
        | none => exact .inl rfl
        | some k => exact .inr fun e => hnew i u hu k hk e.symm
      | succ j =>
        simp at hu hu'
        exact h.apart (i + 1) (j + 1) u u' (by simpa using hu) (by simpa using hu') (by omega)
/-- The head goes to the end. -/
theorem OwnRows.rotate {w : World} {lo hi : Nat} {vo : Value} {us : List Value} {out : List Int} {rows : List (List Int)} (h : OwnRows w lo hi (vo :: us) (out :: rows)) : OwnRows w lo hi (us ++ [vo]) (rows ++ [out]) := by
  have hlen : us.length = rows.length := by simpa using h.len
  have key : ∀ (i : Nat) (x : Value), (us ++ [vo])[i]? = some x → ∃ j, (vo :: us)[j]? = some x ∧ (i < us.length ∧ j = i + 1 ∨ i = us.length ∧ j = 0) := fun i x hx => by
    by_cases hi' : i < us.length
    · rw [List.getElem?_append_left hi'] at hx
      exact ⟨i + 1, by simpa using hx, .inl ⟨hi', rfl⟩⟩
    · have e1 : i = us.length := by have := (List.getElem?_eq_some_iff.1 hx).1; simp at this; omega
      subst e1
      rw [List.getElem?_append_right (Nat.le_refl _)] at hx
      exact ⟨0, by simpa using hx, .inr ⟨rfl, rfl⟩⟩
  refine ⟨by simp [hlen], fun i u r hu hr => ?_, fun i j u u' hu hu' hij => ?_⟩
  · obtain ⟨j, hj, ⟨h1, rfl⟩ | ⟨rfl, rfl⟩⟩ := key i u hu
    · rw [List.getElem?_append_left (by omega)] at hr
      exact h.row (i + 1) u r hj (by simpa using hr)
    · rw [hlen, List.getElem?_append_right (Nat.le_refl _)] at hr
      exact h.row 0 u r hj (by simpa using hr)
  · obtain ⟨i1, hi1, c1⟩ := key i u hu
    obtain ⟨j1, hj1, c2⟩ := key j u' hu'
    exact h.apart i1 j1 u u' hi1 hj1 (by omega)
/-- A sequence out of its rows and its terms, the terms told first. -/
theorem OwnS.make_head {w : World} {base : Nat} {vn vo : Value} {us : List Value} {b : Int} {rows : List (List Int)} {out : List Int} (ht : Has id 24 w base vn us) (h : OwnRows w base w.heap.size (vo :: us) (out :: rows)) :
    OwnS w base w.heap.size (.agg #[.int .i64 b, vn, vo]) b rows out := by
  refine ⟨vn, vo, us, rfl, ⟨ht, fun k hk => (ht.lt k hk).2, Nat.le_refl _, ⟨by simpa using h.len, fun i u r hu hr => h.row (i + 1) u r (by simpa using hu) (by simpa using hr), fun i j u u' hu hu' hij => h.apart (i + 1) (j + 1) u u' (by simpa using hu) (by simpa using hu') (by omega)⟩⟩, h.rotate⟩
theorem OwnRows.one {w : World} {lo hi : Nat} {v : Value} {xs : List Int} (h : OwnI w lo hi v xs) : OwnRows w lo hi [v] [xs] :=
  ⟨rfl, fun i u r hu hr => by
    cases i with
    | zero => simp at hu hr; subst hu; subst hr; exact h
    | succ i => simp at hu, fun i j u u' hu hu' hij => by
    cases i with
    | zero => cases j with
      | zero => omega
      | succ j => simp at hu'
    | succ i => simp at hu⟩
theorem own_of_has {w : World} {base : Nat} {v : Value} {xs : List Int} (h : Has (Value.int .i64) 3 w base v xs) : OwnI w base w.heap.size v xs := ⟨h, fun k hk => (h.lt k hk).2, Nat.le_refl _⟩
theorem own_pair {w : World} {lo mid : Nat} {v vo : Value} {xs ys : List Int} (h1 : OwnI w lo mid v xs) (h2 : OwnI w mid w.heap.size vo ys) (h3 : lo ≤ mid) (h4 : mid ≤ w.heap.size) : OwnRows w lo w.heap.size [vo, v] [ys, xs] :=
  ((OwnRows.one h1).snoc h2 h3 h4).rotate
theorem has_lit1v {w : World} {e : TypeId} {base g : Nat} (x : Value) (hg : g = w.heap.size) (hb : base ≤ g) : Has id e (w.alloc (.cells #[x] e)) base (.slice (some ⟨g, 0, none⟩) 1 1) [x] := has_lit1 (enc := id) x hg hb
theorem below_allocs {a w : World} {o : Obj} (h : Below a.heap.size a w) : Below a.heap.size a (w.alloc o) := h.alloc h.size o
theorem grown_below2 {w w1 : World} {B : Nat} (h : w.grownBy w1 (some w.heap.size) ∨ w.grownBy w1 (some (w.heap.size + 1))) (hB : B ≤ w.heap.size) : Below B w w1 := by
  rcases h with h | h
  · exact (Below.refl B w).grown h hB (fun k hk => by cases hk; exact hB)
  · exact (Below.refl B w).grown h hB (fun k hk => by cases hk; omega)
/-- A row that is not empty: its slice's cell and its own cells. -/
theorem row_at {w : World} {pa off n cn : Nat} {rows : List (List Int)} (h : LiesR w (.slice (some ⟨pa, off, none⟩) n cn) rows) {i : Nat} {r : List Int} (hr : rows[i]? = some r) (hne : 0 < r.length) :
    ∃ q s c, w.cell? ⟨pa, off + i, none⟩ = some (.slice (some ⟨q, s, none⟩) r.length c) ∧ (∀ (k : Nat) (x : Int), r[k]? = some x → w.cell? ⟨q, s + k, none⟩ = some (.int .i64 x)) ∧ pa < w.heap.size ∧ q < w.heap.size := by
  obtain ⟨a, cap, hv, _, hc⟩ := h.row
  obtain ⟨b, o, u, h1, h2, _, a', c', rfl, _, h3⟩ := hc i r hr
  injection hv with e1 e2 e3
  rw [← e1] at h1
  injection h1 with h1
  injection h1 with h1 h4
  subst h1; subst h4
  obtain ⟨q, s, rfl, h5⟩ := h3 0 _ (List.getElem?_eq_getElem hne)
  refine ⟨q, s, c', h2, fun k x hx => ?_, World.block_lt_of_cell? w _ h2, World.block_lt_of_cell? w _ h5⟩
  obtain ⟨q', s', h6, h7⟩ := h3 k x hx
  injection h6 with h6
  injection h6 with h6 h8
  subst h6; subst h8
  exact h7
theorem Touch.of_grown_none {w w1 : World} (h : w.grownBy w1 none) : Plain.Touch 0 0 w w1 := ⟨h.os, h.tape, h.output, h.size, fun k hk _ => h.block k hk (by simp)⟩
end Go.Proofs.YtfpdikohlafpiaaGreat.Plain
