/- Plain facts on the turns of a word: its different turns in their order, the least one, which is a Lyndon word if no turn but a whole one gives the word back; so the least turn of a run's period is a Lyndon word. No conditions beyond those that each fact states. -/
import Derived.Test.YtcnejfihpaicdaaRunVal
set_option linter.unusedVariables false
namespace Go.Proofs.Ytcnejfihpaicdaa.Plain

def rots (u : List Int) : List (List Int) := (List.range u.length).map fun k => u.drop k ++ u.take k
def conjV (u : List Int) : List (List Int) := if u.length ≤ 64 then sdl (rots u) else []
def lcV (u : List Int) : List Int := match conjV u with | [] => u | x :: _ => x
theorem rots_mem {u x : List Int} : x ∈ rots u ↔ ∃ d, d < u.length ∧ x = pw u d u.length := by
  unfold rots
  rw [List.mem_map]
  constructor
  · rintro ⟨k, hk, rfl⟩
    have hk := List.mem_range.1 hk
    exact ⟨k, hk, (pw_turn (by omega)).symm⟩
  · rintro ⟨k, hk, rfl⟩
    exact ⟨k, List.mem_range.2 hk, (pw_turn (by omega)).symm⟩
theorem conjV_nil {u : List Int} (h : u.length = 0) : conjV u = [] := by
  unfold conjV rots
  rw [h]
  simp
  rfl
theorem lcV_big {u : List Int} (h : 64 < u.length) : lcV u = u := by
  unfold lcV conjV
  rw [if_neg (by omega)]
theorem lcV_head {u x : List Int} {l : List (List Int)} (h : conjV u = x :: l) : lcV u = x := by unfold lcV; rw [h]
/-- The first of them is one of them, and none is less. -/
theorem conjV_first {u : List Int} (h0 : 0 < u.length) (h : u.length ≤ 64) : (∃ d, d < u.length ∧ lcV u = pw u d u.length) ∧ ∀ d, cmpW (lcV u) (pw u d u.length) ≤ 0 := by
  have hc : conjV u = sdl (rots u) := by unfold conjV; rw [if_pos h]
  have hsd := sdl_sd (rots u)
  have hmem := sdl_mem (rots u)
  rw [← hc] at hsd hmem
  cases hl : conjV u with
  | nil =>
    exfalso
    have := (hmem _).2 (rots_mem.2 ⟨0, h0, rfl⟩)
    rw [hl] at this
    cases this
  | cons x l =>
    rw [lcV_head hl]
    rw [hl] at hsd hmem
    refine ⟨rots_mem.1 ((hmem x).1 (by simp)), fun d => ?_⟩
    have hd : pw u d u.length = pw u (d % u.length) u.length := pw_ext (pw_len _ _ _) fun i hi => by
      rw [pw_get hi]
      unfold cy
      rw [Nat.mod_add_mod]
    rw [hd]
    rcases List.mem_cons.1 ((hmem _).2 (rots_mem.2 ⟨d % u.length, Nat.mod_lt _ h0, rfl⟩)) with e | e
    · rw [e, cmpW_self]; omega
    · have := (List.pairwise_cons.1 hsd).1 _ e
      omega
theorem lcV_len {u : List Int} : (lcV u).length = u.length := by
  by_cases h0 : u.length = 0
  · unfold lcV
    rw [conjV_nil h0]
  · by_cases h : u.length ≤ 64
    · obtain ⟨⟨d, _, e⟩, _⟩ := conjV_first (u := u) (by omega) h
      rw [e, pw_len]
    · rw [lcV_big (by omega)]
theorem lcV_lyn {u : List Int} (hp : Prim u) (h : u.length ≤ 64) : Lyn (lcV u) := by
  obtain ⟨⟨b, hb, he⟩, hle⟩ := conjV_first hp.1 h
  obtain ⟨a, ha, hpa, hla⟩ := exists_least u hp
  have hn := hp.1
  have e1 : pw (pw u a u.length) (b + u.length - a) u.length = pw u b u.length := by
    rw [pw_pw rfl hn, show a + (b + u.length - a) = b + u.length from by omega, pw_shift]
  have h1 := hla (b + u.length - a)
  rw [pw_len, e1, ← he] at h1
  have h2 := hle a
  have h3 := cmpW_neg (lcV u) (pw u a u.length)
  have h4 := cmpW_zero (lcV u) (pw u a u.length) (by omega)
  rw [h4]
  exact lyn_of_least hpa hla
theorem Rn.lyn {w : List Int} {i j p : Nat} (h : Rn w i j p) (hw : w.length ≤ 64) : Lyn (lcV ((w.drop i).take p)) :=
  lcV_lyn (run_prim h.p0 h.two h.jn h.per h.min) (by rw [List.length_take, List.length_drop]; omega)
end Go.Proofs.Ytcnejfihpaicdaa.Plain
