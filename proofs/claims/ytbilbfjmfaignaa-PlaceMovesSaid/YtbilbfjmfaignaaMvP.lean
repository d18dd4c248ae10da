/- Moves of placements, as plain data: there and back, and two of them. No program is named here. -/
import Derived.Test.YtbilbfjmfaignaaPldP
namespace Go.Coop
theorem idxN_take {x : Int} : ∀ l : List Int, x ∉ l.take (idxN x l)
  | [] => by simp
  | y :: l => by
    unfold idxN
    split
    · simp
    · rename_i h
      rw [List.take_succ_cons]
      intro hm
      rcases List.mem_cons.1 hm with e | e
      · exact h e.symm
      · exact idxN_take l e
theorem set_at {l : List Int} {i j : Nat} {b x : Int} (h : l[j]? = some x) (hij : i ≠ j) : (l.set i b)[j]? = some x := by
  rw [List.getElem?_set, if_neg hij, h]
theorem idx_set_new {a b : Int} {l : List Int} (ha : a ∈ l) (hb : b ∉ l) : idxN b (l.set (idxN a l) b) = idxN a l := by
  refine idxN_eq ?_ ?_
  · rw [List.take_set_of_le (Nat.le_refl _)]
    exact fun hm => hb (List.mem_of_mem_take hm)
  · rw [List.getElem?_set, if_pos rfl, if_pos (idxN_lt ha)]
theorem idx_ne {a c : Int} {l : List Int} (ha : a ∈ l) (hc : c ∈ l) (h : a ≠ c) : idxN a l ≠ idxN c l := by
  intro e
  have h1 := idxN_at ha
  have h2 := idxN_at hc
  rw [e, h2] at h1
  injection h1 with h1
  exact h h1.symm
theorem mem_set_of {a b x : Int} {l : List Int} (ha : a ∈ l) (hx : x ∈ l) (h : a ≠ x) : x ∈ l.set (idxN a l) b :=
  mem_at (set_at (idxN_at hx) (idx_ne ha hx h))
theorem set_not {a b : Int} {l : List Int} (hn : l.Nodup) (ha : a ∈ l) (hab : a ≠ b) : a ∉ l.set (idxN a l) b := by
  intro hm
  obtain ⟨j, hj⟩ := List.getElem?_of_mem hm
  rw [List.getElem?_set] at hj
  split at hj
  · split at hj
    · injection hj with hj
      exact hab hj.symm
    · cases hj
  · rename_i hne
    have h1 := List.getElem?_eq_some_iff.1 hj
    have h2 := List.getElem?_eq_some_iff.1 (idxN_at ha)
    obtain ⟨p1, e1⟩ := h1
    obtain ⟨p2, e2⟩ := h2
    rcases Nat.lt_or_ge (idxN a l) j with hlt | hge
    · exact (List.pairwise_iff_getElem.1 hn) _ _ p2 p1 hlt (e2.trans e1.symm)
    · exact (List.pairwise_iff_getElem.1 hn) _ _ p1 p2 (by omega) (e1.trans e2.symm)
theorem idx_set_other {a b c : Int} {l : List Int} (ha : a ∈ l) (hc : c ∈ l) (hac : a ≠ c) (hbc : b ≠ c) : idxN c (l.set (idxN a l) b) = idxN c l := by
  refine idxN_eq ?_ (set_at (idxN_at hc) (idx_ne ha hc hac))
  intro hm
  rw [List.take_set] at hm
  rcases List.mem_or_eq_of_mem_set hm with e | e
  · exact idxN_take l e
  · exact hbc e.symm
theorem set_back {a b : Int} {l : List Int} (ha : a ∈ l) : (l.set (idxN a l) b).set (idxN a l) a = l := by
  rw [List.set_set]
  apply List.ext_getElem?
  intro j
  rw [List.getElem?_set]
  split
  · rename_i e
    subst e
    rw [if_pos (idxN_lt ha), idxN_at ha]
  · rfl
/-- there and back -/
theorem mv1_back {a b : Int} {q : Pl} (hb : b ∉ q.l) : mv1 b a (mv1 a b q) = if a ∈ q.l then ⟨q.e + 2, q.l⟩ else q := by
  by_cases ha : a ∈ q.l
  · rw [if_pos ha]
    have e1 : mv1 a b q = ⟨q.e + 1, q.l.set (idxN a q.l) b⟩ := if_pos ha
    have hm : b ∈ q.l.set (idxN a q.l) b := mem_at (by rw [List.getElem?_set, if_pos rfl, if_pos (idxN_lt ha)])
    rw [e1, mv1, if_pos hm]
    simp only
    rw [idx_set_new ha hb, set_back ha]
    congr 1
    omega
  · rw [if_neg ha]
    have e1 : mv1 a b q = q := if_neg ha
    rw [e1]
    exact if_neg hb
theorem mem_mv1 {a b : Int} {q : Pl} (hb : b ∉ q.l) : b ∈ (mv1 a b q).l ↔ a ∈ q.l := by
  unfold mv1
  split
  · rename_i ha
    exact ⟨fun _ => ha, fun _ => mem_at (by rw [List.getElem?_set, if_pos rfl, if_pos (idxN_lt ha)])⟩
  · rename_i ha
    exact ⟨fun h => absurd h hb, fun h => absurd h ha⟩
theorem not_mv1 {a b : Int} {q : Pl} (hn : q.l.Nodup) (hab : a ≠ b) : a ∉ (mv1 a b q).l := by
  unfold mv1
  split
  · rename_i ha
    exact set_not hn ha hab
  · rename_i ha
    exact ha
theorem other_mv1 {a b x : Int} {q : Pl} (h1 : x ≠ a) (h2 : x ≠ b) : x ∈ (mv1 a b q).l ↔ x ∈ q.l := by
  unfold mv1
  split
  · rename_i ha
    constructor
    · intro h
      rcases List.mem_or_eq_of_mem_set h with h | h
      · exact h
      · exact absurd h h2
    · intro h
      exact mem_set_of ha h h1.symm
  · exact Iff.rfl
theorem mv1_e (a b : Int) (q : Pl) : (mv1 a b q).e = q.e + (if a ∈ q.l then 1 else 0) := by
  unfold mv1
  split <;> simp
theorem grpF_congr {a b : Int} {f : Pl → Pl} : ∀ (L : List Pl) (k : Nat), (∀ q ∈ L, b ∈ (f q).l ↔ a ∈ q.l) → grpF b k (L.map f) = grpF a k L
  | [], _, _ => rfl
  | q :: L, k, h => by
    have ih := grpF_congr L (k + 1) (fun x hx => h x (List.mem_cons_of_mem _ hx))
    have hq := h q List.mem_cons_self
    rw [List.map_cons, grpF, grpF, ih]
    by_cases ha : a ∈ q.l
    · rw [if_pos (hq.2 ha), if_pos ha]
    · rw [if_neg (fun hb => ha (hq.1 hb)), if_neg ha]
/-- two moves of four nodes in either order -/
theorem mv1_comm {a b c d : Int} {q : Pl} (hac : a ≠ c) (hab : a ≠ b) (had : a ≠ d) (hcb : c ≠ b) (_hcd : c ≠ d) (_hbd : b ≠ d) : mv1 c d (mv1 a b q) = mv1 a b (mv1 c d q) := by
  by_cases ha : a ∈ q.l
  · by_cases hc : c ∈ q.l
    · have e1 : mv1 a b q = ⟨q.e + 1, q.l.set (idxN a q.l) b⟩ := if_pos ha
      have e2 : mv1 c d q = ⟨q.e + 1, q.l.set (idxN c q.l) d⟩ := if_pos hc
      have m1 : c ∈ q.l.set (idxN a q.l) b := mem_set_of ha hc hac
      have m2 : a ∈ q.l.set (idxN c q.l) d := mem_set_of hc ha hac.symm
      have g1 : mv1 c d ⟨q.e + 1, q.l.set (idxN a q.l) b⟩ = ⟨q.e + 1 + 1, (q.l.set (idxN a q.l) b).set (idxN c (q.l.set (idxN a q.l) b)) d⟩ := if_pos m1
      have g2 : mv1 a b ⟨q.e + 1, q.l.set (idxN c q.l) d⟩ = ⟨q.e + 1 + 1, (q.l.set (idxN c q.l) d).set (idxN a (q.l.set (idxN c q.l) d)) b⟩ := if_pos m2
      rw [e1, e2, g1, g2, idx_set_other ha hc hac hcb.symm, idx_set_other hc ha hac.symm had.symm, List.set_comm _ _ (idx_ne ha hc hac)]
    · have e2 : mv1 c d q = q := if_neg hc
      rw [e2]
      refine if_neg (fun hm => hc ?_)
      exact (other_mv1 hac.symm hcb).1 hm
  · have e1 : mv1 a b q = q := if_neg ha
    rw [e1]
    symm
    refine if_neg (fun hm => ha ?_)
    exact (other_mv1 hac had).1 hm
/-- placements of nodes below N, of Epochs up to t -/
structure Fairly (N : Int) (t : Nat) (L : List Pl) : Prop where
  some : 1 ≤ L.length
  few : L.length ≤ 40
  each : ∀ p ∈ L, NodesOk N p.l ∧ (1 ≤ p.l.length ∧ p.l.length ≤ 20) ∧ 1 ≤ p.e ∧ p.e ≤ t
theorem Nice.fair {t : Nat} {L : List Pl} (h : Nice t L) : Fairly 40 t L := ⟨h.some, h.few, h.each⟩
theorem Fairly.all {N : Int} {t : Nat} {L : List Pl} (h : Fairly N t L) (ht : t ≤ 1000) (hN : N ≤ 256) : AllP L := by
  refine ⟨⟨h.some, by have := h.few; omega⟩, fun p hp => ?_⟩
  obtain ⟨h1, h2, h3⟩ := h.each p hp
  exact ⟨by omega, by omega, by omega, h1.weaken hN⟩
theorem Fairly.weaken {N M : Int} {t u : Nat} {L : List Pl} (h : Fairly N t L) (hm : N ≤ M) (hu : t ≤ u) : Fairly M u L := ⟨h.some, h.few, fun p hp => by obtain ⟨h1, h2, h3, h4⟩ := h.each p hp; exact ⟨h1.weaken hm, h2, h3, by omega⟩⟩
theorem mv1_fair {N : Int} {t : Nat} {L : List Pl} {a b : Int} (h : Fairly N t L) (hb : 0 ≤ b ∧ b < N) (hn : ∀ p ∈ L, ¬ (a ∈ p.l ∧ b ∈ p.l)) : Fairly N (t + 1) (L.map (mv1 a b)) := by
  refine ⟨by simpa using h.some, by simpa using h.few, fun p hp => ?_⟩
  obtain ⟨q, hq, rfl⟩ := List.mem_map.1 hp
  obtain ⟨h1, h2, h3, h4⟩ := h.each q hq
  rw [mv1_len, mv1_e]
  refine ⟨?_, h2, by split <;> omega, by split <;> omega⟩
  unfold mv1
  split
  · rename_i ha
    exact set_nodes h1 hb (fun hm => hn q hq ⟨ha, hm⟩)
  · exact h1
theorem fair_go {N : Int} {t : Nat} {L : List Pl} {a b : Int} (h : Fairly N t L) (ht : t ≤ 1000) (hN : N ≤ 256) (ha : 0 ≤ a ∧ a < 256) (hb : 0 ≤ b ∧ b < 256) (hab : a ≠ b) (hn : ∀ p ∈ L, ¬ (a ∈ p.l ∧ b ∈ p.l)) : moveP L a b = (L.map (mv1 a b), grp a L, 0) := by
  refine moveP_go (h.all ht hN) (by unfold MayNot; omega) (fun p hp hbad => ?_)
  rcases hbad.2 with h1 | h1
  · exact hn p hp ⟨hbad.1, h1⟩
  · have := (h.each p hp).2.2.2
    omega
theorem fair_out {N : Int} {t : Nat} {L : List Pl} {b : Int} (h : Fairly N t L) (hb : N ≤ b) {p : Pl} (hp : p ∈ L) : b ∉ p.l := fun hm => by
  have := ((h.each p hp).1.1 b hm).2
  omega
end Go.Coop
