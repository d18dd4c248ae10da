/- PlaceMoves, as plain data: when a move may be, and what it makes. No program is named here. -/
import Derived.Test.YtbilbfjmfaignaaMvP
namespace Go.Coop
/-- may the first k placements be moved? -/
def mayK (a b : Int) (L : List Pl) : Bool := decide (a ≠ b) && L.all fun p => decide (a ∉ p.l) || decide (b ∉ p.l)
theorem mayK_snoc (a b : Int) (L : List Pl) (p : Pl) : mayK a b (L ++ [p]) = (mayK a b L && (decide (a ∉ p.l) || decide (b ∉ p.l))) := by
  unfold mayK
  rw [List.all_append, Bool.and_assoc]
  simp
theorem mayK_iff {a b : Int} {L : List Pl} : mayK a b L = true ↔ a ≠ b ∧ ∀ p ∈ L, ¬ (a ∈ p.l ∧ b ∈ p.l) := by
  unfold mayK
  rw [Bool.and_eq_true, decide_eq_true_iff, List.all_eq_true]
  constructor
  · rintro ⟨h1, h2⟩
    refine ⟨h1, fun p hp hh => ?_⟩
    have := h2 p hp
    simp [hh.1, hh.2] at this
  · rintro ⟨h1, h2⟩
    refine ⟨h1, fun p hp => ?_⟩
    have := h2 p hp
    by_cases ha : a ∈ p.l
    · have hb : b ∉ p.l := fun hb => this ⟨ha, hb⟩
      simp [hb]
    · simp [ha]
theorem move_may_yes {L : List Pl} (h : Nice 9 L) {a b : Int} (ha : 0 ≤ a ∧ a < 40) (hb : 0 ≤ b ∧ b < 40) (hm : mayK a b L = true) : moveP L a b = (L.map (mv1 a b), grp a L, 0) := by
  obtain ⟨h1, h2⟩ := mayK_iff.1 hm
  exact fair_go h.fair (by omega) (by omega) (by omega) (by omega) h1 h2
theorem move_may_no {L : List Pl} (h : Nice 9 L) {a b : Int} (hm : mayK a b L = false) : moveP L a b = ([], [], 100) := by
  unfold moveP
  rw [if_neg (by simpa using h.all (by omega))]
  by_cases hab : a = b
  · rw [if_pos (.inr (.inr hab))]
  · by_cases hn : MayNot a b
    · rw [if_pos hn]
    · rw [if_neg hn, if_pos]
      refine Decidable.byContradiction fun hx => ?_
      have : mayK a b L = true := mayK_iff.2 ⟨hab, fun p hp hh => hx ⟨p, hp, hh.1, .inl hh.2⟩⟩
      rw [hm] at this
      cases this
theorem move_fair {L : List Pl} (h : Nice 9 L) {a b : Int} (hb : 0 ≤ b ∧ b < 40) (hm : mayK a b L = true) : Fairly 40 10 (L.map (mv1 a b)) := mv1_fair h.fair hb (mayK_iff.1 hm).2
/-- the groups told so far -/
theorem grp_take {a : Int} {L : List Pl} {k : Nat} {p : Pl} (hp : L[k]? = some p) (ha : a ∈ p.l) : (grp a L)[(grp a (L.take k)).length]? = some (k : Int) := by
  have hk : k < L.length := (List.getElem?_eq_some_iff.1 hp).1
  have key : ∀ (L : List Pl) (s k : Nat) (p : Pl), L[k]? = some p → a ∈ p.l → (grpF a s L)[(grpF a s (L.take k)).length]? = some ((s + k : Nat) : Int) := by
    intro L
    induction L with
    | nil => intro s k p h; simp at h
    | cons q L ih =>
      intro s k p h ha
      cases k with
      | zero =>
        simp at h
        subst h
        simp [grpF, ha]
      | succ k =>
        have h' : L[k]? = some p := by simpa using h
        have := ih (s + 1) k p h' ha
        rw [List.take_succ_cons, grpF, grpF]
        have e : s + 1 + k = s + (k + 1) := by omega
        rw [e] at this
        by_cases hq : a ∈ q.l
        · rw [if_pos hq, if_pos hq, List.length_cons, List.getElem?_cons_succ]
          exact this
        · rw [if_neg hq, if_neg hq]
          exact this
  have := key L 0 k p hp ha
  rwa [Nat.zero_add] at this
theorem grp_len_snoc {a : Int} {L : List Pl} {k : Nat} {p : Pl} (hp : L[k]? = some p) : (grp a (L.take (k + 1))).length = (grp a (L.take k)).length + (if a ∈ p.l then 1 else 0) := by
  rw [take_snoc hp, grp_snoc, List.length_append]
  split <;> simp
theorem grp_len_le (a : Int) (L : List Pl) (k : Nat) : (grp a (L.take k)).length ≤ (grp a L).length := by
  have h : grp a L = grp a (L.take k ++ L.drop k) := by rw [List.take_append_drop]
  have key : ∀ (A B : List Pl) (s : Nat), (grpF a s A).length ≤ (grpF a s (A ++ B)).length := by
    intro A
    induction A with
    | nil => intro B s; simp [grpF]
    | cons q A ih =>
      intro B s
      have := ih B (s + 1)
      rw [List.cons_append, grpF, grpF]
      split <;> simp <;> omega
  rw [h]
  exact key _ _ 0
end Go.Coop
