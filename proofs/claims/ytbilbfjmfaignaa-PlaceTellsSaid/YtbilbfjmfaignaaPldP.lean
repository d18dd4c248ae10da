/- What placed tells, as plain data: placements after some moves. No program is named here. -/
import Derived.Test.YtbilbfjmfaignaaPlcP
namespace Go.Coop
def stepP (L : List Pl) (m : Nat × Nat) : List Pl := if (moveP L ((m.1 % 40 : Nat) : Int) ((m.2 % 40 : Nat) : Int)).2.2 = 0 then (moveP L ((m.1 % 40 : Nat) : Int) ((m.2 % 40 : Nat) : Int)).1 else L
def placedP (x0 x1 x2 : Nat) (ms : List (Nat × Nat)) : List Pl := (ms.take 8).foldl stepP (firstL (1 + x0 % 20) (1 + x1 % (1 + x0 % 20)) (1 + x2 % 40))
/-- placements of nodes below 40, of Epochs up to t -/
structure Nice (t : Nat) (L : List Pl) : Prop where
  some : 1 ≤ L.length
  few : L.length ≤ 40
  each : ∀ p ∈ L, NodesOk 40 p.l ∧ (1 ≤ p.l.length ∧ p.l.length ≤ 20) ∧ 1 ≤ p.e ∧ p.e ≤ t
theorem NodesOk.weaken {N M : Int} {l : List Int} (h : NodesOk N l) (hm : N ≤ M) : NodesOk M l := ⟨fun x hx => ⟨(h.1 x hx).1, by have := (h.1 x hx).2; omega⟩, h.2⟩
theorem Nice.right {t : Nat} {L : List Pl} (h : Nice t L) (ht : t ≤ 1000) {p : Pl} (hp : p ∈ L) : RightP 256 p := by
  obtain ⟨h1, h2, h3⟩ := h.each p hp
  exact ⟨by omega, by omega, by omega, h1.weaken (by omega)⟩
theorem Nice.all {t : Nat} {L : List Pl} (h : Nice t L) (ht : t ≤ 1000) : AllP L := ⟨⟨h.some, by have := h.few; omega⟩, fun _ hp => h.right ht hp⟩
theorem Nice.mono {t u : Nat} {L : List Pl} (h : Nice t L) (hu : t ≤ u) : Nice u L := ⟨h.some, h.few, fun p hp => by obtain ⟨h1, h2, h3, h4⟩ := h.each p hp; exact ⟨h1, h2, h3, by omega⟩⟩
theorem row1_len (nodes n g : Nat) : (row1 nodes n g).length = n := by simp [row1]
theorem row1_ok {nodes n : Nat} (g : Nat) (h1 : 1 ≤ nodes) (h2 : n ≤ nodes) : NodesOk nodes (row1 nodes n g) := by
  refine ⟨fun x hx => ?_, ?_⟩
  · obtain ⟨i, _, rfl⟩ := List.mem_map.1 hx
    have := Nat.mod_lt (g + i) (show 0 < nodes by omega)
    omega
  · unfold row1
    rw [List.nodup_iff_pairwise_ne, List.pairwise_map]
    refine List.Pairwise.imp_of_mem (R := (· < ·)) ?_ List.pairwise_lt_range
    intro a b ha hb hlt e
    simp at ha hb
    have e' : (g + a) % nodes = (g + b) % nodes := by omega
    have hd : (g + b - (g + a)) % nodes = 0 := Nat.sub_mod_eq_zero_of_mod_eq e'.symm
    rw [show g + b - (g + a) = b - a by omega, Nat.mod_eq_of_lt (by omega)] at hd
    omega
theorem first_nice (nodes n groups : Nat) (h1 : 1 ≤ nodes ∧ nodes ≤ 20) (h2 : 1 ≤ n ∧ n ≤ nodes) (h3 : 1 ≤ groups ∧ groups ≤ 40) : Nice 1 (firstL nodes n groups) := by
  refine ⟨by simp [firstL]; omega, by simp [firstL]; omega, fun p hp => ?_⟩
  obtain ⟨g, _, rfl⟩ := List.mem_map.1 hp
  refine ⟨(row1_ok g h1.1 h2.2).weaken (by omega), by simp only [row1_len]; omega, by simp, by simp⟩
/-- what a move that goes makes -/
theorem moveP_ok {L : List Pl} {a b : Int} (h : (moveP L a b).2.2 = 0) : AllP L ∧ ¬ MayNot a b ∧ (∀ p ∈ L, ¬ Bad a b p) ∧ moveP L a b = (L.map (mv1 a b), grp a L, 0) := by
  unfold moveP at h ⊢
  by_cases h1 : AllP L
  · rw [if_neg (by simpa using h1)] at h ⊢
    by_cases h2 : MayNot a b
    · rw [if_pos h2] at h
      cases h
    · rw [if_neg h2] at h ⊢
      by_cases h3 : ∃ p ∈ L, Bad a b p
      · rw [if_pos h3] at h
        cases h
      · rw [if_neg h3]
        exact ⟨h1, h2, fun p hp hb => h3 ⟨p, hp, hb⟩, rfl⟩
  · rw [if_pos h1] at h
    cases h
theorem moveP_go {L : List Pl} {a b : Int} (h1 : AllP L) (h2 : ¬ MayNot a b) (h3 : ∀ p ∈ L, ¬ Bad a b p) : moveP L a b = (L.map (mv1 a b), grp a L, 0) := by
  unfold moveP
  rw [if_neg (by simpa using h1), if_neg h2, if_neg (by rintro ⟨p, hp, hb⟩; exact h3 p hp hb)]
theorem moveP_er (L : List Pl) (a b : Int) : (moveP L a b).2.2 = 0 ∨ (moveP L a b).2.2 = 2 ∧ (moveP L a b) = ([], [], 2) ∨ (moveP L a b) = ([], [], 100) := by
  unfold moveP
  split
  · exact .inr (.inl ⟨rfl, rfl⟩)
  · split
    · exact .inr (.inr rfl)
    · split
      · exact .inr (.inr rfl)
      · exact .inl rfl
theorem set_nodes {N a b : Int} {l : List Int} (h : NodesOk N l) (hb : 0 ≤ b ∧ b < N) (hn : b ∉ l) : NodesOk N (l.set (idxN a l) b) := by
  refine ⟨fun x hx => ?_, ?_⟩
  · rcases List.mem_or_eq_of_mem_set hx with hx | rfl
    · exact h.1 x hx
    · exact hb
  · rw [List.nodup_iff_pairwise_ne, List.pairwise_iff_getElem]
    intro i j hi hj hlt
    rw [List.length_set] at hi hj
    rw [List.getElem_set, List.getElem_set]
    have hp := (List.pairwise_iff_getElem.1 h.2) i j hi hj hlt
    have m1 : l[i] ∈ l := List.getElem_mem hi
    have m2 : l[j] ∈ l := List.getElem_mem hj
    split
    · split
      · omega
      · exact fun e => hn (e ▸ m2)
    · split
      · exact fun e => hn (e ▸ m1)
      · exact hp
theorem mv1_len (a b : Int) (p : Pl) : (mv1 a b p).l.length = p.l.length := by unfold mv1; split <;> simp
theorem mv1_nice {t : Nat} {L : List Pl} {a b : Int} (h : Nice t L) (hb : 0 ≤ b ∧ b < 40) (hn : ∀ p ∈ L, ¬ Bad a b p) : Nice (t + 1) (L.map (mv1 a b)) := by
  refine ⟨by simpa using h.some, by simpa using h.few, fun p hp => ?_⟩
  obtain ⟨q, hq, rfl⟩ := List.mem_map.1 hp
  obtain ⟨h1, h2, h3, h4⟩ := h.each q hq
  rw [mv1_len]
  refine ⟨?_, h2, ?_⟩
  · unfold mv1
    split
    · rename_i ha
      exact set_nodes h1 hb (fun hm => hn q hq ⟨ha, .inl hm⟩)
    · exact h1
  · unfold mv1
    split
    · simp only
      omega
    · omega
theorem step_nice {t : Nat} {L : List Pl} (h : Nice t L) (m : Nat × Nat) : Nice (t + 1) (stepP L m) := by
  unfold stepP
  split
  · rename_i he
    obtain ⟨h1, h2, h3, h4⟩ := moveP_ok he
    rw [h4]
    exact mv1_nice h (by omega) h3
  · exact h.mono (by omega)
theorem fold_nice : ∀ (ms : List (Nat × Nat)) (t : Nat) (L : List Pl), Nice t L → Nice (t + ms.length) (ms.foldl stepP L)
  | [], t, L, h => h
  | m :: ms, t, L, h => by
    have := fold_nice ms (t + 1) (stepP L m) (step_nice h m)
    rw [List.foldl_cons]
    exact this.mono (by simp; omega)
theorem placed_nice (x0 x1 x2 : Nat) (ms : List (Nat × Nat)) : Nice 9 (placedP x0 x1 x2 ms) := by
  have hm := Nat.mod_lt x0 (show 0 < 20 by omega)
  have hk := Nat.mod_lt x1 (show 0 < 1 + x0 % 20 by omega)
  have hg := Nat.mod_lt x2 (show 0 < 40 by omega)
  have := fold_nice (ms.take 8) 1 _ (first_nice (1 + x0 % 20) (1 + x1 % (1 + x0 % 20)) (1 + x2 % 40) (by omega) (by omega) (by omega))
  exact this.mono (by simp; omega)
theorem step_len (L : List Pl) (m : Nat × Nat) : (stepP L m).length = L.length := by
  unfold stepP
  split
  · rename_i he
    rw [(moveP_ok he).2.2.2]
    simp
  · rfl
theorem fold_len : ∀ (ms : List (Nat × Nat)) (L : List Pl), (ms.foldl stepP L).length = L.length
  | [], L => rfl
  | m :: ms, L => by rw [List.foldl_cons, fold_len ms, step_len]
theorem placed_len (x0 x1 x2 : Nat) (ms : List (Nat × Nat)) : (placedP x0 x1 x2 ms).length = 1 + x2 % 40 := by
  unfold placedP
  rw [fold_len]
  simp [firstL]
end Go.Coop
