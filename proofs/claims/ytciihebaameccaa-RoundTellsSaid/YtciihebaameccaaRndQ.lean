/- What steps make of right rounds; said twice; plain. -/
import Derived.Test.YtciihebaameccaaRndP
namespace Go.Coop
/-- a step of the laws -/
structure OpR where
  kd : Int
  ix : Int
  op : Int
  e : Int
def Rn.at_ (r : Rn) (x : Int) : Int := x % ((max r.ms.length 1 : Nat) : Int)
def Rn.does (r : Rn) (o : OpR) : Rn × Int :=
  if o.kd = 7 then r.publish else if o.kd = 8 then r.give else if o.kd = 9 then r.lose (r.at_ o.ix) else r.told (r.at_ o.ix) o.op o.e
section
variable {r : Rn}
theorem RightR.n1 (h : RightR r) : 1 ≤ r.ms.length ∧ r.ms.length ≤ 255 := by have := h.1.2.2.1; omega
theorem RightR.ph6 (h : RightR r) : r.ph = 1 ∨ r.ph = 2 ∨ r.ph = 3 ∨ r.ph = 4 ∨ r.ph = 5 ∨ r.ph = 6 := by
  have := h.2.2
  unfold PhOk at this
  omega
theorem RightR.at_ (h : RightR r) (x : Int) : HasR r (r.at_ x) := by
  have h1 := h.n1
  unfold Rn.at_
  have h2 : max r.ms.length 1 = r.ms.length := by omega
  rw [h2]
  have h3 := Int.emod_nonneg x (show (r.ms.length : Int) ≠ 0 by omega)
  have h4 := Int.emod_lt_of_pos x (show (0 : Int) < r.ms.length by omega)
  exact ⟨h, h3, h4⟩
/-- what an index's mark becomes -/
theorem HasR.get {i : Int} (h : HasR r i) : ∃ m, r.ms[i.toNat]? = some m ∧ r.ms.getD i.toNat 0 = m ∧ 0 ≤ m ∧ m ≤ 4 := by
  have hl : i.toNat < r.ms.length := by have := h.2; omega
  refine ⟨r.ms[i.toNat], List.getElem?_eq_getElem hl, ?_, h.1.2.1 _ (List.getElem_mem hl)⟩
  rw [List.getD_eq_getElem?_getD, List.getElem?_eq_getElem hl]
  rfl
theorem told_eq {i : Int} (h : HasR r i) {m : Int} (hm : r.ms[i.toNat]? = some m) (op e : Int) : r.told i op e = (r.marked i.toNat (ansR r.ph m op e), 0) := by
  unfold Rn.told
  rw [if_pos h, List.getD_eq_getElem?_getD, hm]
  rfl
theorem told_right {i : Int} (h : HasR r i) (op e : Int) : RightR (r.told i op e).1 := by
  obtain ⟨m, h1, _, h3⟩ := h.get
  rw [told_eq h h1]
  exact marked_right h.1 h1 (ansR_may op e h3)
theorem lose_right {i : Int} (h : HasR r i) : RightR (r.lose i).1 := by
  obtain ⟨m, h1, _, h3⟩ := h.get
  unfold Rn.lose
  rw [if_pos h]
  split
  · exact h.1
  · exact marked_right h.1 h1 (zero_may (by omega) (by omega))
theorem publish_right (h : RightR r) : RightR r.publish.1 := by
  unfold Rn.publish
  rw [if_pos h]
  split
  · rename_i h2
    have h1 := h.n1
    have h3 := h.2.2
    unfold PhOk at h3
    refine ⟨h.1, h.2.1, ?_⟩
    show PhOk r.need 3 r.ms
    unfold PhOk
    omega
  · exact h
theorem give_right (h : RightR r) : RightR r.give.1 := by
  unfold Rn.give
  rw [if_pos h]
  split
  · rename_i h2
    have h1 := h.n1
    have h3 := h.2.2
    unfold PhOk at h3
    refine ⟨h.1, h.2.1, ?_⟩
    show PhOk r.need 5 r.ms
    unfold PhOk
    omega
  · exact h
theorem does_right (h : RightR r) (o : OpR) : RightR (r.does o).1 := by
  unfold Rn.does
  split
  · exact publish_right h
  · split
    · exact give_right h
    · split
      · exact lose_right (h.at_ _)
      · exact told_right (h.at_ _) _ _
theorem told_len (i op e : Int) : (r.told i op e).1.ms.length = r.ms.length ∧ (r.told i op e).1.need = r.need := by
  unfold Rn.told
  split
  · unfold Rn.marked; exact ⟨List.length_set, rfl⟩
  · exact ⟨rfl, rfl⟩
theorem does_len (o : OpR) : (r.does o).1.ms.length = r.ms.length ∧ (r.does o).1.need = r.need := by
  unfold Rn.does
  split
  · unfold Rn.publish; split <;> (try split) <;> exact ⟨rfl, rfl⟩
  · split
    · unfold Rn.give; split <;> (try split) <;> exact ⟨rfl, rfl⟩
    · split
      · unfold Rn.lose Rn.marked
        split <;> (try split) <;> first | exact ⟨rfl, rfl⟩ | exact ⟨List.length_set, rfl⟩
      · exact told_len _ _ _
theorem does_err (o : OpR) (h : (r.does o).2 ≠ 0) : (r.does o).1 = r := by
  unfold Rn.does at h ⊢
  split
  · rename_i h1; rw [if_pos h1] at h; unfold Rn.publish at h ⊢; split
    · split
      · rename_i h2 h3; rw [if_pos h2, if_pos h3] at h; exact absurd rfl h
      · rfl
    · rfl
  · rename_i h1; rw [if_neg h1] at h
    split
    · rename_i h2; rw [if_pos h2] at h; unfold Rn.give at h ⊢; split
      · split
        · rename_i h3 h4; rw [if_pos h3, if_pos h4] at h; exact absurd rfl h
        · rfl
      · rfl
    · rename_i h2; rw [if_neg h2] at h
      split
      · rename_i h3; rw [if_pos h3] at h; unfold Rn.lose at h ⊢; split
        · rename_i h4; rw [if_pos h4] at h; split
          · rfl
          · rename_i h5; rw [if_neg h5] at h; exact absurd rfl h
        · rfl
      · rename_i h3; rw [if_neg h3] at h; unfold Rn.told at h ⊢; split
        · rename_i h4; rw [if_pos h4] at h; exact absurd rfl h
        · rfl
/-- a right round's phase is that of its marks -/
theorem phase_right (h : RightR r) : phaseR r.ph r.need r.ms = r.ph := by
  obtain ⟨h1, h2, h3⟩ := h
  have h4 := h1.2.2
  unfold PhOk at h3
  unfold phaseR
  have s1 := cnt_sum h2
  (repeat' split) <;> omega
theorem set_self {l : List Int} {i : Nat} {m : Int} (h : l[i]? = some m) : l.set i m = l := by
  apply List.ext_getElem?
  intro j
  rw [List.getElem?_set]
  split
  · rename_i e
    subst e
    rw [h]
    have := (List.getElem?_eq_some_iff.1 h).1
    simp [this]
  · rfl
theorem marked_self (h : RightR r) {i : Nat} {m : Int} (hm : r.ms[i]? = some m) : r.marked i m = r := by
  unfold Rn.marked
  rw [set_self hm, phase_right h]
theorem askedR_twice (m op e : Int) : askedR (askedR m op e) op e = askedR m op e := by
  unfold askedR
  (repeat' split) <;> omega
theorem givR_twice (m op e : Int) : givR (givR m op e) op e = givR m op e := by
  unfold givR
  (repeat' split) <;> omega
theorem pubR_twice (m op e : Int) : pubR (pubR m op e) op e = pubR m op e := by
  by_cases h1 : op = 1
  · subst h1
    by_cases h2 : e = 61
    · subst h2
      simp [pubR]
    · by_cases h3 : e = 0
      · subst h3
        by_cases h4 : m = 2 <;> simp [pubR, askedR, h4]
      · by_cases h4 : m = 2
        · simp [pubR, askedR, h4, h2]
        · by_cases h5 : m = 0 <;> simp [pubR, askedR, h4, h5, h2, h3]
  · by_cases h2 : op = 2
    · subst h2
      by_cases h3 : e = 0 ∨ e = 61
      · simp [pubR, h3]
      · by_cases h4 : e = 60 ∧ m = 1
        · simp [pubR, h3, h4]
        · simp [pubR, h3, h4]
    · simp [pubR, h1, h2]
/-- the same answer twice makes the same mark -/
theorem ansR_twice {ph ph' m op e : Int} (hph : ph' = ph ∨ (ph = 1 ∧ ph' = 2) ∨ (ph = 2 ∧ ph' = 1) ∨ (ph = 3 ∧ ph' = 4) ∨ (ph = 5 ∧ ph' = 6) ∨ (ph = 1 ∧ ph' = 5 ∧ ansR ph m op e = 3 ∧ m ≠ 3)) :
    ansR ph' (ansR ph m op e) op e = ansR ph m op e := by
  rcases hph with rfl | ⟨rfl, rfl⟩ | ⟨rfl, rfl⟩ | ⟨rfl, rfl⟩ | ⟨rfl, rfl⟩ | ⟨rfl, rfl, h1, h2⟩
  · unfold ansR
    split
    · exact askedR_twice _ _ _
    · split
      · exact pubR_twice _ _ _
      · split
        · exact givR_twice _ _ _
        · rfl
  · exact askedR_twice _ _ _
  · exact askedR_twice _ _ _
  · rfl
  · rfl
  · unfold ansR pubR givR askedR at h1 ⊢
    simp at h1 ⊢
    (repeat' split) <;> (repeat' split at h1) <;> omega
/-- how a phase may change by a mark -/
theorem phase_steps (h : RightR r) {i : Nat} {m x : Int} (hm : r.ms[i]? = some m) (hx : MayMark r.ph m x) :
    (r.marked i x).ph = r.ph ∨ (r.ph = 1 ∧ (r.marked i x).ph = 2) ∨ (r.ph = 2 ∧ (r.marked i x).ph = 1) ∨ (r.ph = 3 ∧ (r.marked i x).ph = 4) ∨ (r.ph = 5 ∧ (r.marked i x).ph = 6) ∨ (r.ph = 1 ∧ (r.marked i x).ph = 5 ∧ x = 3 ∧ m ≠ 3) := by
  obtain ⟨h1, h2, h3⟩ := h
  unfold PhOk at h3
  have c3 := cnt_set 3 (x := x) hm
  unfold Rn.marked
  simp only
  rw [phaseR]
  have hl : (r.ms.set i x).length = r.ms.length := List.length_set
  rw [hl]
  split
  · omega
  · split
    · right; right; right; right; right
      rename_i h4 h5
      refine ⟨h5.1, rfl, ?_⟩
      by_cases hx3 : x = 3
      · by_cases hm3 : m = 3
        · simp [hx3, hm3] at c3
          subst hx3
          omega
        · exact ⟨hx3, hm3⟩
      · simp [hx3] at c3
        split at c3 <;> omega
    · split
      · omega
      · split
        · omega
        · split
          · omega
          · exact .inl rfl
theorem told_twice {i : Int} (h : HasR r i) (op e : Int) : (r.told i op e).1.told i op e = ((r.told i op e).1, 0) := by
  obtain ⟨m, h1, _, h3⟩ := h.get
  rw [told_eq h h1]
  obtain ⟨x, hx⟩ : ∃ x, ansR r.ph m op e = x := ⟨_, rfl⟩
  have hmay := ansR_may (ph := r.ph) op e h3
  rw [hx] at hmay ⊢
  have hR := marked_right h.1 h1 hmay
  have hst := phase_steps h.1 h1 hmay
  have hl : i.toNat < r.ms.length := (List.getElem?_eq_some_iff.1 h1).1
  have hg : (r.marked i.toNat x).ms[i.toNat]? = some x := by
    unfold Rn.marked
    simp [hl]
  have hH : HasR (r.marked i.toNat x) i := ⟨hR, h.2.1, by
    unfold Rn.marked
    simp only [List.length_set]
    exact h.2.2⟩
  simp only
  rw [told_eq hH hg]
  have hx2 : ansR (r.marked i.toNat x).ph x op e = x := by
    have := ansR_twice (ph := r.ph) (ph' := (r.marked i.toNat x).ph) (m := m) (op := op) (e := e) (by rw [hx]; exact hst)
    rwa [hx] at this
  rw [hx2, marked_self hR hg]
theorem lose_twice {i : Int} (h : HasR r i) : (r.lose i).1.lose i = ((r.lose i).1, 0) := by
  obtain ⟨m, h1, _, h3⟩ := h.get
  have hR := lose_right h
  have hl : i.toNat < r.ms.length := (List.getElem?_eq_some_iff.1 h1).1
  unfold Rn.lose at hR
  rw [if_pos h] at hR
  have e : (r.lose i).1 = if r.ph = 4 ∨ r.ph = 6 then r else r.marked i.toNat 0 := by
    unfold Rn.lose
    rw [if_pos h]
    split <;> rfl
  rw [e]
  split
  · rename_i hp
    unfold Rn.lose
    rw [if_pos h, if_pos hp]
  · rename_i hp
    rw [if_neg hp] at hR
    simp only at hR
    have hH : HasR (r.marked i.toNat 0) i := ⟨hR, h.2.1, by
      unfold Rn.marked
      simp only [List.length_set]
      exact h.2.2⟩
    have hg : (r.marked i.toNat 0).ms[i.toNat]? = some 0 := by
      unfold Rn.marked
      simp [hl]
    unfold Rn.lose
    rw [if_pos hH]
    split
    · rfl
    · rw [marked_self hR hg]
/-- an answer that comes twice -/
theorem does_twice (h : RightR r) (o : OpR) (h7 : o.kd ≠ 7) (h8 : o.kd ≠ 8) : (r.does o).1.does o = ((r.does o).1, 0) := by
  have hl := (does_len (r := r) o).1
  have hat : ∀ x, (r.does o).1.at_ x = r.at_ x := by
    intro x
    unfold Rn.at_
    rw [hl]
  have e : ∀ q : Rn, q.does o = if o.kd = 9 then q.lose (q.at_ o.ix) else q.told (q.at_ o.ix) o.op o.e := by
    intro q
    unfold Rn.does
    rw [if_neg h7, if_neg h8]
  rw [e (r.does o).1, hat]
  rw [e r]
  split
  · exact lose_twice (h.at_ _)
  · exact told_twice (h.at_ _) _ _
end
end Go.Coop
