/- What is published was prepared; plain. -/
import Derived.Test.YtciihebaameccaaRndW
namespace Go.Coop
/-- how many have said so -/
def cntT (l : List Bool) : Int := (l.countP fun b => b : Nat)
theorem cntT_take {l : List Bool} {j : Nat} {y : Bool} (h : l[j]? = some y) : cntT (l.take (j + 1)) = cntT (l.take j) + if y = true then 1 else 0 := by
  have e : l.take (j + 1) = l.take j ++ [y] := by rw [List.take_add_one, h]; rfl
  rw [e]
  unfold cntT
  rw [List.countP_append]
  cases y <;> simp
theorem cntT_le (l : List Bool) : 0 ≤ cntT l ∧ cntT l ≤ l.length := by
  unfold cntT
  have := List.countP_le_length (p := fun b : Bool => b) (l := l)
  omega
theorem cnt_le_cntT : ∀ {ms : List Int} {sd : List Bool}, sd.length = ms.length → (∀ i : Nat, ms[i]? = some 1 → sd[i]? = some true) → cnt 1 ms ≤ cntT sd
  | [], sd, _, _ => by have := cntT_le sd; simp [cnt]; omega
  | m :: ms, [], h, _ => by simp at h
  | m :: ms, b :: sd, h, hi => by
    have ih := cnt_le_cntT (ms := ms) (sd := sd) (by simpa using h) (fun i hm => by simpa using hi (i + 1) (by simpa using hm))
    have e : cntT (b :: sd) = cntT sd + if b = true then 1 else 0 := by
      unfold cntT
      rw [List.countP_cons]
      cases b <;> simp
    rw [cnt_cons, e]
    by_cases hm : m = 1
    · have := hi 0 (by simp [hm])
      simp at this
      rw [if_pos hm, if_pos this]
      omega
    · rw [if_neg hm]
      split <;> omega
/-- who has said that it prepared, behind a step -/
def saidR (n : Nat) (sd : List Bool) (o : OpR) : List Bool :=
  if o.kd = 9 then sd.set (o.ix % (n : Int)).toNat false else if o.kd ≠ 7 ∧ o.kd ≠ 8 ∧ o.op = 1 ∧ o.e = 0 then sd.set (o.ix % (n : Int)).toNat true else sd
/-- who is marked as prepared has said so -/
def SaidI (r : Rn) (sd : List Bool) : Prop := sd.length = r.ms.length ∧ (r.ph = 1 ∨ r.ph = 2 → ∀ i : Nat, r.ms[i]? = some 1 → sd[i]? = some true)
theorem saidR_len (n : Nat) (sd : List Bool) (o : OpR) : (saidR n sd o).length = sd.length := by
  unfold saidR
  split
  · exact List.length_set
  · split
    · exact List.length_set
    · rfl
section
variable {r : Rn}
theorem publish_ph (h : RightR r) : (r.ph = 2 ∧ r.publish = (⟨r.s, r.v, r.need, 3, r.ms⟩, 0)) ∨ (r.ph ≠ 2 ∧ r.publish = (r, 80)) := by
  unfold Rn.publish
  rw [if_pos h]
  by_cases h2 : r.ph = 2
  · exact .inl ⟨h2, by rw [if_pos h2]⟩
  · exact .inr ⟨h2, by rw [if_neg h2]⟩
theorem give_ph (h : RightR r) : ((r.ph = 1 ∨ r.ph = 2) ∧ r.give = (⟨r.s, r.v, r.need, 5, r.ms⟩, 0)) ∨ (¬ (r.ph = 1 ∨ r.ph = 2) ∧ r.give = (r, 80)) := by
  unfold Rn.give
  rw [if_pos h]
  by_cases h2 : r.ph = 1 ∨ r.ph = 2
  · exact .inl ⟨h2, by rw [if_pos h2]⟩
  · exact .inr ⟨h2, by rw [if_neg h2]⟩
theorem at_eq (h : RightR r) (x : Int) : r.at_ x = x % (r.ms.length : Int) := by
  have h1 := h.n1
  unfold Rn.at_
  rw [show max r.ms.length 1 = r.ms.length by omega]
theorem done_stays (h : RightR r) (hp : r.ph = 4 ∨ r.ph = 6) (o : OpR) : (r.does o).1 = r := by
  unfold Rn.does
  split
  · rcases publish_ph h with ⟨h2, _⟩ | ⟨_, e⟩
    · omega
    · rw [e]
  · split
    · rcases give_ph h with ⟨h2, _⟩ | ⟨_, e⟩
      · omega
      · rw [e]
    · split
      · unfold Rn.lose
        rw [if_pos (h.at_ _), if_pos hp]
      · obtain ⟨m, h1, _, h3⟩ := (h.at_ o.ix).get
        rw [told_eq (h.at_ _) h1]
        have : ansR r.ph m o.op o.e = m := by
          unfold ansR
          rw [if_neg (by omega), if_neg (by omega), if_neg (by omega)]
        rw [this]
        exact marked_self h h1
/-- how a step may change the phase -/
theorem does_phase (h : RightR r) (o : OpR) : (r.does o).1.ph = r.ph ∨ (r.ph = 1 ∧ (r.does o).1.ph = 2) ∨ (r.ph = 2 ∧ (r.does o).1.ph = 1) ∨ (r.ph = 3 ∧ (r.does o).1.ph = 4) ∨ (r.ph = 5 ∧ (r.does o).1.ph = 6) ∨ (r.ph = 1 ∧ (r.does o).1.ph = 5) ∨ (r.ph = 2 ∧ (r.does o).1.ph = 5) ∨ (r.ph = 2 ∧ (r.does o).1.ph = 3 ∧ o.kd = 7) := by
  obtain ⟨q, hq⟩ : ∃ q, (r.does o).1.ph = q := ⟨_, rfl⟩
  rw [hq]
  unfold Rn.does at hq
  by_cases h7 : o.kd = 7
  · rw [if_pos h7] at hq
    rcases publish_ph h with ⟨h2, e⟩ | ⟨_, e⟩
    · rw [e] at hq; replace hq : (3 : Int) = q := hq; omega
    · rw [e] at hq; exact .inl hq.symm
  · rw [if_neg h7] at hq
    by_cases h8 : o.kd = 8
    · rw [if_pos h8] at hq
      rcases give_ph h with ⟨h2, e⟩ | ⟨_, e⟩
      · rw [e] at hq; replace hq : (5 : Int) = q := hq; omega
      · rw [e] at hq; exact .inl hq.symm
    · rw [if_neg h8] at hq
      obtain ⟨m, h1, _, h3⟩ := (h.at_ o.ix).get
      by_cases h9 : o.kd = 9
      · rw [if_pos h9] at hq
        unfold Rn.lose at hq
        rw [if_pos (h.at_ _)] at hq
        by_cases h46 : r.ph = 4 ∨ r.ph = 6
        · rw [if_pos h46] at hq
          exact .inl hq.symm
        · rw [if_neg h46] at hq
          have hs := phase_steps h h1 (zero_may (m := m) (ph := r.ph) (by omega) (by omega))
          replace hq : (r.marked (r.at_ o.ix).toNat 0).ph = q := hq
          rw [hq] at hs
          clear hq h1 h3
          omega
      · rw [if_neg h9, told_eq (h.at_ _) h1] at hq
        have hs := phase_steps h h1 (ansR_may o.op o.e h3)
        replace hq : (r.marked (r.at_ o.ix).toNat (ansR r.ph m o.op o.e)).ph = q := hq
        rw [hq] at hs
        clear hq h1 h3
        rcases hs with hs | hs | hs | hs | hs | ⟨hs1, hs2, _⟩
        · exact .inl hs
        · exact .inr (.inl hs)
        · exact .inr (.inr (.inl hs))
        · exact .inr (.inr (.inr (.inl hs)))
        · exact .inr (.inr (.inr (.inr (.inl hs))))
        · exact .inr (.inr (.inr (.inr (.inr (.inl ⟨hs1, hs2⟩)))))
theorem said_step (h : RightR r) {sd : List Bool} (hs : SaidI r sd) (o : OpR) : SaidI (r.does o).1 (saidR r.ms.length sd o) := by
  refine ⟨by rw [saidR_len, hs.1, (does_len o).1], fun hp i hi => ?_⟩
  have hr : r.ph = 1 ∨ r.ph = 2 := by have := does_phase h o; have := h.ph6; omega
  have hs2 := hs.2 hr
  have hil : i < sd.length := by
    have := (List.getElem?_eq_some_iff.1 hi).1
    rw [(does_len o).1, ← hs.1] at this
    exact this
  unfold Rn.does at hi hp
  unfold saidR
  by_cases h7 : o.kd = 7
  · rw [if_pos h7] at hi hp
    rw [if_neg (by omega), if_neg (by omega)]
    rcases publish_ph h with ⟨h2, e⟩ | ⟨_, e⟩
    · rw [e] at hp; simp only at hp; omega
    · rw [e] at hi; exact hs2 i hi
  · rw [if_neg h7] at hi hp
    by_cases h8 : o.kd = 8
    · rw [if_pos h8] at hi hp
      rw [if_neg (by omega), if_neg (by omega)]
      rcases give_ph h with ⟨h2, e⟩ | ⟨_, e⟩
      · rw [e] at hp; simp only at hp; omega
      · rw [e] at hi; exact hs2 i hi
    · rw [if_neg h8] at hi hp
      have hA := h.at_ o.ix
      have hat := at_eq h o.ix
      by_cases h9 : o.kd = 9
      · rw [if_pos h9] at hi hp
        rw [if_pos h9]
        unfold Rn.lose at hi
        rw [if_pos hA, if_neg (by omega), hat] at hi
        unfold Rn.marked at hi
        simp only at hi
        rw [List.getElem?_set] at hi ⊢
        split
        · rename_i e
          rw [if_pos e] at hi
          split at hi <;> simp at hi
        · rename_i e
          rw [if_neg e] at hi
          exact hs2 i hi
      · rw [if_neg h9] at hi hp
        rw [if_neg h9]
        obtain ⟨m, h1, _, h3⟩ := hA.get
        rw [told_eq hA h1] at hi
        unfold Rn.marked at hi
        simp only at hi
        rw [hat] at hi h1
        have hx : ansR r.ph m o.op o.e = askedR m o.op o.e := by unfold ansR; rw [if_pos hr]
        rw [hx] at hi
        by_cases hc : o.op = 1 ∧ o.e = 0
        · rw [if_pos ⟨h7, h8, hc⟩]
          rw [List.getElem?_set] at hi ⊢
          split
          · rename_i e
            subst e
            rw [if_pos hil]
          · rename_i e
            rw [if_neg e] at hi
            exact hs2 i hi
        · rw [if_neg (fun hh => hc hh.2.2)]
          rw [List.getElem?_set] at hi
          split at hi
          · rename_i e
            subst e
            split at hi
            · simp at hi
              have hm : m = 1 := by
                unfold askedR at hi
                by_cases ho : o.op = 1
                · rw [if_pos ho, if_neg (fun he => hc ⟨ho, he⟩)] at hi
                  split at hi <;> omega
                · rw [if_neg ho] at hi
                  exact hi
              rw [hm] at h1
              exact hs2 _ h1
            · cases hi
          · exact hs2 i hi
theorem said_start (k : Nat) (r : Rn) (hr : ∀ m ∈ r.ms, m = 0) (hk : r.ms.length = k) : SaidI r (List.replicate k false) := by
  refine ⟨by rw [List.length_replicate, hk], fun _ i hi => ?_⟩
  have := hr 1 (List.mem_of_getElem? hi)
  omega
/-- what a right round has none of -/
theorem right_none (h : RightR r) : (r.ph ≠ 3 → r.ph ≠ 4 → cnt 2 r.ms = 0) ∧ (r.ph ≠ 5 → r.ph ≠ 6 → cnt 4 r.ms = 0) := by
  have h2 := cnt_sum h.2.1
  have h3 := h.2.2
  have h4 := h.n1
  have a0 := cnt_nonneg 0 r.ms
  have a1 := cnt_nonneg 1 r.ms
  have a2 := cnt_nonneg 2 r.ms
  have a3 := cnt_nonneg 3 r.ms
  have a4 := cnt_nonneg 4 r.ms
  unfold PhOk at h3
  constructor <;> intro _ _ <;> omega
end
end Go.Coop
