/- A round comes to its end; plain. -/
import Derived.Test.YtciihebaameccaaRndS
namespace Go.Coop
/-- how many answers are wanted at most -/
def muR (r : Rn) : Int :=
  if r.ph = 1 ∨ r.ph = 2 then 2 * r.ms.length + 1 + cnt 0 r.ms else if r.ph = 3 then 2 * (cnt 0 r.ms + cnt 3 r.ms) + cnt 1 r.ms else if r.ph = 5 then r.ms.length - cnt 4 r.ms else 0
section
variable {r : Rn}
theorem mu_b (h : RightR r) : 0 ≤ muR r ∧ muR r ≤ 3 * r.ms.length + 1 := by
  have s := cnt_sum h.2.1
  have a0 := cnt_nonneg 0 r.ms
  have a1 := cnt_nonneg 1 r.ms
  have a2 := cnt_nonneg 2 r.ms
  have a3 := cnt_nonneg 3 r.ms
  have a4 := cnt_nonneg 4 r.ms
  unfold muR
  (repeat' split) <;> omega
theorem mu_12 (h : r.ph = 1 ∨ r.ph = 2) : muR r = 2 * r.ms.length + 1 + cnt 0 r.ms := by unfold muR; rw [if_pos h]
theorem mu_3 (h : r.ph = 3) : muR r = 2 * (cnt 0 r.ms + cnt 3 r.ms) + cnt 1 r.ms := by unfold muR; rw [if_neg (by omega), if_pos h]
theorem mu_5 (h : r.ph = 5) : muR r = r.ms.length - cnt 4 r.ms := by unfold muR; rw [if_neg (by omega), if_neg (by omega), if_pos h]
theorem mu_46 (h : r.ph = 4 ∨ r.ph = 6) : muR r = 0 := by unfold muR; rw [if_neg (by omega), if_neg (by omega), if_neg (by omega)]
theorem mu_give (h : RightR r) (hp : r.ph = 1 ∨ r.ph = 2) : muR r.give.1 ≤ muR r ∧ r.give.1.ph = 5 ∧ r.give.1.ms.length = r.ms.length := by
  rcases give_ph h with ⟨_, e⟩ | ⟨h2, _⟩
  · rw [e, mu_12 hp, mu_5 (r := ⟨r.s, r.v, r.need, 5, r.ms⟩) rfl]
    have a0 := cnt_nonneg 0 r.ms
    have a4 := cnt_nonneg 4 r.ms
    exact ⟨by simp only; omega, rfl, rfl⟩
  · exact absurd hp h2
theorem mu_publish (h : RightR r) (hp : r.ph = 2) : muR r.publish.1 ≤ muR r ∧ r.publish.1.ph = 3 ∧ r.publish.1.ms.length = r.ms.length := by
  rcases publish_ph h with ⟨_, e⟩ | ⟨h2, _⟩
  · rw [e, mu_12 (.inr hp), mu_3 (r := ⟨r.s, r.v, r.need, 3, r.ms⟩) rfl]
    have s := cnt_sum h.2.1
    have a0 := cnt_nonneg 0 r.ms
    have a2 := cnt_nonneg 2 r.ms
    have a1 := cnt_nonneg 1 r.ms
    have a4 := cnt_nonneg 4 r.ms
    exact ⟨by simp only; omega, rfl, rfl⟩
  · exact absurd hp h2
theorem mu_told (h : RightR r) (hp : r.ph ≠ 2) {x : Int × Int} (hx : x ∈ r.wants) : (r.told x.1 x.2 0).2 = 0 ∧ muR (r.told x.1 x.2 0).1 < muR r := by
  unfold Rn.wants at hx
  rw [if_pos h] at hx
  obtain ⟨j, m, hj, e, hw⟩ := wantsL_mem _ hx
  rw [Nat.zero_add] at e
  subst e
  have hjl := (List.getElem?_eq_some_iff.1 hj).1
  have hH : HasR r (j : Int) := ⟨h, by omega, by omega⟩
  have hm5 := h.2.1 m (List.mem_of_getElem? hj)
  have he := told_eq hH (m := m) (by rw [Int.toNat_natCast]; exact hj) (wantR r.ph m) 0
  rw [Int.toNat_natCast] at he
  simp only
  rw [he]
  refine ⟨rfl, ?_⟩
  have hmay := ansR_may (ph := r.ph) (m := m) (wantR r.ph m) 0 hm5
  have hst := phase_steps h hj hmay
  obtain ⟨x, hxx⟩ : ∃ x, ansR r.ph m (wantR r.ph m) 0 = x := ⟨_, rfl⟩
  have hR := marked_right h hj hmay
  rw [hxx] at hst hR ⊢
  have hlen : (r.marked j x).ms.length = r.ms.length := List.length_set
  have c0 := cnt_set 0 (x := x) hj
  have c1 := cnt_set 1 (x := x) hj
  have c3 := cnt_set 3 (x := x) hj
  have c4 := cnt_set 4 (x := x) hj
  have b0 := cnt_nonneg 0 (r.ms.set j x)
  have b1 := cnt_nonneg 1 (r.ms.set j x)
  have b3 := cnt_nonneg 3 (r.ms.set j x)
  have l4 := cnt_le 4 (r.ms.set j x)
  rw [List.length_set] at l4
  have hms : (r.marked j x).ms = r.ms.set j x := rfl
  rcases h.ph6 with hph | hph | hph | hph | hph | hph
  · -- asked
    have hm : m = 0 := by
      rw [hph] at hw
      unfold wantR at hw
      simp at hw
      exact hw
    subst hm
    have hx1 : x = 1 := by rw [← hxx, hph]; rfl
    subst hx1
    have hq : (r.marked j 1).ph = 1 ∨ (r.marked j 1).ph = 2 := by omega
    rw [mu_12 hq, mu_12 (.inl hph), hlen, hms]
    simp at c0
    omega
  · exact absurd hph hp
  · have hq : (r.marked j x).ph = 3 ∨ (r.marked j x).ph = 4 := by omega
    have hmx : ((m = 0 ∨ m = 3) ∧ x = 1) ∨ (m = 1 ∧ x = 2) := by
      rw [hph] at hw hxx
      have h5 := five hm5
      rcases h5 with rfl | rfl | rfl | rfl | rfl
      · left; exact ⟨.inl rfl, hxx.symm⟩
      · right; exact ⟨rfl, hxx.symm⟩
      · exact absurd rfl hw
      · left; exact ⟨.inr rfl, hxx.symm⟩
      · exfalso
        have := h.2.2
        unfold PhOk at this
        have := cnt_mem (List.mem_of_getElem? hj)
        omega
    have hlt : 2 * (cnt 0 (r.ms.set j x) + cnt 3 (r.ms.set j x)) + cnt 1 (r.ms.set j x) < 2 * (cnt 0 r.ms + cnt 3 r.ms) + cnt 1 r.ms := by
      rcases hmx with ⟨rfl | rfl, rfl⟩ | ⟨rfl, rfl⟩ <;> simp at c0 c1 c3 <;> omega
    rw [mu_3 hph]
    rcases hq with hq | hq
    · rw [mu_3 hq, hms]
      exact hlt
    · rw [mu_46 (.inl hq)]
      omega
  · rw [hph] at hw
    exact absurd rfl hw
  · have hq : (r.marked j x).ph = 5 ∨ (r.marked j x).ph = 6 := by omega
    have hm : m ≠ 4 ∧ x = 4 := by
      rw [hph] at hw hxx
      have h5 := five hm5
      rcases h5 with rfl | rfl | rfl | rfl | rfl
      · exact ⟨by omega, hxx.symm⟩
      · exact ⟨by omega, hxx.symm⟩
      · exact ⟨by omega, hxx.symm⟩
      · exact ⟨by omega, hxx.symm⟩
      · exact absurd rfl hw
    obtain ⟨hm1, rfl⟩ := hm
    rw [if_neg hm1, if_pos rfl] at c4
    rw [mu_5 hph]
    rcases hq with hq | hq
    · rw [mu_5 hq, hlen, hms]
      omega
    · rw [mu_46 (.inr hq)]
      omega
  · rw [hph] at hw
    exact absurd rfl hw
/-- what wants nothing is at its end -/
theorem ended (h : RightR r) (hp : r.ph ≠ 2) (hw : r.wants.length = 0) : r.ph = 4 ∨ r.ph = 6 := by
  rcases h.ph6 with hph | hph | hph | hph | hph | hph
  · exfalso
    have s := cnt_sum h.2.1
    have h3 := h.2.2
    unfold PhOk at h3
    have : 0 < cnt 0 r.ms := by omega
    obtain ⟨j, hj⟩ := List.getElem?_of_mem (cnt_pos this)
    have h5 := wantsL_some r.ph (k := 0) hj (by rw [hph]; decide)
    unfold Rn.wants at hw
    rw [if_pos h] at hw
    exact h5 (List.eq_nil_of_length_eq_zero hw)
  · exact absurd hph hp
  · have := wants_some h (.inl hph); omega
  · exact .inl hph
  · have := wants_some h (.inr hph); omega
  · exact .inr hph
end
end Go.Coop
