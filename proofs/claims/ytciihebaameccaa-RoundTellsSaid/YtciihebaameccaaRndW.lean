/- What is wanted, plain. -/
import Derived.Test.YtciihebaameccaaRndQ
namespace Go.Coop
theorem cnt_eq_len {k : Int} : ∀ {l : List Int}, (∀ m ∈ l, m = k) → cnt k l = l.length
  | [], _ => rfl
  | y :: l, h => by
    rw [cnt_cons, cnt_eq_len (fun m hm => h m (List.mem_cons_of_mem _ hm)), if_pos (h y (List.mem_cons_self ..)), List.length_cons]
    rfl
theorem cnt_other {k : Int} {l : List Int} (h : cnt k l < l.length) : ∃ (j : Nat) (m : Int), l[j]? = some m ∧ m ≠ k := by
  refine Classical.byContradiction fun hn => ?_
  have : ∀ m ∈ l, m = k := by
    intro m hm
    refine Decidable.byContradiction fun hne => hn ?_
    obtain ⟨j, hj⟩ := List.getElem?_of_mem hm
    exact ⟨j, m, hj, hne⟩
  have := cnt_eq_len this
  omega
theorem wantsL_ge (ph : Int) : ∀ {l : List Int} {k : Nat} {x : Int × Int}, x ∈ wantsL ph k l → (k : Int) ≤ x.1 := by
  intro l k x h
  obtain ⟨j, m, _, e, _⟩ := wantsL_mem ph h
  rw [e]
  simp only
  omega
theorem wantsL_sorted (ph : Int) : ∀ (l : List Int) (k : Nat), (wantsL ph k l).Pairwise fun a b => a.1 < b.1
  | [], k => List.Pairwise.nil
  | y :: l, k => by
    have ih := wantsL_sorted ph l (k + 1)
    unfold wantsL
    split
    · exact ih
    · refine List.Pairwise.cons (fun b hb => ?_) ih
      have := wantsL_ge ph hb
      simp only
      omega
theorem wants_sorted (r : Rn) : r.wants.Pairwise fun a b => a.1 < b.1 := by
  unfold Rn.wants
  split
  · exact wantsL_sorted _ _ _
  · exact List.Pairwise.nil
theorem wantR_op {ph m : Int} (h : wantR ph m ≠ 0) : 1 ≤ wantR ph m ∧ wantR ph m ≤ 3 := by
  unfold wantR at h ⊢
  (repeat' split) <;> (repeat' split at h) <;> omega
/-- a want is of an index, an op from 1 to 3 -/
theorem wants_mem {r : Rn} {x : Int × Int} (h : x ∈ r.wants) : 0 ≤ x.1 ∧ x.1 < r.ms.length ∧ 1 ≤ x.2 ∧ x.2 ≤ 3 := by
  unfold Rn.wants at h
  split at h
  · obtain ⟨j, m, hj, e, hw⟩ := wantsL_mem _ h
    have := (List.getElem?_eq_some_iff.1 hj).1
    have := wantR_op hw
    rw [e]
    simp only
    omega
  · cases h
/-- the index wanted last -/
def lastL (l : List (Int × Int)) (i : Nat) : Int := if i = 0 then -1 else (l.getD (i - 1) (0, 0)).1
theorem lastL_succ {l : List (Int × Int)} {i : Nat} {x : Int × Int} (h : l[i]? = some x) : lastL l (i + 1) = x.1 := by
  unfold lastL
  rw [if_neg (by omega), Nat.add_sub_cancel, List.getD_eq_getElem?_getD, h]
  rfl
theorem lastL_lt {r : Rn} {i : Nat} {x : Int × Int} (h : r.wants[i]? = some x) : lastL r.wants i < x.1 := by
  unfold lastL
  split
  · have := wants_mem (List.mem_of_getElem? h)
    omega
  · obtain ⟨h1, h2⟩ := List.getElem?_eq_some_iff.1 h
    have hp := List.pairwise_iff_getElem.1 (wants_sorted r) (i - 1) i (by omega) h1 (by omega)
    rw [List.getD_eq_getElem?_getD, List.getElem?_eq_getElem (by omega)]
    rw [h2] at hp
    exact hp
theorem wants_len (r : Rn) : r.wants.length ≤ r.ms.length := by
  unfold Rn.wants
  split
  · exact wantsL_length _ _ _
  · simp
/-- what still wants something -/
theorem wants_none {r : Rn} (h : RightR r) (hp : r.ph = 4 ∨ r.ph = 6) : r.wants.length = 0 := by
  unfold Rn.wants
  rw [if_pos h]
  have : ∀ (l : List Int) (k : Nat), wantsL r.ph k l = [] := by
    intro l
    induction l with
    | nil => intro k; rfl
    | cons y l ih =>
      intro k
      unfold wantsL
      have : wantR r.ph y = 0 := by
        unfold wantR
        rw [if_neg (by omega), if_neg (by omega), if_neg (by omega)]
      rw [if_pos this]
      exact ih (k + 1)
  rw [this]
  rfl
theorem wants_some {r : Rn} (h : RightR r) (hp : r.ph = 3 ∨ r.ph = 5) : 0 < r.wants.length := by
  unfold Rn.wants
  rw [if_pos h]
  have hk := h.2.2
  unfold PhOk at hk
  rcases hp with hp | hp
  · obtain ⟨j, m, hj, hm⟩ := cnt_other (k := 2) (l := r.ms) (by omega)
    refine List.length_pos_iff.2 (wantsL_some _ hj ?_)
    unfold wantR
    rw [if_neg (by omega), if_pos hp]
    rw [if_neg hm]
    split <;> omega
  · obtain ⟨j, m, hj, hm⟩ := cnt_other (k := 4) (l := r.ms) (by omega)
    refine List.length_pos_iff.2 (wantsL_some _ hj ?_)
    unfold wantR
    rw [if_neg (by omega), if_neg (by omega), if_pos hp, if_neg hm]
    omega
end Go.Coop
