/- Rank; what no field answers. -/
import Derived.Test.YtcggcbfddgfigaaMtxJ
namespace Go.Proofs.Ytcggcbfddgfigaa
open Go.RowKit Go.Coop

theorem rank_wrong {bo br : Nat} (g : Nat) (A : Option Addr) (n c : Nat) (M : List (List UInt8)) (w : World) (hf : FldAt w g) (h : MO w bo br A n c M) (hn : n ≤ 140737488355328) (hr : rightB M = false) :
    Calls Try.prog 17 #[.pointer (some ⟨g, 0, none⟩), .slice A n c] w (Still w (.int .i64 0)) := by
  have HF := Lib.hid hf
  have HM := Lib.hid h
  clear hf h
  go_enter Try.func17, Try.ntmps17
  go_wp2_with fail
  refine (mmade_yes _ _ HF.out).mono ?_
  rintro e w' ⟨rfl, n0, rfl⟩
  go_wp2_with fail
  have K := right_any A n c M (w.drewN n0) (HM.out.drewN n0) hn
  rw [hr] at K
  refine K.mono ?_
  rintro e w' ⟨rfl, rfl⟩
  clear K
  go_wp2
  go_ret
  exact ⟨rfl, n0, rfl⟩

/-- rows of nothing -/
theorem mo_nils (w : World) (g n : Nat) (hg : g = w.heap.size) (hn : n ≤ maxLen) (F : Fn2) : MO (w.alloc (.cells (outC w.heap.size n 0 0) 26)) g g (some ⟨g, 0, none⟩) n n (tabM n 0 F) := by
  subst hg
  refine ⟨tabM_len n 0 F, (outC w.heap.size n 0 0).toList, ⟨by simp [outC], by simp [outC], .inr ⟨w.heap.size, n, _, rfl, Nat.le_refl _, heap_alloc_new w _, Nat.le_refl _, hn, by simp [outC], ?_⟩⟩, fun i r hi => ?_⟩
  · rw [Nat.mul_one, List.take_of_length_le (by simp [outC])]
  · have hin : i < n := by have := (List.getElem?_eq_some_iff.1 hi).1; rwa [tabM_len] at this
    rw [tabM_at 0 F hin] at hi
    injection hi with hi
    subst hi
    rw [rowL_len]
    refine ⟨none, 0, ?_, ?_⟩
    · have := outC_at (g := w.heap.size) (k := 0) (i := 0) hin
      rw [if_neg (by omega)] at this
      simpa using this
    · exact Own.nil _ _ _
def Ranked (w : World) (n k : Nat) (F : Fn2) (e : Ending) (w' : World) : Prop := e = .returned (.int .i64 (rankF n k F unitF : Int)) ∧ Below w.heap.size w w'
theorem ranked_end {w w1 w2 : World} {n k r : Nat} {F : Fn2} (hr : rankF n k F unitF = r) (h1 : w1.heap.size = w.heap.size) (h0 : Below w.heap.size w w1) (h2 : Below w1.heap.size w1 w2) : Ranked w n k F (.returned (.int .i64 (r : Int))) w2 := by
  subst hr; exact ⟨rfl, h0.trans (h2.mono (by omega))⟩

set_option maxRecDepth 100000 in
theorem rank_any {bo br : Nat} (g : Nat) (A : Option Addr) (n c k : Nat) (F : Fn2) (w : World) (hf : FldAt w g) (h : MO w bo br A n c (tabM n k F)) (hn1 : 1 ≤ n) (hn2 : n ≤ 255) (hk1 : 1 ≤ k) (hk2 : k ≤ 255) :
    Calls Try.prog 17 #[.pointer (some ⟨g, 0, none⟩), .slice A n c] w (Ranked w n k F) := by
  have hm1 := make25 n 0 (by omega)
  have HF := Lib.hid hf
  have HM := Lib.hid h
  clear hf h
  go_enter Try.func17, Try.ntmps17
  go_wp2_with fail
  refine (mmade_yes _ _ HF.out).mono ?_
  rintro e w' ⟨rfl, n0, hw0⟩
  have HF0 : Hid (FldAt w' g) := by show FldAt w' g; rw [hw0]; exact HF.out.drewN n0
  have HM0 : Hid (MO w' bo br A n c (tabM n k F)) := by show MO _ _ _ _ _ _ _; rw [hw0]; exact HM.out.drewN n0
  have HB0 : Hid (Below w.heap.size w w' ∧ w'.heap.size = w.heap.size) := by rw [hw0]; exact ⟨⟨rfl, rfl, rfl, Nat.le_refl _, fun _ _ => rfl⟩, rfl⟩
  clear HF HM hw0
  go_wp2_with fail
  refine (right_yes _ n c k F _ HM0.out hn1 hn2 hk1 hk2).mono ?_
  rintro e w1 ⟨rfl, rfl⟩
  go_upto_region 3 with (fail)
  have hTT : True := trivial
  refine wp_region_held_drew (S := fun _ => True) (by kernel_rfl) (trivial) (fun hHeld => ?_)
  refine wpAnyH_take (i := 0) (oi := ⟨some 13, _, _, _, _, _⟩) (v := ?_) rfl (by kernel_rfl) (by kernel_rfl) (by kernel_rfl) (fun _ _ _ h => h) (Or.inl ⟨by rfl, ?_⟩) (by assumption) ?_
  rotate_left
  · intro w hSw
    skip
    go_simp
    all_goals (with_reducible rfl)
  try simp only [Act.put, List.setIfInBounds_toArray, List.set_cons_zero, List.set_cons_succ]
  refine wpAnyH_take (i := 1) (oi := ⟨some 14, _, _, _, _, _⟩) (v := ?_) rfl (by kernel_rfl) (by kernel_rfl) (by kernel_rfl) (fun _ _ _ h => h) (Or.inl ⟨by rfl, ?_⟩) (by assumption) ?_
  rotate_left
  · intro w hSw
    skip
    go_simp
    all_goals (with_reducible rfl)
  try simp only [Act.put, List.setIfInBounds_toArray, List.set_cons_zero, List.set_cons_succ]
  refine wpAnyH_take (i := 3) (oi := ⟨some 16, _, _, _, _, _⟩) (v := ?_) rfl (by kernel_rfl) (by kernel_rfl) (by kernel_rfl) (fun _ _ _ h => h) (Or.inl ⟨by rfl, ?_⟩) (by assumption) ?_
  rotate_left
  · intro w hSw
    skip
    go_simp
    all_goals (with_reducible rfl)
  try simp only [Act.put, List.setIfInBounds_toArray, List.set_cons_zero, List.set_cons_succ]
  refine wpAnyH_take (i := 4) (oi := ⟨some 17, _, _, _, _, _⟩) (v := ?_) rfl (by kernel_rfl) (by kernel_rfl) (by kernel_rfl) (fun _ _ _ h => h) (Or.inl ⟨by rfl, ?_⟩) (by assumption) ?_
  rotate_left
  · intro w hSw
    skip
    go_simp
    all_goals (with_reducible rfl)
  try simp only [Act.put, List.setIfInBounds_toArray, List.set_cons_zero, List.set_cons_succ]
  refine wpAnyH_ready (rs := [2, 5]) (by kernel_rfl) (by simp) (AllReadyH.cons (o := ⟨some 15, _, _, _, _, _⟩) rfl (fun K hK => ?_) (AllReadyH.cons (o := ⟨some 18, _, _, _, _, _⟩) rfl (fun K hK => ?_) AllReadyH.nil))
  · go_simp
    refine (clone_any _ n c _ w'.drew (HM0.out.drew) (by omega) hn2).mono ?_
    rintro e w2 ⟨A2, c2, rfl, hM2, hB2⟩
    obtain ⟨g2, _, _, _, rfl, hg2, hl2, _⟩ := hM2.row (show 0 < n by omega)
    have HM2 := Lib.hid (hM2.lower (Nat.zero_le _) (Nat.zero_le _))
    have HF2 := Lib.hid (HF0.out.drew.below hB2 HF0.out.lt)
    have HB2 := Lib.hid hB2
    clear hM2 hB2
    have hm2 := hm1 w2
    refine hK.out _ _ trivial (fun hHeld => ?_)
    clear hK K
    try simp only [Act.put, List.setIfInBounds_toArray, List.set_cons_zero, List.set_cons_succ]
    refine wpAnyH_ready (rs := [5]) (by kernel_rfl) (by simp) (AllReadyH.cons (o := ⟨some 18, _, _, _, _, _⟩) rfl (fun K hK => ?_) AllReadyH.nil)
    go_simp
    have HN2 := Lib.hid (mo_nils w2 w2.heap.size n rfl (by simp [maxLen]; omega) unitF)
    refine hK.out _ _ (trivial) (fun hHeld => ?_)
    clear hK K
    try simp only [Act.put, List.setIfInBounds_toArray, List.set_cons_zero, List.set_cons_succ]
    refine wpAnyH_ready (rs := [6]) (by kernel_rfl) (by simp) (AllReadyH.cons (o := ⟨some 19, _, _, _, _, _⟩) rfl (fun K hK => ?_) AllReadyH.nil)
    go_simp
    refine (reduce_any g g2 w2.heap.size n c2 n k 0 F unitF _ (HF2.out.alloc _) (HM2.out.alloc _) HN2.out (by omega) hn1 hn2 hk2 (by omega) (Nat.zero_le _) (by rw [size_alloc]; omega)).mono ?_
    rintro e w3 ⟨rfl, _, hB3⟩
    have HB3 : Hid (Below w'.heap.size w' w3) := by
      have hz := HB2.out.size
      refine (show Below w'.heap.size w' w2 from ⟨HB2.out.os, HB2.out.tape, HB2.out.output, HB2.out.size, HB2.out.block⟩).trans (((Below.refl _ _).alloc hz _).trans (hB3.below (fun q hq => ?_) (by rw [size_alloc]; exact Nat.le_succ_of_le hz)))
      simp at hq
      have : w'.drew.heap.size = w'.heap.size := rfl
      omega
    clear hB3
    refine hK.out _ _ (trivial) (fun hHeld => ?_)
    clear hK K
    try simp only [Act.put, List.setIfInBounds_toArray, List.set_cons_zero, List.set_cons_succ]
    refine wpAnyH_take (i := 7) (oi := ⟨some 4, _, _, _, _, _⟩) (v := ?_) rfl (by kernel_rfl) (by kernel_rfl) (by kernel_rfl) (fun _ _ _ h => h) (Or.inl ⟨by rfl, ?_⟩) (by assumption) ?_
    rotate_left
    · intro w hSw
      skip
      go_simp
      all_goals (with_reducible rfl)
    try simp only [Act.put, List.setIfInBounds_toArray, List.set_cons_zero, List.set_cons_succ]
    refine wpAnyH_done (by kernel_rfl) ?_ _
    go_wp2
    go_ret
    exact ranked_end rfl HB0.out.2 HB0.out.1 HB3.out
  · go_simp
    have HN2 := Lib.hid (mo_nils w'.drew w'.heap.size n rfl (by simp [maxLen]; omega) unitF)
    refine hK.out _ _ trivial (fun hHeld => ?_)
    clear hK K
    try simp only [Act.put, List.setIfInBounds_toArray, List.set_cons_zero, List.set_cons_succ]
    refine wpAnyH_ready (rs := [2]) (by kernel_rfl) (by simp) (AllReadyH.cons (o := ⟨some 15, _, _, _, _, _⟩) rfl (fun K hK => ?_) AllReadyH.nil)
    go_simp
    refine (clone_any _ n c _ _ (by exact HM0.out.drew.alloc _) (by omega) hn2).mono ?_
    rintro e w2 ⟨A2, c2, rfl, hM2, hB2⟩
    obtain ⟨g2, _, _, _, rfl, hg2, hl2, _⟩ := hM2.row (show 0 < n by omega)
    have hB2' : Below (w'.drew.alloc (.cells (outC w'.heap.size n 0 0) 26)).heap.size (w'.drew.alloc (.cells (outC w'.heap.size n 0 0) 26)) w2 := hB2
    have hz0 : (w'.drew.alloc (.cells (outC w'.heap.size n 0 0) 26)).heap.size = w'.heap.size + 1 := size_alloc _ _
    have hg2' : w'.heap.size + 1 ≤ g2 := by rw [← hz0]; exact hg2
    have HM2 := Lib.hid (hM2.lower (Nat.zero_le _) (Nat.zero_le _))
    have HF2 := Lib.hid ((HF0.out.drew.alloc _).below hB2' (by rw [hz0]; exact Nat.lt_succ_of_lt HF0.out.lt))
    have HN3 := Lib.hid ((show MO (w'.drew.alloc (.cells (outC w'.heap.size n 0 0) 26)) _ _ _ _ _ _ from HN2.out).below hB2' (Nat.le_refl _))
    have HB2 := Lib.hid hB2'
    clear hM2 hB2 hB2' hg2
    refine hK.out _ _ (trivial) (fun hHeld => ?_)
    clear hK K
    try simp only [Act.put, List.setIfInBounds_toArray, List.set_cons_zero, List.set_cons_succ]
    refine wpAnyH_ready (rs := [6]) (by kernel_rfl) (by simp) (AllReadyH.cons (o := ⟨some 19, _, _, _, _, _⟩) rfl (fun K hK => ?_) AllReadyH.nil)
    go_simp
    refine (reduce_any g g2 w'.heap.size n c2 n k 0 F unitF w2 HF2.out HM2.out HN3.out (by omega) hn1 hn2 hk2 (by omega) (Nat.zero_le _) (by have := HB2.out.size; omega)).mono ?_
    rintro e w3 ⟨rfl, _, hB3⟩
    have HB3 : Hid (Below w'.heap.size w' w3) := by
      have hz := HB2.out.size
      have h1 : Below w'.heap.size w' (w'.drew.alloc (.cells (outC w'.heap.size n 0 0) 26)) := ((Below.refl w'.heap.size w').drew).alloc (Nat.le_refl _) _
      refine h1.trans ((HB2.out.mono (by omega)).trans (hB3.below (fun q hq => ?_) (by omega)))
      simp at hq
      omega
    clear hB3
    refine hK.out _ _ (trivial) (fun hHeld => ?_)
    clear hK K
    try simp only [Act.put, List.setIfInBounds_toArray, List.set_cons_zero, List.set_cons_succ]
    refine wpAnyH_take (i := 7) (oi := ⟨some 4, _, _, _, _, _⟩) (v := ?_) rfl (by kernel_rfl) (by kernel_rfl) (by kernel_rfl) (fun _ _ _ h => h) (Or.inl ⟨by rfl, ?_⟩) (by assumption) ?_
    rotate_left
    · intro w hSw
      skip
      go_simp
      all_goals (with_reducible rfl)
    try simp only [Act.put, List.setIfInBounds_toArray, List.set_cons_zero, List.set_cons_succ]
    refine wpAnyH_done (by kernel_rfl) ?_ _
    go_wp2
    go_ret
    exact ranked_end rfl HB0.out.2 HB0.out.1 HB3.out
end Go.Proofs.Ytcggcbfddgfigaa
