import Derived.Test.YtmiapegecoaccaaRefSum
import Derived.Test.YtmiapegecoaccaaUnseal
import Derived.Test.YtmiapegecoaccaaTab
import Derived.Deep.RegionHeld3
namespace Go.Proofs.Ytmiapegecoaccaa
open Go.RowKit Go.Coop

/-- the results of the reference's Unseal -/
def ROpened (w : World) (r : List UInt8 × Nat) (e : Ending) (w' : World) : Prop :=
  ∃ A n c, e = .returned (.tuple #[.slice A n c, .int .i64 (r.2 : Int)]) ∧ Rd w' A n r.1 ∧ n ≤ c ∧ Below w.heap.size w w'

theorem runseal_short (p : Option Addr) (A : Option Addr) (n c : Nat) (w : World) (hn : n < 4) : Calls Try.prog 49 #[.pointer p, .slice A n c] w (ROpened w ([], 11)) := by
  go_enter Try.func49, Try.ntmps49
  go_wp2
  go_ret2
  exact ⟨none, 0, 0, rfl, Rd.nil _ _, Nat.le_refl _, Below.refl _ _⟩

set_option maxRecDepth 100000 in
theorem runseal_long (p : Option Addr) (S : Nat) (A : Option Addr) (m c : Nat) (l : List UInt8) (w : World) (hr : Rd w A (m + 4) l) (hn : m ≤ 70368744177664) (hc : m + 4 ≤ c)
    (hseal : ∀ w' A' c', Below w.heap.size w w' → Rd w' A' m (l.take m) → Calls Try.prog 42 #[.pointer p, .slice A' m c'] w' (Given w' (m + 4) (l.take m ++ four S))) :
    Calls Try.prog 49 #[.pointer p, .slice A (m + 4) c] w (ROpened w (unsealed S l)) := by
  have hu : unsealed S l = if l.take m ++ four S = l then (l.take m, 0) else ([], 12) := by
    unfold unsealed
    rw [hr.len, if_neg (by omega), Nat.add_sub_cancel]
  rw [hu]
  clear hu
  have HS := Lib.hid hseal
  have HR := Lib.hid hr
  clear hseal hr
  have hb0 : decide ((m : Int) < 0) = false := by simp
  by_cases hq : l.take m ++ four S = l
  · rw [if_pos hq]
    have hne : (l.take m ++ four S == l) = true := beq_iff_eq.2 hq
    have HQ := Lib.hid hq
    clear hq
    go_enter Try.func49, Try.ntmps49
    go_wp2_with fail
    refine (joined_eq _ _ _ _ A m c (l.take m) _ (Rd.nil _ none) (HR.out.take (by omega)) (by omega)).mono ?_
    rintro e w1 ⟨A1, c1, rfl, hr1, hc1, _, hb1⟩
    rw [Nat.zero_add] at hc1
    simp only [Nat.zero_add, List.nil_append] at hr1 ⊢
    have HI := Lib.hid hr1
    have HR1 := Lib.hid (HR.out.below hb1 (Nat.le_refl _)).drew
    clear hr1
    go_wp2_with fail
    refine wp_region_held_drew (S := fun w' => Rd w' A (m + 4) l) (by kernel_rfl) (HR1.out) (fun hHeld => ?_)
    refine wpAnyH_take (i := 0) (oi := ⟨some 16, _, _, _, _, _⟩) (v := ?_) rfl (by kernel_rfl) (by kernel_rfl) (by kernel_rfl) (fun _ _ _ h => h) (Or.inl ⟨by rfl, ?_⟩) (by assumption) ?_
    rotate_left
    · intro w hSw
      (try dsimp only at hSw)
      go_simp
      all_goals (with_reducible rfl)
    try simp only [Act.put, List.setIfInBounds_toArray, List.set_cons_zero, List.set_cons_succ]
    refine wpAnyH_take (i := 1) (oi := ⟨some 17, _, _, _, _, _⟩) (v := ?_) rfl (by kernel_rfl) (by kernel_rfl) (by kernel_rfl) (fun _ _ _ h => h) (Or.inl ⟨by rfl, ?_⟩) (by assumption) ?_
    rotate_left
    · intro w hSw
      (try dsimp only at hSw)
      go_simp
      all_goals (with_reducible rfl)
    try simp only [Act.put, List.setIfInBounds_toArray, List.set_cons_zero, List.set_cons_succ]
    refine wpAnyH_take (i := 4) (oi := ⟨some 20, _, _, _, _, _⟩) (v := ?_) rfl (by kernel_rfl) (by kernel_rfl) (by kernel_rfl) (fun _ _ _ h => h) (Or.inl ⟨by rfl, ?_⟩) (by assumption) ?_
    rotate_left
    · intro w hSw
      (try dsimp only at hSw)
      go_simp
      all_goals (with_reducible rfl)
    try simp only [Act.put, List.setIfInBounds_toArray, List.set_cons_zero, List.set_cons_succ]
    refine wpAnyH_take (i := 5) (oi := ⟨some 21, _, _, _, _, _⟩) (v := ?_) rfl (by kernel_rfl) (by kernel_rfl) (by kernel_rfl) (fun _ _ _ h => h) (Or.inl ⟨by rfl, ?_⟩) (by assumption) ?_
    rotate_left
    · intro w hSw
      have kc := conv_str (P := Try.prog) Try.underlying23 Try.underlying5 Try.underlying9 hSw c
      go_simp
      all_goals (with_reducible rfl)
    try simp only [Act.put, List.setIfInBounds_toArray, List.set_cons_zero, List.set_cons_succ]
    refine wpAnyH_ready (rs := [2]) (by kernel_rfl) (by simp) (AllReadyH.cons (o := ⟨some 18, _, _, _, _, _⟩) rfl (fun K hK => ?_) AllReadyH.nil)
    go_simp
    refine (HS.out w1.drew A1 c1 ⟨hb1.os, hb1.tape, hb1.output, hb1.size, hb1.block⟩ HI.out.drew).mono ?_
    rintro e w2 ⟨A2, c2, rfl, hr2, hb2⟩
    refine hK.out _ _ (HR1.out.below hb2 (Nat.le_refl _)) (fun hHeld => ?_)
    clear hK K
    try simp only [Act.put, List.setIfInBounds_toArray, List.set_cons_zero, List.set_cons_succ]
    refine wpAnyH_ready (rs := [3]) (by kernel_rfl) (by simp) (AllReadyH.cons (o := ⟨some 19, _, _, _, _, _⟩) rfl (fun K hK => ?_) AllReadyH.nil)
    have kc2 := conv_str (P := Try.prog) Try.underlying23 Try.underlying5 Try.underlying9 hr2 c2
    go_simp
    refine hK.out _ _ (HR1.out.below hb2 (Nat.le_refl _)) (fun hHeld => ?_)
    clear hK K
    try simp only [Act.put, List.setIfInBounds_toArray, List.set_cons_zero, List.set_cons_succ]
    refine wpAnyH_take (i := 6) (oi := ⟨some 22, _, _, _, _, _⟩) (v := ?_) rfl (by kernel_rfl) (by kernel_rfl) (by kernel_rfl) (fun _ _ _ h => h) (Or.inl ⟨by rfl, ?_⟩) (by assumption) ?_
    rotate_left
    · intro w hSw
      (try dsimp only at hSw)
      go_simp
      all_goals (with_reducible rfl)
    try simp only [Act.put, List.setIfInBounds_toArray, List.set_cons_zero, List.set_cons_succ]
    refine wpAnyH_done (by kernel_rfl) ?_ _
    have hb12 := hb1.trans ((show Below w1.heap.size w1 w2 from ⟨hb2.os, hb2.tape, hb2.output, hb2.size, hb2.block⟩).mono hb1.size)
    have HI2 := Lib.hid (HI.out.drew.below hb2 (Nat.le_refl _))
    go_wp2
    go_ret2
    exact ⟨A1, m, c1, rfl, HI2.out, hc1, hb12⟩
  · rw [if_neg hq]
    have hne : (l.take m ++ four S == l) = false := beq_eq_false_iff_ne.2 hq
    have HQ := Lib.hid hq
    clear hq
    go_enter Try.func49, Try.ntmps49
    go_wp2_with fail
    refine (joined_any _ _ _ _ A m c (l.take m) _ (Rd.nil _ none) (HR.out.take (by omega)) (by omega)).mono ?_
    rintro e w1 ⟨A1, c1, rfl, hr1, hb1⟩
    simp only [Nat.zero_add, List.nil_append] at hr1 ⊢
    have HI := Lib.hid hr1
    have HR1 := Lib.hid (HR.out.below hb1 (Nat.le_refl _)).drew
    clear hr1
    go_wp2_with fail
    refine wp_region_held_drew (S := fun w' => Rd w' A (m + 4) l) (by kernel_rfl) (HR1.out) (fun hHeld => ?_)
    refine wpAnyH_take (i := 0) (oi := ⟨some 16, _, _, _, _, _⟩) (v := ?_) rfl (by kernel_rfl) (by kernel_rfl) (by kernel_rfl) (fun _ _ _ h => h) (Or.inl ⟨by rfl, ?_⟩) (by assumption) ?_
    rotate_left
    · intro w hSw
      (try dsimp only at hSw)
      go_simp
      all_goals (with_reducible rfl)
    try simp only [Act.put, List.setIfInBounds_toArray, List.set_cons_zero, List.set_cons_succ]
    refine wpAnyH_take (i := 1) (oi := ⟨some 17, _, _, _, _, _⟩) (v := ?_) rfl (by kernel_rfl) (by kernel_rfl) (by kernel_rfl) (fun _ _ _ h => h) (Or.inl ⟨by rfl, ?_⟩) (by assumption) ?_
    rotate_left
    · intro w hSw
      (try dsimp only at hSw)
      go_simp
      all_goals (with_reducible rfl)
    try simp only [Act.put, List.setIfInBounds_toArray, List.set_cons_zero, List.set_cons_succ]
    refine wpAnyH_take (i := 4) (oi := ⟨some 20, _, _, _, _, _⟩) (v := ?_) rfl (by kernel_rfl) (by kernel_rfl) (by kernel_rfl) (fun _ _ _ h => h) (Or.inl ⟨by rfl, ?_⟩) (by assumption) ?_
    rotate_left
    · intro w hSw
      (try dsimp only at hSw)
      go_simp
      all_goals (with_reducible rfl)
    try simp only [Act.put, List.setIfInBounds_toArray, List.set_cons_zero, List.set_cons_succ]
    refine wpAnyH_take (i := 5) (oi := ⟨some 21, _, _, _, _, _⟩) (v := ?_) rfl (by kernel_rfl) (by kernel_rfl) (by kernel_rfl) (fun _ _ _ h => h) (Or.inl ⟨by rfl, ?_⟩) (by assumption) ?_
    rotate_left
    · intro w hSw
      have kc := conv_str (P := Try.prog) Try.underlying23 Try.underlying5 Try.underlying9 hSw c
      go_simp
      all_goals (with_reducible rfl)
    try simp only [Act.put, List.setIfInBounds_toArray, List.set_cons_zero, List.set_cons_succ]
    refine wpAnyH_ready (rs := [2]) (by kernel_rfl) (by simp) (AllReadyH.cons (o := ⟨some 18, _, _, _, _, _⟩) rfl (fun K hK => ?_) AllReadyH.nil)
    go_simp
    refine (HS.out w1.drew A1 c1 ⟨hb1.os, hb1.tape, hb1.output, hb1.size, hb1.block⟩ HI.out.drew).mono ?_
    rintro e w2 ⟨A2, c2, rfl, hr2, hb2⟩
    refine hK.out _ _ (HR1.out.below hb2 (Nat.le_refl _)) (fun hHeld => ?_)
    clear hK K
    try simp only [Act.put, List.setIfInBounds_toArray, List.set_cons_zero, List.set_cons_succ]
    refine wpAnyH_ready (rs := [3]) (by kernel_rfl) (by simp) (AllReadyH.cons (o := ⟨some 19, _, _, _, _, _⟩) rfl (fun K hK => ?_) AllReadyH.nil)
    have kc2 := conv_str (P := Try.prog) Try.underlying23 Try.underlying5 Try.underlying9 hr2 c2
    go_simp
    refine hK.out _ _ (HR1.out.below hb2 (Nat.le_refl _)) (fun hHeld => ?_)
    clear hK K
    try simp only [Act.put, List.setIfInBounds_toArray, List.set_cons_zero, List.set_cons_succ]
    refine wpAnyH_take (i := 6) (oi := ⟨some 22, _, _, _, _, _⟩) (v := ?_) rfl (by kernel_rfl) (by kernel_rfl) (by kernel_rfl) (fun _ _ _ h => h) (Or.inl ⟨by rfl, ?_⟩) (by assumption) ?_
    rotate_left
    · intro w hSw
      (try dsimp only at hSw)
      go_simp
      all_goals (with_reducible rfl)
    try simp only [Act.put, List.setIfInBounds_toArray, List.set_cons_zero, List.set_cons_succ]
    refine wpAnyH_done (by kernel_rfl) ?_ _
    have hb12 := hb1.trans ((show Below w1.heap.size w1 w2 from ⟨hb2.os, hb2.tape, hb2.output, hb2.size, hb2.block⟩).mono hb1.size)
    go_wp2
    go_ret2
    exact ⟨none, 0, 0, rfl, Rd.nil _ _, Nat.le_refl _, hb12⟩

theorem runseal_any (a : Addr) (t : Nat → Nat) (A : Option Addr) (n c : Nat) (l : List UInt8) (w : World) (ht : TabAt w a t) (hal : a.block < w.heap.size) (hr : Rd w A n l) (hn : n ≤ 70368744177664) (hc : n ≤ c) :
    Calls Try.prog 49 #[.pointer (some a), .slice A n c] w (ROpened w (unsealed (crc t (l.take (n - 4))) l)) := by
  by_cases h4 : n < 4
  · have e : unsealed (crc t (l.take (n - 4))) l = ([], 11) := by unfold unsealed; rw [if_pos (by rw [hr.len]; exact h4)]
    rw [e]
    exact runseal_short _ A n c w h4
  · obtain ⟨m, rfl⟩ : ∃ m, n = m + 4 := ⟨n - 4, by omega⟩
    rw [Nat.add_sub_cancel]
    exact runseal_long _ _ A m c l w hr (by omega) hc (fun w' A' c' hb hr' => rseal_any a t A' m c' (l.take m) w' (ht.below hal hb) hr' (by omega))
theorem runseal_none (A : Option Addr) (n c : Nat) (l : List UInt8) (w : World) (hr : Rd w A n l) (hn : n ≤ 70368744177664) (hc : n ≤ c) :
    Calls Try.prog 49 #[.pointer none, .slice A n c] w (ROpened w (unsealed 0 l)) := by
  by_cases h4 : n < 4
  · have e : unsealed 0 l = ([], 11) := by unfold unsealed; rw [if_pos (by rw [hr.len]; exact h4)]
    rw [e]
    exact runseal_short _ A n c w h4
  · obtain ⟨m, rfl⟩ : ∃ m, n = m + 4 := ⟨n - 4, by omega⟩
    exact runseal_long _ _ A m c l w hr (by omega) hc (fun w' A' c' hb hr' => rseal_nil A' m c' (l.take m) w' hr' (by omega))
end Go.Proofs.Ytmiapegecoaccaa
