/- Pick; does: a call that sets or unsets. Made by gdoe8.py. -/
import Derived.Test.YtncjbohpaanpaaaArgsO
namespace Go.Proofs.Ytncjbohpaanpaaa
open Go.RowKit Go.Coop Go.Maps
set_option maxRecDepth 100000
theorem tmod_pos {x n : Int} (h : 0 ≤ x.tmod n) : x.tmod n = x % n := by
  rcases Int.lt_or_le x 0 with hx | hx
  · have h1 := Int.tmod_eq_emod (a := x) (b := n)
    have h2 := Int.tmod_nonneg n (show (0 : Int) ≤ -x by omega)
    rw [Int.neg_tmod] at h2
    have h3 : x.tmod n = 0 := by omega
    have h4 : n ∣ x := Int.dvd_of_tmod_eq_zero h3
    rw [h3, Int.emod_eq_zero_of_dvd h4]
  · exact Int.tmod_eq_emod_of_nonneg hx
theorem tmod_neg' {x n : Int} (h : x.tmod n < 0) (hn : 0 < n) : x.tmod n + n = x % n := by
  have hx : x < 0 := by
    rcases Int.lt_or_le x 0 with hx | hx
    · exact hx
    · have := Int.tmod_nonneg n hx
      omega
  have h1 : x.tmod n = -((-x).tmod n) := by rw [Int.neg_tmod, Int.neg_neg]
  have h2 : (-x).tmod n = (-x) % n := Int.tmod_eq_emod_of_nonneg (by omega)
  have h3 := Int.emod_lt_of_pos (-x) hn
  have h4 : (x.tmod n + n) % n = x % n := by
    rw [Int.add_emod_right]
    have h5 : x.tmod n = x - n * (x.tdiv n) := by have := Int.mul_tdiv_add_tmod x n; omega
    rw [h5, Int.sub_mul_emod_self_left]
  rw [← h4]
  refine (Int.emod_eq_of_lt ?_ ?_).symm <;> omega
section
variable (w : World)
theorem pick_is {x n : Int} (hn : 0 < n) (hn2 : n ≤ 1000000) : Calls Try.prog 29 #[.int .i64 x, .int .i64 n] w fun e w' => e = .returned (.int .i64 (x % n)) ∧ w = w' := by
  have hn0 : ¬ n = 0 := by omega
  have hnb : (n == 0) = false := by simpa using hn0
  have hlt := Int.tmod_lt_of_pos x hn
  have hgt : -n < x.tmod n := by
    have h1 : x.tmod n = -((-x).tmod n) := by rw [Int.neg_tmod, Int.neg_neg]
    have := Int.tmod_lt_of_pos (-x) hn
    omega
  have hw : IntKind.i64.wrap (x.tmod n) = x.tmod n := IntWalk.i64_in _ (by omega)
  have hw2 : IntKind.i64.wrap (x.tmod n + n) = x.tmod n + n := IntWalk.i64_in _ (by omega)
  by_cases h : x.tmod n < 0
  · have e := tmod_neg' h hn
    have HE := Lib.hid e
    clear e hlt hgt
    go_enter Try.func29, Try.ntmps29
    go_wp2
    go_ret
    exact ⟨congrArg (fun k => Ending.returned (Value.int .i64 k)) HE.out, rfl⟩
  · have e := tmod_pos (x := x) (n := n) (by omega)
    have HE := Lib.hid e
    clear e hlt hgt
    go_enter Try.func29, Try.ntmps29
    go_wp2
    go_ret
    exact ⟨congrArg (fun k => Ending.returned (Value.int .i64 k)) HE.out, rfl⟩
end
/-- how much later -/
def OpV.later (o : OpV) : Int := 1 + o.dt.tmod 1000 % 20
/-- what does makes of a clock -/
def CS.does (S : CS) (o : OpV) : CS := if 1 ≤ o.kd ∧ o.kd ≤ 4 then S.set o.id o.later else if o.kd = 5 then S.unset o.id else S
theorem CS.does_ok {S : CS} (h : S.Ok) {o : OpV} (ho : o.Ok) : (S.does o).Ok := by
  unfold CS.does
  split
  · exact CS.set_ok h ho.id _
  · split
    · exact CS.unset_ok h _
    · exact h
theorem CkP.back {w w' : World} {B g c : Nat} {a : Option Nat} {S' : CS} {r r' : Value} (h : CkP w B g c a S' r (.returned r) w') : CkP w B g c a S' r' (.returned r') w' := ⟨rfl, h.2⟩
theorem CkP.pre {w w1 w' : World} {B g c : Nat} {a : Option Nat} {S' : CS} {r : Value} {e : Ending} (hB : B ≤ w.heap.size) (hb : Below w.heap.size w w1) (h : CkP w1 B g c a S' r e w') : CkP w B g c a S' r e w' := by
  obtain ⟨he, a', h1, h2, h3⟩ := h
  exact ⟨he, a', h1, (hb.mono hB).trans h2, (Kp.of_below g c a hb).trans h3⟩
section
variable (w : World) {B g c : Nat} {a : Option Nat} {S : CS}
set_option maxHeartbeats 1000000 in
theorem does_is (h : Ck w B g c a S) {o : OpV} (ho : o.Ok) {S' : CS} (hS : S.does o = S') : Calls Try.prog 28 #[.pointer (some ⟨g, 0, none⟩), OV o] w (CkP w B g c a S' (.tuple #[])) := by
  subst hS
  obtain ⟨kd, id, dt⟩ := o
  obtain ⟨w1, hw1⟩ : ∃ w1, w.alloc (.cells #[.int .i64 kd, .int .i64 id, .int .i64 dt] 46) = w1 := ⟨_, rfl⟩
  have hx : w1.heap[w.heap.size]? = some (.cells #[.int .i64 kd, .int .i64 id, .int .i64 dt] 46 (0, 0)) := hw1 ▸ heap_alloc_new w _
  have hB1 : Below w.heap.size w w1 := hw1 ▸ (Below.refl _ w).alloc (Nat.le_refl _) _
  have h1 := h.below hB1
  obtain ⟨b, hb⟩ : ∃ b, w.heap.size = b := ⟨_, rfl⟩
  have hBw : B ≤ w.heap.size := h.1
  rw [hb] at hx
  have k0 := cell_of_row _ _ 0 _ 46 (0, 0) hx
  have k1 := cell_of_row _ _ 1 _ 46 (0, 0) hx
  simp at k0 k1
  have HD := Lib.hid (And.intro h1 (And.intro ho (And.intro hB1 (And.intro hx hBw))))
  have hid1 := ho.id
  by_cases hk : 1 ≤ kd ∧ kd ≤ 4
  · have e : S.does ⟨kd, id, dt⟩ = S.set id (OpV.later ⟨kd, id, dt⟩) := by unfold CS.does; rw [if_pos hk]
    rw [e]
    have hk1 := hk.1
    have hk2 := hk.2
    have hlt := Int.tmod_lt_of_pos dt (show (0 : Int) < 1000 by decide)
    have hgt : -1000 < dt.tmod 1000 := by
      have h1 : dt.tmod 1000 = -((-dt).tmod 1000) := by rw [Int.neg_tmod, Int.neg_neg]
      have := Int.tmod_lt_of_pos (-dt) (show (0 : Int) < 1000 by decide)
      omega
    have hw3 : IntKind.i64.wrap (dt.tmod 1000) = dt.tmod 1000 := IntWalk.i64_in _ (by omega)
    have hm1 := Int.emod_nonneg (dt.tmod 1000) (show (20 : Int) ≠ 0 by decide)
    have hm2 := Int.emod_lt_of_pos (dt.tmod 1000) (show (0 : Int) < 20 by decide)
    have hw4 : IntKind.i64.wrap (1 + dt.tmod 1000 % 20) = 1 + dt.tmod 1000 % 20 := IntWalk.i64_in _ (by omega)
    clear h h1 ho hB1 hx hk e hlt hgt hm1 hm2
    go_enter Try.func28, Try.ntmps28
    go_wp2
    (try rw [hw1]); (try rw [hb])
    refine wp_region_held_drew (S := (fun v => v.heap[b]? = some (.cells #[.int .i64 kd, .int .i64 id, .int .i64 dt] 46 (0, 0)))) (by kernel_rfl) (HD.out.2.2.2.1) (fun hHeld => ?_)
    refine wpAnyH_take (i := 0) (oi := ⟨some 13, _, _, _, _, _⟩) (v := ?_) rfl (by kernel_rfl) (by kernel_rfl) (by kernel_rfl) (fun _ _ _ h => h) (Or.inl ⟨by rfl, ?_⟩) (by assumption) ?_
    rotate_left
    · intro w hSw
      (try dsimp only at hSw)
      go_simp
      all_goals (with_reducible rfl)
    try simp only [Act.put, List.setIfInBounds_toArray, List.set_cons_zero, List.set_cons_succ]
    refine wpAnyH_take (i := 1) (oi := ⟨some 14, _, _, _, _, _⟩) (v := ?_) rfl (by kernel_rfl) (by kernel_rfl) (by kernel_rfl) (fun _ _ _ h => h) (Or.inl ⟨by rfl, ?_⟩) (by assumption) ?_
    rotate_left
    · intro w hSw
      (try dsimp only at hSw)
      go_simp
      all_goals (with_reducible rfl)
    try simp only [Act.put, List.setIfInBounds_toArray, List.set_cons_zero, List.set_cons_succ]
    refine wpAnyH_take (i := 2) (oi := ⟨some 15, _, _, _, _, _⟩) (v := ?_) rfl (by kernel_rfl) (by kernel_rfl) (by kernel_rfl) (fun _ _ _ h => h) (Or.inl ⟨by rfl, ?_⟩) (by assumption) ?_
    rotate_left
    · intro w hSw
      have k1 := cell_of_row _ _ 1 _ 46 (0, 0) hSw
      have k2 := cell_of_row _ _ 2 _ 46 (0, 0) hSw
      simp at k1 k2
      go_simp
      all_goals (with_reducible rfl)
    try simp only [Act.put, List.setIfInBounds_toArray, List.set_cons_zero, List.set_cons_succ]
    refine wpAnyH_take (i := 3) (oi := ⟨some 16, _, _, _, _, _⟩) (v := ?_) rfl (by kernel_rfl) (by kernel_rfl) (by kernel_rfl) (fun _ _ _ h => h) (Or.inl ⟨by rfl, ?_⟩) (by assumption) ?_
    rotate_left
    · intro w hSw
      (try dsimp only at hSw)
      go_simp
      all_goals (with_reducible rfl)
    try simp only [Act.put, List.setIfInBounds_toArray, List.set_cons_zero, List.set_cons_succ]
    refine wpAnyH_take (i := 4) (oi := ⟨some 17, _, _, _, _, _⟩) (v := ?_) rfl (by kernel_rfl) (by kernel_rfl) (by kernel_rfl) (fun _ _ _ h => h) (Or.inl ⟨by rfl, ?_⟩) (by assumption) ?_
    rotate_left
    · intro w hSw
      have k1 := cell_of_row _ _ 1 _ 46 (0, 0) hSw
      have k2 := cell_of_row _ _ 2 _ 46 (0, 0) hSw
      simp at k1 k2
      go_simp
      all_goals (with_reducible rfl)
    try simp only [Act.put, List.setIfInBounds_toArray, List.set_cons_zero, List.set_cons_succ]
    refine wpAnyH_take (i := 5) (oi := ⟨some 18, _, _, _, _, _⟩) (v := ?_) rfl (by kernel_rfl) (by kernel_rfl) (by kernel_rfl) (fun _ _ _ h => h) (Or.inl ⟨by rfl, ?_⟩) (by assumption) ?_
    rotate_left
    · intro w hSw
      (try dsimp only at hSw)
      go_simp
      all_goals (with_reducible rfl)
    try simp only [Act.put, List.setIfInBounds_toArray, List.set_cons_zero, List.set_cons_succ]
    refine wpAnyH_ready (rs := [6]) (by kernel_rfl) (by simp) (AllReadyH.cons (o := ⟨some 19, _, _, _, _, _⟩) rfl (fun K hK => ?_) AllReadyH.nil)
    go_simp
    refine (pick_is _ (by decide) (by decide)).mono ?_
    rintro _ _ ⟨rfl, rfl⟩
    refine hK.out _ _ (HD.out.2.2.2.1) (fun hHeld => ?_)
    clear hK K
    try simp only [Act.put, List.setIfInBounds_toArray, List.set_cons_zero, List.set_cons_succ]
    refine wpAnyH_take (i := 7) (oi := ⟨some 20, _, _, _, _, _⟩) (v := ?_) rfl (by kernel_rfl) (by kernel_rfl) (by kernel_rfl) (fun _ _ _ h => h) (Or.inl ⟨by rfl, ?_⟩) (by assumption) ?_
    rotate_left
    · intro w hSw
      (try dsimp only at hSw)
      go_simp
      all_goals (with_reducible rfl)
    try simp only [Act.put, List.setIfInBounds_toArray, List.set_cons_zero, List.set_cons_succ]
    refine wpAnyH_ready (rs := [8]) (by kernel_rfl) (by simp) (AllReadyH.cons (o := ⟨some 21, _, _, _, _, _⟩) rfl (fun K hK => ?_) AllReadyH.nil)
    go_simp
    refine (ck_set _ (HD.out.1.drewN 1) (i := id) HD.out.2.1.id.1 HD.out.2.1.id.2 (1 + dt.tmod 1000 % 20) rfl rfl).mono ?_
    rintro _ w2 hP
    obtain ⟨he, a2, hC, hb2, hk2⟩ := hP
    subst he
    have H2 := Lib.hid (And.intro hC (And.intro hb2 hk2))
    clear hC hb2 hk2
    refine hK.out _ _ (H2.out.2.2.cells _ _ _ _ HD.out.2.2.2.1 (by decide) (by decide)) (fun hHeld => ?_)
    clear hK K
    try simp only [Act.put, List.setIfInBounds_toArray, List.set_cons_zero, List.set_cons_succ]
    refine wpAnyH_done (by kernel_rfl) ?_ _
    go_wp2
    go_end0
    exact CkP.pre HD.out.2.2.2.2 HD.out.2.2.1 (w1 := w1) ⟨rfl, a2, H2.out.1, (⟨rfl, rfl, rfl, Nat.le_refl _, fun _ _ => rfl⟩ : Below B w1 w1.drew).trans H2.out.2.1, (Kp.of_below g c a (⟨rfl, rfl, rfl, Nat.le_refl _, fun _ _ => rfl⟩ : Below w1.heap.size w1 w1.drew)).trans H2.out.2.2⟩
  · by_cases hk5 : kd = 5
    · have e : S.does ⟨kd, id, dt⟩ = S.unset id := by unfold CS.does; rw [if_neg hk, if_pos hk5]
      rw [e]
      subst hk5
      clear h h1 ho hB1 hx hk e
      go_enter Try.func28, Try.ntmps28
      go_wp2_with fail
      (try rw [hw1]); (try rw [hb])
      refine (ck_unset _ HD.out.1 HD.out.2.1.id.1 HD.out.2.1.id.2 rfl rfl).mono ?_
      rintro _ w2 ⟨rfl, a2, hC, hb2, hk2⟩
      have H2 := Lib.hid (And.intro hC (And.intro hb2 hk2))
      clear hC hb2 hk2
      go_wp2
      go_end0
      exact CkP.pre HD.out.2.2.2.2 HD.out.2.2.1 (w1 := w1) ⟨rfl, a2, H2.out⟩
    · have e : S.does ⟨kd, id, dt⟩ = S := by unfold CS.does; rw [if_neg hk, if_neg hk5]
      rw [e]
      have hk5' : (kd == 5) = false := by simpa using hk5
      clear hk5
      by_cases hk1 : (1 : Int) ≤ kd
      · have hk4 : ¬ kd ≤ 4 := fun h => hk ⟨hk1, h⟩
        have hk4' : decide (kd ≤ 4) = false := by simpa using hk4
        clear h h1 ho hB1 hx hk e hk4
        go_enter Try.func28, Try.ntmps28
        go_wp2
        go_end0
        exact CkP.pre HD.out.2.2.2.2 HD.out.2.2.1 (w1 := w1) ⟨rfl, a, HD.out.1, Below.refl _ _, Kp.of_below g c a (Below.refl _ _)⟩
      · have hk1' : decide ((1 : Int) ≤ kd) = false := by simpa using hk1
        clear h h1 ho hB1 hx hk e hk1
        go_enter Try.func28, Try.ntmps28
        go_wp2
        go_end0
        exact CkP.pre HD.out.2.2.2.2 HD.out.2.2.1 (w1 := w1) ⟨rfl, a, HD.out.1, Below.refl _ _, Kp.of_below g c a (Below.refl _ _)⟩
end
end Go.Proofs.Ytncjbohpaanpaaa
