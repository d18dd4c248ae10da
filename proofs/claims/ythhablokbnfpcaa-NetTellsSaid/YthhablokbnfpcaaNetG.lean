/- Take. -/
import Derived.Test.YthhablokbnfpcaaNetF
import Derived.Deep.RegionHeld
namespace Go.Proofs.Ythhablokbnfpcaa
open Go.RowKit Go.Coop Go.Maps
set_option maxRecDepth 100000
/-- what Take leaves -/
def TakeD (w : World) (B g : Nat) (A : Option Addr) (c : Nat) (S' : NS) (d : Dt) (e : Ending) (w' : World) : Prop :=
  ∃ X cx, e = .returned (.tuple #[DV d.fr d.to X d.b.length cx, .bool true]) ∧ Nw w' w.heap.size X d.b ∧ But (Nb g A c) w w' ∧ ∃ A' cap', NetAt w' B g A' cap' c S' ∧ (A'.map (·.block) = A.map (·.block) ∨ ∃ k, w.heap.size ≤ k ∧ A'.map (·.block) = some k)
theorem three {w : World} {b : Nat} {x0 x1 x2 : Value} {T : TypeId} (h : w.heap[b]? = some (.cells #[x0, x1, x2] T (0, 0))) : (w.cell? ⟨b, 0, none⟩ = some x0 ∧ w.cell? ⟨b, 1, none⟩ = some x1 ∧ w.cell? ⟨b, 2, none⟩ = some x2) ∧ w.frozen? ⟨b, 0, none⟩ = false ∧ w.frozen? ⟨b, 1, none⟩ = false ∧ w.frozen? ⟨b, 2, none⟩ = false :=
  ⟨⟨cell_of_row _ b 0 _ T (0, 0) h, cell_of_row _ b 1 _ T (0, 0) h, cell_of_row _ b 2 _ T (0, 0) h⟩, frozen_of_row w b 0 _ T h, frozen_of_row w b 1 _ T h, frozen_of_row w b 2 _ T h⟩
theorem NetAt.nb34 {w : World} {B g cap c : Nat} {A : Option Addr} {S : NS} (h : NetAt w B g A cap c S) {k : Nat} {cs : Array Value} {T : TypeId} {fr : Nat × Nat} (hk : w.heap[k]? = some (.cells cs T fr)) (h1 : T ≠ 59) (h2 : T ≠ 80) : k ∉ Nb g A c := by
  obtain ⟨D, hr, _⟩ := h.raw
  rw [mem_nb]
  rintro (e | e | e)
  · subst e
    have := hk.symm.trans hr.blk
    injection this with e
    injection e with _ e _
    exact h1 e
  · subst e
    obtain ⟨es, clock, hm, _⟩ := hr.map
    have := hk.symm.trans hm
    injection this with e
    cases e
  · obtain ⟨cur, hc⟩ := cells80 hr.row e
    have := hk.symm.trans hc
    injection this with e
    injection e with _ e _
    exact h2 e
theorem load34d {w : World} {b : Nat} {a0 a1 a2 : Value} (h : w.heap[b]? = some (.cells #[a0, a1, a2] 34 (0, 0))) : (loadVar 34 ⟨b, 0, none⟩).run Try.prog w.drew = .ok (.agg #[a0, a1, a2]) w.drew := load34 (w := w.drew) h
theorem setCell_other3 {w : World} {b k : Nat} {o : Option Obj} {v0 v1 v2 : Value} (hne : k ≠ b) (h : w.heap[k]? = o) : (((w.setCell ⟨b, 0, none⟩ v0).setCell ⟨b, 1, none⟩ v1).setCell ⟨b, 2, none⟩ v2).heap[k]? = o := by
  rw [Below.heap_setCell _ _ _ _ hne, Below.heap_setCell _ _ _ _ hne, Below.heap_setCell _ _ _ _ hne]
  exact h
section
variable (w : World) {B g c cap : Nat} {A : Option Addr} {S : NS}
set_option maxHeartbeats 1000000 in
theorem take_no {p : Option Addr} {i : Int} (hlook : ∀ w1, Below w.heap.size w w1 → Calls Try.prog 17 #[.pointer p, .int .i64 i] w1 (LookN w1)) : Calls Try.prog 16 #[.pointer p, .int .i64 i] w (LookN w) := by
  obtain ⟨w1, hw1⟩ : ∃ w1, w.alloc (.cells #[.int .i64 0, .int .i64 0, .slice none 0 0] 34) = w1 := ⟨_, rfl⟩
  have hx : w1.heap[w.heap.size]? = some (.cells #[.int .i64 0, .int .i64 0, .slice none 0 0] 34 (0, 0)) := hw1 ▸ heap_alloc_new w _
  have hB1 : Below w.heap.size w w1 := hw1 ▸ (Below.refl _ w).alloc (Nat.le_refl _) _
  have hlt : w.heap.size < w1.heap.size := by rw [← hw1]; simp
  have HL := Lib.hid (hlook w1 hB1)
  have HX := Lib.hid (And.intro hx (And.intro hB1 hlt))
  clear hlook hx hB1 hlt
  go_enter Try.func16, Try.ntmps16
  go_wp2_with fail
  refine HL.out.mono ?_
  rintro e w2 ⟨rfl, hB2⟩
  obtain ⟨w3, hw3⟩ : ∃ w3, w2.alloc (.cells #[.int .i64 0, .int .i64 0, .slice none 0 0] 34) = w3 := ⟨_, rfl⟩
  have hy : w3.heap[w2.heap.size]? = some (.cells #[.int .i64 0, .int .i64 0, .slice none 0 0] 34 (0, 0)) := hw3 ▸ heap_alloc_new w2 _
  have hB3 : Below w2.heap.size w2 w3 := hw3 ▸ (Below.refl _ w2).alloc (Nat.le_refl _) _
  have hx2 := (hB2.block _ HX.out.2.2).trans HX.out.1
  have hx3 : w3.heap[w.heap.size]? = some (.cells #[.int .i64 0, .int .i64 0, .slice none 0 0] 34 (0, 0)) := (hB3.block _ (by have := HX.out.2.2; have := hB2.size; omega)).trans hx2
  have hne : w2.heap.size ≠ w.heap.size := by have := HX.out.2.2; have := hB2.size; omega
  have HQ := Lib.hid (And.intro hx3 (And.intro (HX.out.2.1.trans ((hB2.mono (by have := HX.out.2.2; omega)).trans (hB3.mono (by have := HX.out.2.2; have := hB2.size; omega)))) hne))
  have HW3 := Lib.hid (And.intro hw3 hy)
  clear hy hB3 hx2 hx3 hB2 hw3 hne
  go_wp2
  rw [HW3.out.1]
  refine wp_region_held_drew (S := fun v => v.heap[w2.heap.size]? = some (.cells #[.int .i64 0, .int .i64 0, .slice none 0 0] 34 (0, 0))) (by kernel_rfl) (HW3.out.2) (fun hHeld => ?_)
  refine wpAnyH_take (i := 0) (oi := ⟨some 14, _, _, _, _, _⟩) (v := ?_) rfl (by kernel_rfl) (by kernel_rfl) (by kernel_rfl) (fun _ _ _ h => h) (Or.inl ⟨by rfl, ?_⟩) (by assumption) ?_
  rotate_left
  · intro w hSw
    obtain ⟨⟨k0, k1, k2⟩, _, _, _⟩ := three hSw
    go_simp
    all_goals (with_reducible rfl)
  try simp only [Act.put, List.setIfInBounds_toArray, List.set_cons_zero, List.set_cons_succ]
  refine wpAnyH_take (i := 1) (oi := ⟨some 15, _, _, _, _, _⟩) (v := ?_) rfl (by kernel_rfl) (by kernel_rfl) (by kernel_rfl) (fun _ _ _ h => h) (Or.inl ⟨by rfl, ?_⟩) (by assumption) ?_
  rotate_left
  · intro w hSw
    (try dsimp only at hSw)
    go_simp
    all_goals (with_reducible rfl)
  try simp only [Act.put, List.setIfInBounds_toArray, List.set_cons_zero, List.set_cons_succ]
  refine wpAnyH_take (i := 2) (oi := ⟨some 16, _, _, _, _, _⟩) (v := ?_) rfl (by kernel_rfl) (by kernel_rfl) (by kernel_rfl) (fun _ _ _ h => h) (Or.inl ⟨by rfl, ?_⟩) (by assumption) ?_
  rotate_left
  · intro w hSw
    (try dsimp only at hSw)
    go_simp
    all_goals (with_reducible rfl)
  try simp only [Act.put, List.setIfInBounds_toArray, List.set_cons_zero, List.set_cons_succ]
  refine wpAnyH_take (i := 3) (oi := ⟨some 17, _, _, _, _, _⟩) (v := undef) rfl (by kernel_rfl) (by kernel_rfl) (by kernel_rfl) (fun _ _ _ h => h) (Or.inr ⟨by rfl, rfl⟩) (by assumption) ?_
  try simp only [Act.put, List.setIfInBounds_toArray, List.set_cons_zero, List.set_cons_succ]
  refine wpAnyH_take (i := 4) (oi := ⟨some 18, _, _, _, _, _⟩) (v := undef) rfl (by kernel_rfl) (by kernel_rfl) (by kernel_rfl) (fun _ _ _ h => h) (Or.inr ⟨by rfl, rfl⟩) (by assumption) ?_
  try simp only [Act.put, List.setIfInBounds_toArray, List.set_cons_zero, List.set_cons_succ]
  refine wpAnyH_take (i := 5) (oi := ⟨some 19, _, _, _, _, _⟩) (v := undef) rfl (by kernel_rfl) (by kernel_rfl) (by kernel_rfl) (fun _ _ _ h => h) (Or.inr ⟨by rfl, rfl⟩) (by assumption) ?_
  try simp only [Act.put, List.setIfInBounds_toArray, List.set_cons_zero, List.set_cons_succ]
  refine wpAnyH_take (i := 6) (oi := ⟨some 20, _, _, _, _, _⟩) (v := ?_) rfl (by kernel_rfl) (by kernel_rfl) (by kernel_rfl) (fun _ _ _ h => h) (Or.inl ⟨by rfl, ?_⟩) (by assumption) ?_
  rotate_left
  · intro w hSw
    (try dsimp only at hSw)
    go_simp
    all_goals (with_reducible rfl)
  try simp only [Act.put, List.setIfInBounds_toArray, List.set_cons_zero, List.set_cons_succ]
  have hx3 : w3.heap[w.heap.size]? = some (.cells #[.int .i64 0, .int .i64 0, .slice none 0 0] 34 (0, 0)) := HQ.out.1
  obtain ⟨⟨b0, b1, b2⟩, f0, f1, f2⟩ := three (hx3)
  refine wpAnyH_ready (rs := [7]) (by kernel_rfl) (by simp) (AllReadyH.cons (o := ⟨none, _, _, _, _, _⟩) rfl (fun K hK => ?_) AllReadyH.nil)
  go_simp
  refine hK.out _ _ ((by exact setCell_other3 HQ.out.2.2 HW3.out.2)) (fun hHeld => ?_)
  clear hK K
  try simp only [Act.put, List.setIfInBounds_toArray, List.set_cons_zero, List.set_cons_succ]
  refine wpAnyH_take (i := 8) (oi := ⟨some 5, _, _, _, _, _⟩) (v := ?_) rfl (by kernel_rfl) (by kernel_rfl) (by kernel_rfl) (fun _ _ _ h => h) (Or.inl ⟨by rfl, ?_⟩) (by assumption) ?_
  rotate_left
  · intro w hSw
    (try dsimp only at hSw)
    go_simp
    all_goals (with_reducible rfl)
  try simp only [Act.put, List.setIfInBounds_toArray, List.set_cons_zero, List.set_cons_succ]
  refine wpAnyH_done (by kernel_rfl) ?_ _
  clear hx3 b0 b1 b2 f0 f1 f2 hHeld
  go_wp2
  refine bodyPost_ret (v := .tuple #[DV 0 0 none 0 0, .bool false]) ?_ rfl ⟨rfl, ?_⟩
  · rw [results_cell_tmp rfl]
    have hx3 : w3.heap[w.heap.size]? = some (.cells #[.int .i64 0, .int .i64 0, .slice none 0 0] 34 (0, 0)) := HQ.out.1
    simp [asAddr, Result.andThen, load34d (row3 hx3)]
  · exact ((((HQ.out.2.1).setCell (by simp) _).setCell (by simp) _).setCell (by simp) _).drew
set_option maxHeartbeats 1000000 in
theorem take_is (h : NetAt w B g A cap c S) {i : Nat} {d : Dt} (hd : S.heap[i]? = some d) : Calls Try.prog 16 #[.pointer (some ⟨g, 0, none⟩), .int .i64 (i : Int)] w (TakeD w B g A c (S.without i) d) := by
  obtain ⟨w1, hw1⟩ : ∃ w1, w.alloc (.cells #[.int .i64 0, .int .i64 0, .slice none 0 0] 34) = w1 := ⟨_, rfl⟩
  have hx : w1.heap[w.heap.size]? = some (.cells #[.int .i64 0, .int .i64 0, .slice none 0 0] 34 (0, 0)) := hw1 ▸ heap_alloc_new w _
  have hB1 : Below w.heap.size w w1 := hw1 ▸ (Below.refl _ w).alloc (Nat.le_refl _) _
  have hlt : w.heap.size < w1.heap.size := by rw [← hw1]; simp
  have h1 := h.below hB1
  have HL := Lib.hid (And.intro (look_is w1 h1 hd) (And.intro h1 hd))
  have HX := Lib.hid (And.intro hx (And.intro hB1 hlt))
  clear h h1 hd hx hB1 hlt
  go_enter Try.func16, Try.ntmps16
  go_wp2_with fail
  refine HL.out.1.mono ?_
  rintro e w2 ⟨X, cx, rfl, hNw, hB2⟩
  obtain ⟨w3, hw3⟩ : ∃ w3, w2.alloc (.cells #[.int .i64 (d.fr : Int), .int .i64 (d.to : Int), .slice X d.b.length cx] 34) = w3 := ⟨_, rfl⟩
  have hy : w3.heap[w2.heap.size]? = some (.cells #[.int .i64 (d.fr : Int), .int .i64 (d.to : Int), .slice X d.b.length cx] 34 (0, 0)) := hw3 ▸ heap_alloc_new w2 _
  have hB3 : Below w2.heap.size w2 w3 := hw3 ▸ (Below.refl _ w2).alloc (Nat.le_refl _) _
  have hx2 := (hB2.block _ HX.out.2.2).trans HX.out.1
  have hx3 : w3.heap[w.heap.size]? = some (.cells #[.int .i64 0, .int .i64 0, .slice none 0 0] 34 (0, 0)) := (hB3.block _ (by have := HX.out.2.2; have := hB2.size; omega)).trans hx2
  have hne : w2.heap.size ≠ w.heap.size := by have := HX.out.2.2; have := hB2.size; omega
  have HQ := Lib.hid (And.intro hx3 (And.intro (HX.out.2.1.trans ((hB2.mono (by have := HX.out.2.2; omega)).trans (hB3.mono (by have := HX.out.2.2; have := hB2.size; omega)))) (And.intro hne (And.intro ((HL.out.2.1.below hB2).below hB3).drew ((hNw.below hB3).lower (lo' := w.heap.size) (by have := HX.out.2.2; omega))))))
  have HW3 := Lib.hid (And.intro hw3 hy)
  clear hy hB3 hx2 hx3 hB2 hw3 hne hNw
  go_wp2
  rw [HW3.out.1]
  refine wp_region_held_drew (S := fun v => v.heap[w2.heap.size]? = some (.cells #[.int .i64 (d.fr : Int), .int .i64 (d.to : Int), .slice X d.b.length cx] 34 (0, 0))) (by kernel_rfl) (HW3.out.2) (fun hHeld => ?_)
  refine wpAnyH_take (i := 0) (oi := ⟨some 14, _, _, _, _, _⟩) (v := ?_) rfl (by kernel_rfl) (by kernel_rfl) (by kernel_rfl) (fun _ _ _ h => h) (Or.inl ⟨by rfl, ?_⟩) (by assumption) ?_
  rotate_left
  · intro w hSw
    obtain ⟨⟨k0, k1, k2⟩, _, _, _⟩ := three hSw
    go_simp
    all_goals (with_reducible rfl)
  try simp only [Act.put, List.setIfInBounds_toArray, List.set_cons_zero, List.set_cons_succ]
  refine wpAnyH_take (i := 1) (oi := ⟨some 15, _, _, _, _, _⟩) (v := ?_) rfl (by kernel_rfl) (by kernel_rfl) (by kernel_rfl) (fun _ _ _ h => h) (Or.inl ⟨by rfl, ?_⟩) (by assumption) ?_
  rotate_left
  · intro w hSw
    (try dsimp only at hSw)
    go_simp
    all_goals (with_reducible rfl)
  try simp only [Act.put, List.setIfInBounds_toArray, List.set_cons_zero, List.set_cons_succ]
  refine wpAnyH_take (i := 2) (oi := ⟨some 16, _, _, _, _, _⟩) (v := ?_) rfl (by kernel_rfl) (by kernel_rfl) (by kernel_rfl) (fun _ _ _ h => h) (Or.inl ⟨by rfl, ?_⟩) (by assumption) ?_
  rotate_left
  · intro w hSw
    (try dsimp only at hSw)
    go_simp
    all_goals (with_reducible rfl)
  try simp only [Act.put, List.setIfInBounds_toArray, List.set_cons_zero, List.set_cons_succ]
  refine wpAnyH_take (i := 3) (oi := ⟨some 17, _, _, _, _, _⟩) (v := ?_) rfl (by kernel_rfl) (by kernel_rfl) (by kernel_rfl) (fun _ _ _ h => h) (Or.inl ⟨by rfl, ?_⟩) (by assumption) ?_
  rotate_left
  · intro w hSw
    (try dsimp only at hSw)
    go_simp
    all_goals (with_reducible rfl)
  try simp only [Act.put, List.setIfInBounds_toArray, List.set_cons_zero, List.set_cons_succ]
  refine wpAnyH_take (i := 4) (oi := ⟨some 18, _, _, _, _, _⟩) (v := ?_) rfl (by kernel_rfl) (by kernel_rfl) (by kernel_rfl) (fun _ _ _ h => h) (Or.inl ⟨by rfl, ?_⟩) (by assumption) ?_
  rotate_left
  · intro w hSw
    (try dsimp only at hSw)
    go_simp
    all_goals (with_reducible rfl)
  try simp only [Act.put, List.setIfInBounds_toArray, List.set_cons_zero, List.set_cons_succ]
  refine wpAnyH_ready (rs := [5]) (by kernel_rfl) (by simp) (AllReadyH.cons (o := ⟨some 19, _, _, _, _, _⟩) rfl (fun K hK => ?_) AllReadyH.nil)
  go_simp
  refine (drop_is _ HQ.out.2.2.2.1 HL.out.2.2).mono ?_
  rintro e w4 ⟨rfl, hbt, A', cap', hN4, hA4⟩
  have hy4 := hbt.cells HW3.out.2 (HQ.out.2.2.2.1.nb34 HW3.out.2 (by decide) (by decide))
  have hx4 := hbt.cells HQ.out.1 (HQ.out.2.2.2.1.nb34 HQ.out.1 (by decide) (by decide))
  have hNw4 := (HQ.out.2.2.2.2.below (w' := w3.drew) ⟨rfl, rfl, rfl, Nat.le_refl _, fun _ _ => rfl⟩).but hbt (fun k hk cur fr e => HQ.out.2.2.2.1.nb34 e (by decide) (by decide) hk)
  have H4 := Lib.hid (And.intro hy4 (And.intro hx4 (And.intro hNw4 (And.intro hbt (And.intro hN4 hA4)))))
  clear hbt hN4 hA4 hy4 hx4 hNw4
  refine hK.out _ _ (H4.out.1) (fun hHeld => ?_)
  clear hK K
  try simp only [Act.put, List.setIfInBounds_toArray, List.set_cons_zero, List.set_cons_succ]
  refine wpAnyH_take (i := 6) (oi := ⟨some 20, _, _, _, _, _⟩) (v := ?_) rfl (by kernel_rfl) (by kernel_rfl) (by kernel_rfl) (fun _ _ _ h => h) (Or.inl ⟨by rfl, ?_⟩) (by assumption) ?_
  rotate_left
  · intro w hSw
    (try dsimp only at hSw)
    go_simp
    all_goals (with_reducible rfl)
  try simp only [Act.put, List.setIfInBounds_toArray, List.set_cons_zero, List.set_cons_succ]
  have hx4 := H4.out.2.1
  obtain ⟨⟨b0, b1, b2⟩, f0, f1, f2⟩ := three (hx4)
  refine wpAnyH_ready (rs := [7]) (by kernel_rfl) (by simp) (AllReadyH.cons (o := ⟨none, _, _, _, _, _⟩) rfl (fun K hK => ?_) AllReadyH.nil)
  go_simp
  refine hK.out _ _ ((setCell_other3 HQ.out.2.2.1 H4.out.1)) (fun hHeld => ?_)
  clear hK K
  try simp only [Act.put, List.setIfInBounds_toArray, List.set_cons_zero, List.set_cons_succ]
  refine wpAnyH_take (i := 8) (oi := ⟨some 5, _, _, _, _, _⟩) (v := ?_) rfl (by kernel_rfl) (by kernel_rfl) (by kernel_rfl) (fun _ _ _ h => h) (Or.inl ⟨by rfl, ?_⟩) (by assumption) ?_
  rotate_left
  · intro w hSw
    (try dsimp only at hSw)
    go_simp
    all_goals (with_reducible rfl)
  try simp only [Act.put, List.setIfInBounds_toArray, List.set_cons_zero, List.set_cons_succ]
  refine wpAnyH_done (by kernel_rfl) ?_ _
  clear hx4 b0 b1 b2 f0 f1 f2 hHeld
  go_wp2
  have hbs : But [w.heap.size] w4 (((w4.setCell ⟨w.heap.size, 0, none⟩ (.int .i64 (d.fr : Int))).setCell ⟨w.heap.size, 1, none⟩ (.int .i64 (d.to : Int))).setCell ⟨w.heap.size, 2, none⟩ (.slice X d.b.length cx)) := (((But.refl _ _).setCell (by simp) _).setCell (by simp) _).setCell (by simp) _
  refine bodyPost_ret (v := .tuple #[DV d.fr d.to X d.b.length cx, .bool true]) ?_ rfl ⟨X, cx, rfl, ?_, ?_, A', cap', ?_, ?_⟩
  · rw [results_cell_tmp rfl]
    simp [asAddr, Result.andThen, load34 (row3 H4.out.2.1)]
  · refine H4.out.2.2.1.but hbs (fun k hk cur fr => ?_)
    simp at hk
    subst hk
    rw [H4.out.2.1]
    intro e
    injection e with e
    injection e with _ e _
    cases e
  · refine ((But.of_below HQ.out.2.1).drew.trans H4.out.2.2.2.1).trans' (hs := [w.heap.size]) hbs (fun k hk => ?_)
    simp at hk
    subst hk
    exact .inr (Nat.le_refl _)
  · refine H4.out.2.2.2.2.1.but hbs (fun k hk hm => ?_)
    simp at hm
    subst hm
    exact H4.out.2.2.2.2.1.nb34 H4.out.2.1 (by decide) (by decide) hk
  · refine H4.out.2.2.2.2.2.imp id (fun ⟨k, hk, e⟩ => ⟨k, ?_, e⟩)
    have := HQ.out.2.1.size
    exact Nat.le_trans this hk
end
end Go.Proofs.Ythhablokbnfpcaa
