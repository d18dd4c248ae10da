/- The reference's write. -/
import Derived.Test.YthhablokbnfpcaaRfC
namespace Go.Proofs.Ythhablokbnfpcaa
open Go.RowKit Go.Coop Go.Maps
set_option maxRecDepth 100000
theorem info87z : (Try.prog.info? 87).map (fun i => (i.zero, i.size, i.bytes)) = some (some (.agg #[.int .i64 0, .int .i64 0, .slice none 0 0, .bool false]), 4, 48) := by kernel_rfl
theorem boxes3 {w w3 : World} {b2 b3 b4 : Nat} {X Y Z : Array Value} {T U V : TypeId} (h2 : w.heap.size = b2) (h3 : b2 + 1 = b3) (h4 : b3 + 1 = b4) (hw : ((w.alloc (.cells X T)).alloc (.cells Y U)).alloc (.cells Z V) = w3) :
    Below w.heap.size w w3 ∧ w3.heap[b2]? = some (.cells X T (0, 0)) ∧ w3.heap[b3]? = some (.cells Y U (0, 0)) ∧ w3.heap[b4]? = some (.cells Z V (0, 0)) ∧ b2 = w.heap.size ∧ b3 = b2 + 1 ∧ b4 = b3 + 1 := by
  subst h2 h3 h4 hw
  have s1 : (w.alloc (.cells X T)).heap.size = w.heap.size + 1 := by simp
  have s2 : ((w.alloc (.cells X T)).alloc (.cells Y U)).heap.size = w.heap.size + 1 + 1 := by simp
  refine ⟨(below_two _ _ _).alloc (by simp; omega) _, ?_, ?_, ?_, rfl, rfl, rfl⟩
  · exact (Below.heap_alloc _ _ _ (by simp; omega)).trans ((Below.heap_alloc _ _ _ (by simp)).trans (heap_alloc_new w _))
  · exact (Below.heap_alloc _ _ _ (by simp)).trans (heap_second w _ _)
  · have := heap_second (w.alloc (.cells X T)) (.cells Y U) (.cells Z V)
    rwa [s1] at this
section
variable (w : World) {lo n c ends most f t lx cx q z : Nat} {A X : Option Addr} {L : List EV} {l : List UInt8}
theorem rwrite_fullA (h : Bk w lo A n c L) (hr : Rd w X lx l) (hq : forL (live L) (t : Int) = q) (hz : (live L).length = z) (he : ends ≤ 300) (hin : ∀ d ∈ live L, d.to < ends) (hF : most ≤ q) : Calls Try.prog 46 #[.agg #[.int .i64 (ends : Int), .int .i64 (most : Int), .slice A n c], DV (f : Int) (t : Int) X lx cx] w fun e w' => e = .returned (.tuple #[.agg #[.int .i64 (ends : Int), .int .i64 (most : Int), .slice A n c], .int .i64 5]) ∧ Below w.heap.size w w' := by
  have hF1 : (most : Int) ≤ (q : Int) := by omega
  clear hF
  have HA := Lib.hid (And.intro h (And.intro hr (And.intro hq (And.intro hz (And.intro he hin)))))
  clear h hr hq hz he hin
  go_enter Try.func46, Try.ntmps46
  go_wp2_with fail
  obtain ⟨b2, hb2⟩ : ∃ b, w.heap.size = b := ⟨_, rfl⟩
  obtain ⟨b3, hb3⟩ : ∃ b, b2 + 1 = b := ⟨_, rfl⟩
  obtain ⟨b4, hb4⟩ : ∃ b, b3 + 1 = b := ⟨_, rfl⟩
  obtain ⟨w3, hw3⟩ : ∃ v, ((w.alloc (.cells #[.int .i64 (ends : Int), .int .i64 (most : Int), .slice A n c] 42)).alloc (.cells #[.int .i64 (f : Int), .int .i64 (t : Int), .slice X lx cx] 34)).alloc (.cells #[.int .i64 0, .int .i64 0, .slice none 0 0] 42) = v := ⟨_, rfl⟩
  have HB := Lib.hid (boxes3 hb2 hb3 hb4 hw3)
  rw [hw3, hb2, hb3, hb4]
  clear hw3 hb2 hb3 hb4
  refine wp_region_held_drew (S := fun v => Below w3.heap.size w3 v) (by kernel_rfl) ((Below.refl w3.heap.size w3).drew) (fun hHeld => ?_)
  refine wpAnyH_take (i := 0) (oi := ⟨some 8, _, _, _, _, _⟩) (v := ?_) rfl (by kernel_rfl) (by kernel_rfl) (by kernel_rfl) (fun _ _ _ h => h) (Or.inl ⟨by rfl, ?_⟩) (by assumption) ?_
  rotate_left
  · intro w hSw
    obtain ⟨⟨c0, c1, c2⟩, _, _, _⟩ := three (rowk2 hSw HB.out.2.1)
    go_simp
    all_goals (with_reducible rfl)
  try simp only [Act.put, List.setIfInBounds_toArray, List.set_cons_zero, List.set_cons_succ]
  refine wpAnyH_take (i := 1) (oi := ⟨some 9, _, _, _, _, _⟩) (v := ?_) rfl (by kernel_rfl) (by kernel_rfl) (by kernel_rfl) (fun _ _ _ h => h) (Or.inl ⟨by rfl, ?_⟩) (by assumption) ?_
  rotate_left
  · intro w hSw
    (try dsimp only at hSw)
    go_simp
    all_goals (with_reducible rfl)
  try simp only [Act.put, List.setIfInBounds_toArray, List.set_cons_zero, List.set_cons_succ]
  refine wpAnyH_take (i := 2) (oi := ⟨some 10, _, _, _, _, _⟩) (v := ?_) rfl (by kernel_rfl) (by kernel_rfl) (by kernel_rfl) (fun _ _ _ h => h) (Or.inl ⟨by rfl, ?_⟩) (by assumption) ?_
  rotate_left
  · intro w hSw
    obtain ⟨⟨c0, c1, c2⟩, _, _, _⟩ := three (rowk2 hSw HB.out.2.2.1)
    go_simp
    all_goals (with_reducible rfl)
  try simp only [Act.put, List.setIfInBounds_toArray, List.set_cons_zero, List.set_cons_succ]
  refine wpAnyH_take (i := 4) (oi := ⟨some 12, _, _, _, _, _⟩) (v := ?_) rfl (by kernel_rfl) (by kernel_rfl) (by kernel_rfl) (fun _ _ _ h => h) (Or.inl ⟨by rfl, ?_⟩) (by assumption) ?_
  rotate_left
  · intro w hSw
    (try dsimp only at hSw)
    go_simp
    all_goals (with_reducible rfl)
  try simp only [Act.put, List.setIfInBounds_toArray, List.set_cons_zero, List.set_cons_succ]
  refine wpAnyH_take (i := 5) (oi := ⟨some 13, _, _, _, _, _⟩) (v := ?_) rfl (by kernel_rfl) (by kernel_rfl) (by kernel_rfl) (fun _ _ _ h => h) (Or.inl ⟨by rfl, ?_⟩) (by assumption) ?_
  rotate_left
  · intro w hSw
    obtain ⟨⟨c0, c1, c2⟩, _, _, _⟩ := three (rowk2 hSw HB.out.2.1)
    go_simp
    all_goals (with_reducible rfl)
  try simp only [Act.put, List.setIfInBounds_toArray, List.set_cons_zero, List.set_cons_succ]
  have hH1 := hHeld
  refine wpAnyH_ready (rs := [3]) (by kernel_rfl) (by simp) (AllReadyH.cons (o := ⟨some 11, _, _, _, _, _⟩) rfl (fun K hK => ?_) AllReadyH.nil)
  go_simp
  refine (rwaiting_is _ (HA.out.1.below (HB.out.1.trans (hH1.mono HB.out.1.size))) (ends : Int) (most : Int) (t : Int) (q := (q : Int)) (by rw [HA.out.2.2.1])).mono ?_
  rintro e x1 ⟨rfl, hx1⟩
  refine hK.out _ _ (hH1.trans (hx1.mono hH1.size)) (fun hHeld => ?_)
  clear hK K
  try simp only [Act.put, List.setIfInBounds_toArray, List.set_cons_zero, List.set_cons_succ]
  have HX1 := Lib.hid (hH1.trans (hx1.mono hH1.size))
  clear hH1 hx1
  refine wpAnyH_take (i := 6) (oi := ⟨some 14, _, _, _, _, _⟩) (v := ?_) rfl (by kernel_rfl) (by kernel_rfl) (by kernel_rfl) (fun _ _ _ h => h) (Or.inl ⟨by rfl, ?_⟩) (by assumption) ?_
  rotate_left
  · intro w hSw
    (try dsimp only at hSw)
    go_simp
    all_goals (with_reducible rfl)
  try simp only [Act.put, List.setIfInBounds_toArray, List.set_cons_zero, List.set_cons_succ]
  refine wpAnyH_take (i := 7) (oi := ⟨some 15, _, _, _, _, _⟩) (v := ?_) rfl (by kernel_rfl) (by kernel_rfl) (by kernel_rfl) (fun _ _ _ h => h) (Or.inl ⟨by rfl, ?_⟩) (by assumption) ?_
  rotate_left
  · intro w hSw
    (try dsimp only at hSw)
    go_simp
    all_goals (with_reducible rfl)
  try simp only [Act.put, List.setIfInBounds_toArray, List.set_cons_zero, List.set_cons_succ]
  refine wpAnyH_take (i := 8) (oi := ⟨some 16, _, _, _, _, _⟩) (v := undef) rfl (by kernel_rfl) (by kernel_rfl) (by kernel_rfl) (fun _ _ _ h => h) (Or.inr ⟨by rfl, rfl⟩) (by assumption) ?_
  try simp only [Act.put, List.setIfInBounds_toArray, List.set_cons_zero, List.set_cons_succ]
  refine wpAnyH_take (i := 9) (oi := ⟨some 17, _, _, _, _, _⟩) (v := undef) rfl (by kernel_rfl) (by kernel_rfl) (by kernel_rfl) (fun _ _ _ h => h) (Or.inr ⟨by rfl, rfl⟩) (by assumption) ?_
  try simp only [Act.put, List.setIfInBounds_toArray, List.set_cons_zero, List.set_cons_succ]
  refine wpAnyH_take (i := 10) (oi := ⟨some 18, _, _, _, _, _⟩) (v := undef) rfl (by kernel_rfl) (by kernel_rfl) (by kernel_rfl) (fun _ _ _ h => h) (Or.inr ⟨by rfl, rfl⟩) (by assumption) ?_
  try simp only [Act.put, List.setIfInBounds_toArray, List.set_cons_zero, List.set_cons_succ]
  refine wpAnyH_take (i := 11) (oi := ⟨some 19, _, _, _, _, _⟩) (v := ?_) rfl (by kernel_rfl) (by kernel_rfl) (by kernel_rfl) (fun _ _ _ h => h) (Or.inl ⟨by rfl, ?_⟩) (by assumption) ?_
  rotate_left
  · intro w hSw
    (try dsimp only at hSw)
    go_simp
    all_goals (with_reducible rfl)
  try simp only [Act.put, List.setIfInBounds_toArray, List.set_cons_zero, List.set_cons_succ]
  refine wpAnyH_done (by kernel_rfl) ?_ _
  obtain ⟨⟨c0, c1, c2⟩, _, _, _⟩ := three (rowk2 HX1.out HB.out.2.1)
  have g4 := rowk2 HX1.out HB.out.2.2.2.1
  obtain ⟨⟨d0, d1, d2⟩, f0, f1, f2⟩ := three g4
  have HQ := Lib.hid (And.intro g4 (HB.out.1.trans (HX1.out.mono HB.out.1.size)))
  clear g4 hHeld
  go_wp2
  have hE6 := row3 (v0 := .int .i64 (ends : Int)) (v1 := .int .i64 (most : Int)) (v2 := .slice A n c) HQ.out.1
  have hE := HQ.out.2.trans ((((But.refl [b4] _).setCell (p := ⟨b4, 0, none⟩) (by simp) (.int .i64 (ends : Int))).setCell (p := ⟨b4, 1, none⟩) (by simp) (.int .i64 (most : Int))).setCell (p := ⟨b4, 2, none⟩) (by simp) (.slice A n c) |>.below HQ.out.2.size (by have := HB.out.2.2.2.2; simp; omega))
  refine bodyPost_ret (v := .tuple #[.agg #[.int .i64 (ends : Int), .int .i64 (most : Int), .slice A n c], .int .i64 5]) ?_ rfl ⟨rfl, hE⟩
  rw [results_cell_tmp rfl]
  simp [asAddr, Result.andThen, load42 hE6 rfl]
theorem rwrite_fullB (h : Bk w lo A n c L) (hr : Rd w X lx l) (hq : forL (live L) (t : Int) = q) (hz : (live L).length = z) (he : ends ≤ 300) (hin : ∀ d ∈ live L, d.to < ends) (hN : ¬ most ≤ q) (hF : 10000 ≤ z) : Calls Try.prog 46 #[.agg #[.int .i64 (ends : Int), .int .i64 (most : Int), .slice A n c], DV (f : Int) (t : Int) X lx cx] w fun e w' => e = .returned (.tuple #[.agg #[.int .i64 (ends : Int), .int .i64 (most : Int), .slice A n c], .int .i64 5]) ∧ Below w.heap.size w w' := by
  have hFn : q < most := by omega
  have hF2 : (10000 : Int) ≤ (z : Int) := by omega
  clear hF hN
  have HA := Lib.hid (And.intro h (And.intro hr (And.intro hq (And.intro hz (And.intro he hin)))))
  clear h hr hq hz he hin
  go_enter Try.func46, Try.ntmps46
  go_wp2_with fail
  obtain ⟨b2, hb2⟩ : ∃ b, w.heap.size = b := ⟨_, rfl⟩
  obtain ⟨b3, hb3⟩ : ∃ b, b2 + 1 = b := ⟨_, rfl⟩
  obtain ⟨b4, hb4⟩ : ∃ b, b3 + 1 = b := ⟨_, rfl⟩
  obtain ⟨w3, hw3⟩ : ∃ v, ((w.alloc (.cells #[.int .i64 (ends : Int), .int .i64 (most : Int), .slice A n c] 42)).alloc (.cells #[.int .i64 (f : Int), .int .i64 (t : Int), .slice X lx cx] 34)).alloc (.cells #[.int .i64 0, .int .i64 0, .slice none 0 0] 42) = v := ⟨_, rfl⟩
  have HB := Lib.hid (boxes3 hb2 hb3 hb4 hw3)
  rw [hw3, hb2, hb3, hb4]
  clear hw3 hb2 hb3 hb4
  refine wp_region_held_drew (S := fun v => Below w3.heap.size w3 v) (by kernel_rfl) ((Below.refl w3.heap.size w3).drew) (fun hHeld => ?_)
  refine wpAnyH_take (i := 0) (oi := ⟨some 8, _, _, _, _, _⟩) (v := ?_) rfl (by kernel_rfl) (by kernel_rfl) (by kernel_rfl) (fun _ _ _ h => h) (Or.inl ⟨by rfl, ?_⟩) (by assumption) ?_
  rotate_left
  · intro w hSw
    obtain ⟨⟨c0, c1, c2⟩, _, _, _⟩ := three (rowk2 hSw HB.out.2.1)
    go_simp
    all_goals (with_reducible rfl)
  try simp only [Act.put, List.setIfInBounds_toArray, List.set_cons_zero, List.set_cons_succ]
  refine wpAnyH_take (i := 1) (oi := ⟨some 9, _, _, _, _, _⟩) (v := ?_) rfl (by kernel_rfl) (by kernel_rfl) (by kernel_rfl) (fun _ _ _ h => h) (Or.inl ⟨by rfl, ?_⟩) (by assumption) ?_
  rotate_left
  · intro w hSw
    (try dsimp only at hSw)
    go_simp
    all_goals (with_reducible rfl)
  try simp only [Act.put, List.setIfInBounds_toArray, List.set_cons_zero, List.set_cons_succ]
  refine wpAnyH_take (i := 2) (oi := ⟨some 10, _, _, _, _, _⟩) (v := ?_) rfl (by kernel_rfl) (by kernel_rfl) (by kernel_rfl) (fun _ _ _ h => h) (Or.inl ⟨by rfl, ?_⟩) (by assumption) ?_
  rotate_left
  · intro w hSw
    obtain ⟨⟨c0, c1, c2⟩, _, _, _⟩ := three (rowk2 hSw HB.out.2.2.1)
    go_simp
    all_goals (with_reducible rfl)
  try simp only [Act.put, List.setIfInBounds_toArray, List.set_cons_zero, List.set_cons_succ]
  refine wpAnyH_take (i := 4) (oi := ⟨some 12, _, _, _, _, _⟩) (v := ?_) rfl (by kernel_rfl) (by kernel_rfl) (by kernel_rfl) (fun _ _ _ h => h) (Or.inl ⟨by rfl, ?_⟩) (by assumption) ?_
  rotate_left
  · intro w hSw
    (try dsimp only at hSw)
    go_simp
    all_goals (with_reducible rfl)
  try simp only [Act.put, List.setIfInBounds_toArray, List.set_cons_zero, List.set_cons_succ]
  refine wpAnyH_take (i := 5) (oi := ⟨some 13, _, _, _, _, _⟩) (v := ?_) rfl (by kernel_rfl) (by kernel_rfl) (by kernel_rfl) (fun _ _ _ h => h) (Or.inl ⟨by rfl, ?_⟩) (by assumption) ?_
  rotate_left
  · intro w hSw
    obtain ⟨⟨c0, c1, c2⟩, _, _, _⟩ := three (rowk2 hSw HB.out.2.1)
    go_simp
    all_goals (with_reducible rfl)
  try simp only [Act.put, List.setIfInBounds_toArray, List.set_cons_zero, List.set_cons_succ]
  have hH1 := hHeld
  refine wpAnyH_ready (rs := [3]) (by kernel_rfl) (by simp) (AllReadyH.cons (o := ⟨some 11, _, _, _, _, _⟩) rfl (fun K hK => ?_) AllReadyH.nil)
  go_simp
  refine (rwaiting_is _ (HA.out.1.below (HB.out.1.trans (hH1.mono HB.out.1.size))) (ends : Int) (most : Int) (t : Int) (q := (q : Int)) (by rw [HA.out.2.2.1])).mono ?_
  rintro e x1 ⟨rfl, hx1⟩
  refine hK.out _ _ (hH1.trans (hx1.mono hH1.size)) (fun hHeld => ?_)
  clear hK K
  try simp only [Act.put, List.setIfInBounds_toArray, List.set_cons_zero, List.set_cons_succ]
  have HX1 := Lib.hid (hH1.trans (hx1.mono hH1.size))
  clear hH1 hx1
  refine wpAnyH_take (i := 6) (oi := ⟨some 14, _, _, _, _, _⟩) (v := .bool false) rfl (by kernel_rfl) (by kernel_rfl) (by kernel_rfl) (fun _ _ _ h => h) (Or.inl ⟨by rfl, ?_⟩) (by assumption) ?_
  · intro w hSw
    (try dsimp only at hSw)
    go_simp
    all_goals (first | exact hFn | omega)
  try simp only [Act.put, List.setIfInBounds_toArray, List.set_cons_zero, List.set_cons_succ]
  refine wpAnyH_take (i := 7) (oi := ⟨some 15, _, _, _, _, _⟩) (v := ?_) rfl (by kernel_rfl) (by kernel_rfl) (by kernel_rfl) (fun _ _ _ h => h) (Or.inl ⟨by rfl, ?_⟩) (by assumption) ?_
  rotate_left
  · intro w hSw
    (try dsimp only at hSw)
    go_simp
    all_goals (with_reducible rfl)
  try simp only [Act.put, List.setIfInBounds_toArray, List.set_cons_zero, List.set_cons_succ]
  refine wpAnyH_take (i := 8) (oi := ⟨some 16, _, _, _, _, _⟩) (v := ?_) rfl (by kernel_rfl) (by kernel_rfl) (by kernel_rfl) (fun _ _ _ h => h) (Or.inl ⟨by rfl, ?_⟩) (by assumption) ?_
  rotate_left
  · intro w hSw
    obtain ⟨⟨c0, c1, c2⟩, _, _, _⟩ := three (rowk2 hSw HB.out.2.1)
    go_simp
    all_goals (with_reducible rfl)
  try simp only [Act.put, List.setIfInBounds_toArray, List.set_cons_zero, List.set_cons_succ]
  have hH1 := hHeld
  refine wpAnyH_ready (rs := [9]) (by kernel_rfl) (by simp) (AllReadyH.cons (o := ⟨some 17, _, _, _, _, _⟩) rfl (fun K hK => ?_) AllReadyH.nil)
  go_simp
  refine (rflying_is _ (HA.out.1.below (HB.out.1.trans (hH1.mono HB.out.1.size))) ends (most : Int) HA.out.2.2.2.2.1 HA.out.2.2.2.2.2 (q := (z : Int)) (by rw [HA.out.2.2.2.1])).mono ?_
  rintro e x2 ⟨rfl, hx2⟩
  refine hK.out _ _ (hH1.trans (hx2.mono hH1.size)) (fun hHeld => ?_)
  clear hK K
  try simp only [Act.put, List.setIfInBounds_toArray, List.set_cons_zero, List.set_cons_succ]
  have HX2 := Lib.hid (hH1.trans (hx2.mono hH1.size))
  clear hH1 hx2
  refine wpAnyH_take (i := 10) (oi := ⟨some 18, _, _, _, _, _⟩) (v := ?_) rfl (by kernel_rfl) (by kernel_rfl) (by kernel_rfl) (fun _ _ _ h => h) (Or.inl ⟨by rfl, ?_⟩) (by assumption) ?_
  rotate_left
  · intro w hSw
    (try dsimp only at hSw)
    go_simp
    all_goals (with_reducible rfl)
  try simp only [Act.put, List.setIfInBounds_toArray, List.set_cons_zero, List.set_cons_succ]
  refine wpAnyH_take (i := 11) (oi := ⟨some 19, _, _, _, _, _⟩) (v := ?_) rfl (by kernel_rfl) (by kernel_rfl) (by kernel_rfl) (fun _ _ _ h => h) (Or.inl ⟨by rfl, ?_⟩) (by assumption) ?_
  rotate_left
  · intro w hSw
    (try dsimp only at hSw)
    go_simp
    all_goals (with_reducible rfl)
  try simp only [Act.put, List.setIfInBounds_toArray, List.set_cons_zero, List.set_cons_succ]
  refine wpAnyH_done (by kernel_rfl) ?_ _
  obtain ⟨⟨c0, c1, c2⟩, _, _, _⟩ := three (rowk2 HX2.out HB.out.2.1)
  have g4 := rowk2 HX2.out HB.out.2.2.2.1
  obtain ⟨⟨d0, d1, d2⟩, f0, f1, f2⟩ := three g4
  have HQ := Lib.hid (And.intro g4 (HB.out.1.trans (HX2.out.mono HB.out.1.size)))
  clear g4 hHeld
  go_wp2
  have hE6 := row3 (v0 := .int .i64 (ends : Int)) (v1 := .int .i64 (most : Int)) (v2 := .slice A n c) HQ.out.1
  have hE := HQ.out.2.trans ((((But.refl [b4] _).setCell (p := ⟨b4, 0, none⟩) (by simp) (.int .i64 (ends : Int))).setCell (p := ⟨b4, 1, none⟩) (by simp) (.int .i64 (most : Int))).setCell (p := ⟨b4, 2, none⟩) (by simp) (.slice A n c) |>.below HQ.out.2.size (by have := HB.out.2.2.2.2; simp; omega))
  refine bodyPost_ret (v := .tuple #[.agg #[.int .i64 (ends : Int), .int .i64 (most : Int), .slice A n c], .int .i64 5]) ?_ rfl ⟨rfl, hE⟩
  rw [results_cell_tmp rfl]
  simp [asAddr, Result.andThen, load42 hE6 rfl]
/-- where the copying stands -/
structure WRel (v1 w' : World) (q n j : Nat) (L : List EV) : Prop where
  row : ∃ rest : List Value, rest.length = (n + 1 - j) * 4 ∧ w'.heap[q]? = some (.cells (ecs (L.take j) ++ rest).toArray 87 (0, 0))
  but : But [q] v1 w'
theorem WRel.step {v1 w' : World} {q n j : Nat} {L : List EV} (h : WRel v1 w' q n j L) (hj : j < n) {o : EV} (ho : L[j]? = some o) : ∃ l m r : List Value, w'.heap[q]? = some (.cells (l ++ m ++ r).toArray 87 (0, 0)) ∧ l.length = j * 4 ∧ m.length = o.cells.length ∧ WRel v1 (w'.setRow q (l ++ o.cells ++ r).toArray) q n (j + 1) L := by
  obtain ⟨rest, h1, h2⟩ := h.row
  have hlt := (List.getElem?_eq_some_iff.1 ho).1
  refine ⟨ecs (L.take j), rest.take 4, rest.drop 4, ?_, ?_, ?_, ?_, h.but.setRow (by simp) _⟩
  · rw [List.append_assoc, List.take_append_drop]
    exact h2
  · rw [ecs_len, List.length_take]
    omega
  · rw [List.length_take]
    simp [EV.cells]
    omega
  · refine ⟨rest.drop 4, by rw [List.length_drop]; omega, ?_⟩
    have hs := setRow_heap w' q _ (ecs (L.take j) ++ o.cells ++ rest.drop 4).toArray 87 (0, 0) h2
    rw [hs]
    have e : ecs (L.take (j + 1)) = ecs (L.take j) ++ o.cells := by
      rw [List.take_add_one, ho, ecs_append]
      simp [ecs]
    rw [e]
theorem ne5 {w : World} {b : Nat} {cs : Array Value} {T : TypeId} {fr : Nat × Nat} (h : w.heap[b]? = some (.cells cs T fr)) (hT : T ≠ 5) : ∀ k, k ∈ [b] → ∀ cur fr', w.heap[k]? ≠ some (.cells cur 5 fr') := by
  intro k hk cur fr' e
  simp at hk
  subst hk
  have := h.symm.trans e
  injection this with e
  injection e with _ e _
  exact hT e
set_option maxHeartbeats 2000000 in
theorem rwrite_room (w : World) {lo n c ends most f t lx cx q z : Nat} {A X : Option Addr} {L : List EV} {l : List UInt8} (h : Bk w lo A n c L) (hr : Rd w X lx l) (hq : forL (live L) (t : Int) = q) (hz : (live L).length = z) (he : ends ≤ 300) (hin : ∀ d ∈ live L, d.to < ends) (hF : q < most) (hZ : z < 10000) (hn : n ≤ 1000000) (hlo : lo ≤ w.heap.size) : Calls Try.prog 46 #[.agg #[.int .i64 (ends : Int), .int .i64 (most : Int), .slice A n c], DV (f : Int) (t : Int) X lx cx] w fun e w' => ∃ A' c' o, e = .returned (.tuple #[.agg #[.int .i64 (ends : Int), .int .i64 (most : Int), .slice A' (n + 1) c'], .int .i64 0]) ∧ Bk w' lo A' (n + 1) c' (L ++ [o]) ∧ o.d = ⟨f, t, l⟩ ∧ o.gone = false ∧ Below w.heap.size w w' := by
  have hFn : q < most := hF
  have hFz : z < 10000 := hZ
  have hn1 : (n : Int) ≤ 1000000 := by omega
  have hn2 := h.len
  have HLo := Lib.hid hlo
  clear hF hZ hlo
  have HA := Lib.hid (And.intro h (And.intro hr (And.intro hq (And.intro hz (And.intro he hin)))))
  clear h hr hq hz he hin
  go_enter Try.func46, Try.ntmps46
  go_wp2_with fail
  obtain ⟨b2, hb2⟩ : ∃ b, w.heap.size = b := ⟨_, rfl⟩
  obtain ⟨b3, hb3⟩ : ∃ b, b2 + 1 = b := ⟨_, rfl⟩
  obtain ⟨b4, hb4⟩ : ∃ b, b3 + 1 = b := ⟨_, rfl⟩
  obtain ⟨w3, hw3⟩ : ∃ v, ((w.alloc (.cells #[.int .i64 (ends : Int), .int .i64 (most : Int), .slice A n c] 42)).alloc (.cells #[.int .i64 (f : Int), .int .i64 (t : Int), .slice X lx cx] 34)).alloc (.cells #[.int .i64 0, .int .i64 0, .slice none 0 0] 42) = v := ⟨_, rfl⟩
  have HB := Lib.hid (boxes3 hb2 hb3 hb4 hw3)
  rw [hw3, hb2, hb3, hb4]
  clear hw3 hb2 hb3 hb4
  refine wp_region_held_drew (S := fun v => Below w3.heap.size w3 v) (by kernel_rfl) ((Below.refl w3.heap.size w3).drew) (fun hHeld => ?_)
  refine wpAnyH_take (i := 0) (oi := ⟨some 8, _, _, _, _, _⟩) (v := ?_) rfl (by kernel_rfl) (by kernel_rfl) (by kernel_rfl) (fun _ _ _ h => h) (Or.inl ⟨by rfl, ?_⟩) (by assumption) ?_
  rotate_left
  · intro w hSw
    obtain ⟨⟨c0, c1, c2⟩, _, _, _⟩ := three (rowk2 hSw HB.out.2.1)
    go_simp
    all_goals (with_reducible rfl)
  try simp only [Act.put, List.setIfInBounds_toArray, List.set_cons_zero, List.set_cons_succ]
  refine wpAnyH_take (i := 1) (oi := ⟨some 9, _, _, _, _, _⟩) (v := ?_) rfl (by kernel_rfl) (by kernel_rfl) (by kernel_rfl) (fun _ _ _ h => h) (Or.inl ⟨by rfl, ?_⟩) (by assumption) ?_
  rotate_left
  · intro w hSw
    (try dsimp only at hSw)
    go_simp
    all_goals (with_reducible rfl)
  try simp only [Act.put, List.setIfInBounds_toArray, List.set_cons_zero, List.set_cons_succ]
  refine wpAnyH_take (i := 2) (oi := ⟨some 10, _, _, _, _, _⟩) (v := ?_) rfl (by kernel_rfl) (by kernel_rfl) (by kernel_rfl) (fun _ _ _ h => h) (Or.inl ⟨by rfl, ?_⟩) (by assumption) ?_
  rotate_left
  · intro w hSw
    obtain ⟨⟨c0, c1, c2⟩, _, _, _⟩ := three (rowk2 hSw HB.out.2.2.1)
    go_simp
    all_goals (with_reducible rfl)
  try simp only [Act.put, List.setIfInBounds_toArray, List.set_cons_zero, List.set_cons_succ]
  refine wpAnyH_take (i := 4) (oi := ⟨some 12, _, _, _, _, _⟩) (v := ?_) rfl (by kernel_rfl) (by kernel_rfl) (by kernel_rfl) (fun _ _ _ h => h) (Or.inl ⟨by rfl, ?_⟩) (by assumption) ?_
  rotate_left
  · intro w hSw
    (try dsimp only at hSw)
    go_simp
    all_goals (with_reducible rfl)
  try simp only [Act.put, List.setIfInBounds_toArray, List.set_cons_zero, List.set_cons_succ]
  refine wpAnyH_take (i := 5) (oi := ⟨some 13, _, _, _, _, _⟩) (v := ?_) rfl (by kernel_rfl) (by kernel_rfl) (by kernel_rfl) (fun _ _ _ h => h) (Or.inl ⟨by rfl, ?_⟩) (by assumption) ?_
  rotate_left
  · intro w hSw
    obtain ⟨⟨c0, c1, c2⟩, _, _, _⟩ := three (rowk2 hSw HB.out.2.1)
    go_simp
    all_goals (with_reducible rfl)
  try simp only [Act.put, List.setIfInBounds_toArray, List.set_cons_zero, List.set_cons_succ]
  have hH1 := hHeld
  refine wpAnyH_ready (rs := [3]) (by kernel_rfl) (by simp) (AllReadyH.cons (o := ⟨some 11, _, _, _, _, _⟩) rfl (fun K hK => ?_) AllReadyH.nil)
  go_simp
  refine (rwaiting_is _ (HA.out.1.below (HB.out.1.trans (hH1.mono HB.out.1.size))) (ends : Int) (most : Int) (t : Int) (q := (q : Int)) (by rw [HA.out.2.2.1])).mono ?_
  rintro e x1 ⟨rfl, hx1⟩
  refine hK.out _ _ (hH1.trans (hx1.mono hH1.size)) (fun hHeld => ?_)
  clear hK K
  try simp only [Act.put, List.setIfInBounds_toArray, List.set_cons_zero, List.set_cons_succ]
  have HX1 := Lib.hid (hH1.trans (hx1.mono hH1.size))
  clear hH1 hx1
  refine wpAnyH_take (i := 6) (oi := ⟨some 14, _, _, _, _, _⟩) (v := .bool false) rfl (by kernel_rfl) (by kernel_rfl) (by kernel_rfl) (fun _ _ _ h => h) (Or.inl ⟨by rfl, ?_⟩) (by assumption) ?_
  · intro w hSw
    (try dsimp only at hSw)
    go_simp
    all_goals (first | exact hFn | omega)
  try simp only [Act.put, List.setIfInBounds_toArray, List.set_cons_zero, List.set_cons_succ]
  refine wpAnyH_take (i := 7) (oi := ⟨some 15, _, _, _, _, _⟩) (v := ?_) rfl (by kernel_rfl) (by kernel_rfl) (by kernel_rfl) (fun _ _ _ h => h) (Or.inl ⟨by rfl, ?_⟩) (by assumption) ?_
  rotate_left
  · intro w hSw
    (try dsimp only at hSw)
    go_simp
    all_goals (with_reducible rfl)
  try simp only [Act.put, List.setIfInBounds_toArray, List.set_cons_zero, List.set_cons_succ]
  refine wpAnyH_take (i := 8) (oi := ⟨some 16, _, _, _, _, _⟩) (v := ?_) rfl (by kernel_rfl) (by kernel_rfl) (by kernel_rfl) (fun _ _ _ h => h) (Or.inl ⟨by rfl, ?_⟩) (by assumption) ?_
  rotate_left
  · intro w hSw
    obtain ⟨⟨c0, c1, c2⟩, _, _, _⟩ := three (rowk2 hSw HB.out.2.1)
    go_simp
    all_goals (with_reducible rfl)
  try simp only [Act.put, List.setIfInBounds_toArray, List.set_cons_zero, List.set_cons_succ]
  have hH1 := hHeld
  refine wpAnyH_ready (rs := [9]) (by kernel_rfl) (by simp) (AllReadyH.cons (o := ⟨some 17, _, _, _, _, _⟩) rfl (fun K hK => ?_) AllReadyH.nil)
  go_simp
  refine (rflying_is _ (HA.out.1.below (HB.out.1.trans (hH1.mono HB.out.1.size))) ends (most : Int) HA.out.2.2.2.2.1 HA.out.2.2.2.2.2 (q := (z : Int)) (by rw [HA.out.2.2.2.1])).mono ?_
  rintro e x2 ⟨rfl, hx2⟩
  refine hK.out _ _ (hH1.trans (hx2.mono hH1.size)) (fun hHeld => ?_)
  clear hK K
  try simp only [Act.put, List.setIfInBounds_toArray, List.set_cons_zero, List.set_cons_succ]
  have HX2 := Lib.hid (hH1.trans (hx2.mono hH1.size))
  clear hH1 hx2
  refine wpAnyH_take (i := 10) (oi := ⟨some 18, _, _, _, _, _⟩) (v := .bool false) rfl (by kernel_rfl) (by kernel_rfl) (by kernel_rfl) (fun _ _ _ h => h) (Or.inl ⟨by rfl, ?_⟩) (by assumption) ?_
  · intro w hSw
    (try dsimp only at hSw)
    go_simp
    all_goals (first | exact hFz | omega)
  try simp only [Act.put, List.setIfInBounds_toArray, List.set_cons_zero, List.set_cons_succ]
  refine wpAnyH_take (i := 11) (oi := ⟨some 19, _, _, _, _, _⟩) (v := ?_) rfl (by kernel_rfl) (by kernel_rfl) (by kernel_rfl) (fun _ _ _ h => h) (Or.inl ⟨by rfl, ?_⟩) (by assumption) ?_
  rotate_left
  · intro w hSw
    (try dsimp only at hSw)
    go_simp
    all_goals (with_reducible rfl)
  try simp only [Act.put, List.setIfInBounds_toArray, List.set_cons_zero, List.set_cons_succ]
  refine wpAnyH_done (by kernel_rfl) ?_ _
  obtain ⟨⟨c0, c1, c2⟩, _, _, _⟩ := three (rowk2 HX2.out HB.out.2.1)
  have hw0 : IntKind.i64.wrap ((n : Int) + 1) = (n : Int) + 1 := IntWalk.i64_in _ (by omega)
  obtain ⟨i87, hi87, hz87, hs87, hb87⟩ := info_parts info87z
  obtain ⟨C, hC, hCs⟩ : ∃ C : Array Value, (∀ v : World, (Instr.makeSlice 40 (.int .i64 ((n + 1 : Nat) : Int)) (.int .i64 ((n + 1 : Nat) : Int))).run Try.prog v = .ok (.slice (some ⟨v.heap.size, 0, none⟩) (n + 1) (n + 1)) (v.alloc (.cells C 87))) ∧ C.size = (n + 1) * 4 := by
    refine ⟨_, fun v => by
      have := run_make (P := Try.prog) v 40 87 i87 _ Try.underlying40 hi87 hz87 .i64 .i64 ((n + 1 : Nat) : Int) ((n + 1 : Nat) : Int) (by omega) (Int.le_refl _) (by rw [hb87]; omega) (by omega)
      simp only [Int.toNat_natCast] at this
      exact this, by rw [size_madeCells, hs87]⟩
  have hCn : (Instr.makeSlice 40 (.int .i64 ((n : Int) + 1)) (.int .i64 ((n : Int) + 1))).run Try.prog x2 = .ok (.slice (some ⟨x2.heap.size, 0, none⟩) (n + 1) (n + 1)) (x2.alloc (.cells C 87)) := hC x2
  obtain ⟨qb, hqb⟩ : ∃ b, x2.heap.size = b := ⟨_, rfl⟩
  obtain ⟨v1, hv1⟩ : ∃ v, x2.alloc (.cells C 87) = v := ⟨_, rfl⟩
  have hw2 : Below w.heap.size w x2 := HB.out.1.trans (HX2.out.mono HB.out.1.size)
  have hv12 : Below x2.heap.size x2 v1 := hv1 ▸ (Below.refl _ _).alloc (Nat.le_refl _) _
  have hrow0 : v1.heap[qb]? = some (.cells C 87 (0, 0)) := by rw [← hv1, ← hqb]; exact heap_alloc_new _ _
  have g2 := rowk2 hv12 (rowk2 HX2.out HB.out.2.1)
  have g3 := rowk2 hv12 (rowk2 HX2.out HB.out.2.2.1)
  have g4 := rowk2 hv12 (rowk2 HX2.out HB.out.2.2.2.1)
  have hq2 : b2 < qb ∧ b3 < qb ∧ b4 < qb ∧ w.heap.size ≤ qb := by
    have h1 := (Array.getElem?_eq_some_iff.1 (rowk2 HX2.out HB.out.2.1)).1
    have h2 := (Array.getElem?_eq_some_iff.1 (rowk2 HX2.out HB.out.2.2.1)).1
    have h3 := (Array.getElem?_eq_some_iff.1 (rowk2 HX2.out HB.out.2.2.2.1)).1
    have h4 := hw2.size
    omega
  have HV := Lib.hid (And.intro g2 (And.intro g3 (And.intro g4 (And.intro hq2 (And.intro (hw2.trans (hv12.mono hw2.size)) (HA.out.1.below (hw2.trans (hv12.mono hw2.size))))))))
  have H0 : Hid (WRel v1 v1 qb n 0 L) := Lib.hid ⟨⟨C.toList, by rw [Array.length_toList, hCs]; omega, by rw [hrow0]; simp [ecs]⟩, But.refl _ _⟩
  have HW := Lib.hid (And.intro hqb hv1)
  clear hqb hv1 hw2 hv12 hrow0 g2 g3 g4 hq2 hCs hC hHeld hi87 hz87 hs87 hb87
  go_wp2
  rw [HW.out.1, HW.out.2]
  clear hCn c0 c1 c2
  go_loopw [7] (fun i wr => ∃ j : Nat, j ≤ n ∧ i = .int .i64 j ∧ Hid (WRel v1 wr qb n j L)) (fun i _ => n - (Go.RowKit.intOf i).toNat)
  case atStart => exact ⟨0, by omega, rfl, H0⟩
  case round =>
    obtain ⟨j, hj, rfl, HR⟩ := hrel
    clear H0
    have g2 := HR.out.but.cells HV.out.1 (by have := HV.out.2.2.2.1; simp; omega)
    have g3 := HR.out.but.cells HV.out.2.1 (by have := HV.out.2.2.2.1; simp; omega)
    have g4 := HR.out.but.cells HV.out.2.2.1 (by have := HV.out.2.2.2.1; simp; omega)
    obtain ⟨⟨c0, c1, c2⟩, _, fc1, fc2⟩ := three g2
    have hBr : Below w.heap.size w wr := HV.out.2.2.2.2.1.trans (HR.out.but.below HV.out.2.2.2.2.1.size (by have := HV.out.2.2.2.1; simp; omega))
    have hbk : Bk wr lo A n c L := HA.out.1.below hBr
    by_cases hlt : j < n
    · obtain ⟨o, ho⟩ : ∃ o, L[j]? = some o := ⟨_, List.getElem?_eq_getElem (by omega)⟩
      obtain ⟨r, rfl, hrl, k0, k1, k2, k3⟩ := hbk.get ho
      have hji : (0 : Int) ≤ (j : Int) := by omega
      have hjn : (j : Int) < (n : Int) := by omega
      have hjn2 : (j : Int) < (n : Int) + 1 := by omega
      have hw1 : IntKind.i64.wrap ((j : Int) + 1) = (j : Int) + 1 := IntWalk.i64_in _ (by omega)
      have hload := run_loadAt_at (P := Try.prog) wr ⟨r, j * 4, none⟩ 87 o.cells _ (by
        intro k x hx
        rw [addr_at]
        match k, hx with
        | 0, hx => simp [EV.cells] at hx; subst hx; exact k0
        | 1, hx => simp [EV.cells] at hx; subst hx; exact k1
        | 2, hx => simp [EV.cells] at hx; subst hx; exact k2
        | 3, hx => simp [EV.cells] at hx; subst hx; exact k3) Try.underlying87 rfl (by kernel_rfl)
      obtain ⟨bl, bm, br, hrow, hbl, hbm, hnext⟩ := HR.out.step hlt ho
      have HE : Hid (WRel v1 (wr.setRow qb (bl ++ (o.cells ++ br)).toArray) qb n (j + 1) L) := Lib.hid (by rw [← List.append_assoc]; exact hnext)
      have HJ := Lib.hid hlt
      have hone := ev_one o
      obtain ⟨oc, hoc⟩ : ∃ oc, o.cells = oc := ⟨_, rfl⟩
      have hocl : oc.length = 4 := by rw [← hoc]; rfl
      rw [hoc] at hload hbm HE hone
      have hsz : (Try.prog.info? 87).map (·.size) = some oc.length := by rw [hocl]; kernel_rfl
      clear k0 k1 k2 k3 hnext hlt hrl ho hBr hbk g2 g3 g4
      go_wp2_with (first
        | (refine wpList_load rfl 87 _ rfl _ rfl _ hload ?_)
        | (refine wpList_store_in rfl 87 _ _ rfl qb (j * 4) 87 bl bm br oc rfl rfl hrow hbl hbm hsz hone ?_))
      go_roundw
      case rel => exact ⟨j + 1, by have := HJ.out; omega, by go_num, HE⟩
      case measure => have := HJ.out; simp [Go.RowKit.intOf]; omega
    · obtain rfl : j = n := by omega
      have hr := HA.out.2.1.below hBr (Nat.le_refl _)
      have hlen := HA.out.2.1.len
      have hcs := conv_str (P := Try.prog) Try.underlying29 Try.underlying5 Try.underlying9 hr cx
      have hcv := Lib.run_convert_string_bytes (P := Try.prog) wr 9 29 5 ⟨l.toArray⟩ Try.underlying9 Try.underlying29 Try.underlying5
      have hs : (⟨l.toArray⟩ : ByteArray).size = l.length := by simp [ByteArray.size]
      rw [hs] at hcv
      obtain ⟨gc, hgc⟩ : ∃ gc, grownCap wr l.length 0 5 = gc := ⟨_, rfl⟩
      rw [hgc] at hcv
      have hb5 := below_bytes wr 5 ⟨l.toArray⟩
      have hn5 := nw_bytes wr l
      obtain ⟨w5, hw5⟩ : ∃ w5, Lib.bytesWorld wr 5 ⟨l.toArray⟩ = w5 := ⟨_, rfl⟩
      rw [hw5] at hcv hb5 hn5
      obtain ⟨bx, hbx⟩ : ∃ b, wr.heap.size = b := ⟨_, rfl⟩
      rw [hbx] at hcv hn5
      obtain ⟨rest, hrest, hrow⟩ := HR.out.row
      rw [List.take_of_length_le (show L.length ≤ j by omega)] at hrow
      have hrest4 : rest.length = 4 := by omega
      have hrow5 := rowk2 hb5 hrow
      have hrow5' : w5.heap[qb]? = some (.cells (ecs L ++ rest ++ []).toArray 87 (0, 0)) := by rw [List.append_nil]; exact hrow5
      obtain ⟨⟨d0, d1, d2⟩, _, _, _⟩ := three g3
      have hecl : (ecs L).length = j * 4 := by rw [ecs_len]; omega
      have hsz : (Try.prog.info? 87).map (·.size) = some [Value.int .i64 (f : Int), .int .i64 (t : Int), .slice (some ⟨bx, 0, none⟩) l.length gc, .bool false].length := by kernel_rfl
      have hone := ev_one ⟨⟨f, t, l⟩, some ⟨bx, 0, none⟩, gc, false⟩
      have hm4 : rest.length = [Value.int .i64 (f : Int), .int .i64 (t : Int), .slice (some ⟨bx, 0, none⟩) l.length gc, .bool false].length := by rw [hrest4]; rfl
      have hn0 : (0 : Int) ≤ (j : Int) := by omega
      have hnn : (j : Int) < (j : Int) + 1 := by omega
      have HE2 := Lib.hid HB.out.2.2.2.2
      have HY := Lib.hid (And.intro (rowk2 hb5 g2) (And.intro (rowk2 hb5 g4) (And.intro (hBr.trans (hb5.mono hBr.size)) (And.intro (hn5.lower (lo' := lo) (by rw [← hbx]; exact Nat.le_trans HLo.out hBr.size)) hrow5'))))
      clear hs hgc hb5 hn5 hw5 hbx hrow hrow5 hBr hbk HR hlt hr hlen hj hrest
      go_upto_region 9 with (first
        | (refine wpList_store_in rfl 87 _ _ rfl qb (j * 4) 87 (ecs L) rest [] [Value.int .i64 (f : Int), .int .i64 (t : Int), .slice (some ⟨bx, 0, none⟩) l.length gc, .bool false] rfl rfl hrow5' hecl hm4 hsz hone ?_))
      obtain ⟨w6, hw6⟩ : ∃ v, w5.setRow qb (ecs L ++ [Value.int .i64 (f : Int), .int .i64 (t : Int), .slice (some ⟨bx, 0, none⟩) l.length gc, .bool false] ++ []).toArray = v := ⟨_, rfl⟩
      have hbt6 : But [qb] w5 w6 := hw6 ▸ (But.refl _ _).setRow (by simp) _
      have hrow6 : w6.heap[qb]? = some (.cells (ecs (L ++ [(⟨⟨f, t, l⟩, some ⟨bx, 0, none⟩, gc, false⟩ : EV)]) ++ []).toArray 87 (0, 0)) := by
        rw [← hw6]
        have := setRow_heap w5 qb _ (ecs L ++ [Value.int .i64 (f : Int), .int .i64 (t : Int), .slice (some ⟨bx, 0, none⟩) l.length gc, .bool false] ++ []).toArray 87 (0, 0) HY.out.2.2.2.2
        rw [ecs_append]
        exact this
      have hne : qb ≠ b2 ∧ qb ≠ b4 ∧ b2 ≠ b4 ∧ w.heap.size ≤ qb := by have := HV.out.2.2.2.1; have := HE2.out; omega
      have g2 := hbt6.cells HY.out.1 (by simp; exact fun e => hne.1 e.symm)
      have g4 := hbt6.cells HY.out.2.1 (by simp; exact fun e => hne.2.1 e.symm)
      have hB6 : Below w.heap.size w w6 := HY.out.2.2.1.trans (hbt6.below HY.out.2.2.1.size (by simp; exact hne.2.2.2))
      obtain ⟨⟨c0, c1, c2⟩, f0, f1, f2⟩ := three g2
      obtain ⟨w7, hw7⟩ : ∃ v, w6.setCell ⟨b2, 2, none⟩ (.slice (some ⟨qb, 0, none⟩) (j + 1) (j + 1)) = v := ⟨_, rfl⟩
      have hbt7 : But [b2] w6 w7 := hw7 ▸ (But.refl _ _).setCell (by simp) _
      have r2 : w7.heap[b2]? = some (.cells #[.int .i64 (ends : Int), .int .i64 (most : Int), .slice (some ⟨qb, 0, none⟩) (j + 1) (j + 1)] 42 (0, 0)) := by rw [← hw7]; exact heap_setCell_same w6 b2 2 _ 42 _ g2
      have r4 := hbt7.cells g4 (by simp; exact fun e => hne.2.2.1 e.symm)
      have rq := hbt7.cells hrow6 (by simp; exact hne.1)
      have hB7 : Below w.heap.size w w7 := hB6.trans (hbt7.below hB6.size (by have := HE2.out; simp; omega))
      obtain ⟨⟨k0, k1, k2⟩, _, _, _⟩ := three r2
      obtain ⟨⟨m0, m1, m2⟩, fm0, fm1, fm2⟩ := three r4
      have n7 := (HY.out.2.2.2.1.but hbt6 (ne5 HY.out.2.2.2.2 (by decide))).but hbt7 (ne5 g2 (by decide))
      have HZ := Lib.hid (And.intro r4 (And.intro rq (And.intro hB7 (And.intro hne.1 (And.intro hne.2.1 (And.intro hne.2.2.2 n7))))))
      rw [hw6]
      clear n7 hw6 hbt6 hrow6 hne g2 g4 hB6 hbt7 r2 r4 rq hB7 hrow5'
      go_upto_region 10 with (fail)
      clear hw7 c0 c1 c2 f0 f1 f2
      go_wp2
      have hE6 := row3 (v0 := .int .i64 (ends : Int)) (v1 := .int .i64 (most : Int)) (v2 := .slice (some ⟨qb, 0, none⟩) (j + 1) (j + 1)) HZ.out.1
      obtain ⟨w8, hw8⟩ : ∃ v, ((w7.setCell ⟨b4, 0, none⟩ (.int .i64 (ends : Int))).setCell ⟨b4, 1, none⟩ (.int .i64 (most : Int))).setCell ⟨b4, 2, none⟩ (.slice (some ⟨qb, 0, none⟩) (j + 1) (j + 1)) = v := ⟨_, rfl⟩
      have hbt8 : But [b4] w7 w8 := hw8 ▸ (((But.refl [b4] w7).setCell (p := ⟨b4, 0, none⟩) (by simp) _).setCell (p := ⟨b4, 1, none⟩) (by simp) _).setCell (p := ⟨b4, 2, none⟩) (by simp) _
      rw [hw8] at hE6 ⊢
      have hE := HZ.out.2.2.1.trans (hbt8.below HZ.out.2.2.1.size (by have := HE2.out; simp; omega))
      have rq8 := hbt8.cells HZ.out.2.1 (by simp; exact HZ.out.2.2.2.2.1)
      have hbk8 := HA.out.1.below hE
      have hn8 := HZ.out.2.2.2.2.2.2.but hbt8 (ne5 HZ.out.1 (by decide))
      refine bodyPost_ret (v := .tuple #[.agg #[.int .i64 (ends : Int), .int .i64 (most : Int), .slice (some ⟨qb, 0, none⟩) (j + 1) (j + 1)], .int .i64 0]) ?_ rfl ⟨some ⟨qb, 0, none⟩, j + 1, ⟨⟨f, t, l⟩, some ⟨bx, 0, none⟩, gc, false⟩, rfl, ⟨?_, ?_⟩, rfl, rfl, hE⟩
      · rw [results_cell_tmp rfl]
        simp [asAddr, Result.andThen, load42 hE6 rfl]
      · exact OwnK.mk' (by have := HZ.out.2.2.2.2.2; exact Nat.le_trans HLo.out this.1) rq8 (Nat.le_refl _) (by unfold maxLen; omega) (by rw [ecs_len, List.length_append]; simp; omega) (by rw [ecs_len, List.length_append]; simp; omega)
      · intro o ho
        rcases List.mem_append.1 ho with ho | ho
        · exact hbk8.its o ho
        · simp at ho
          subst ho
          exact hn8
end
end Go.Proofs.Ythhablokbnfpcaa
