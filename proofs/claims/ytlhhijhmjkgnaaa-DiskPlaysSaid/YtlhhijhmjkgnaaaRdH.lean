/- A disk beside the document's. -/
import Derived.Test.YtlhhijhmjkgnaaaRdG
namespace Go.Proofs.Ytlhhijhmjkgnaaa
open Go.RowKit Go.Coop
set_option maxRecDepth 100000
theorem cached_to (S : DS) : S.cached = cachedTo S.cache S.n := rfl
set_option maxHeartbeats 2000000 in
theorem samedisk (w : World) {g m c : Nat} {S : DS} {A : Option Addr} {cc : Nat} {lf : Int} {dn : Bool} (h : DiskAt w g m c S) (hr : RDk w A S.n S.med S.cache) (hdn : S.down = dn) :
    Calls Try.prog 30 #[.pointer (some ⟨g, 0, none⟩), .agg #[.slice A S.n cc, .int .i64 lf, .bool dn]] w fun e w' => e = .returned (.bool true) ∧ Below w.heap.size w w' := by
  have hn6 := h.ok.n2
  have hn1 := h.ok.n1
  have hcl := cached_le S
  have HN := Lib.hid (And.intro hn6 (And.intro hn1 hcl))
  have HX := Lib.hid (And.intro h (And.intro hr hdn))
  have HL : Hid (∀ i, (S.at_ i).length = 64) := fun i => h.ok.at_ i
  clear h hr hdn hn6 hn1 hcl
  go_enter Try.func30, Try.ntmps30
  go_upto_region 1 with (fail)
  obtain ⟨b3, hb3⟩ : ∃ b3, w.heap.size = b3 := ⟨_, rfl⟩
  obtain ⟨w0, hw0⟩ : ∃ w0, w.alloc (.cells #[.slice A S.n cc, .int .i64 lf, .bool dn] 42) = w0 := ⟨_, rfl⟩
  have hh : w0.heap[b3]? = some (.cells #[.slice A S.n cc, .int .i64 lf, .bool dn] 42 (0, 0)) := by rw [← hw0, ← hb3]; exact heap_alloc_new w _
  have hB0 : Below w.heap.size w w0 := by rw [← hw0]; exact (Below.refl _ _).alloc (Nat.le_refl _) _
  have hlt3 : b3 < w0.heap.size := (Array.getElem?_eq_some_iff.1 hh).1
  have c30 := cell_of_row w0 b3 0 _ 42 (0, 0) hh
  have c31 := cell_of_row w0 b3 1 _ 42 (0, 0) hh
  have c32 := cell_of_row w0 b3 2 _ 42 (0, 0) hh
  simp at c30 c31 c32
  have HD := Lib.hid (And.intro (HX.out.1.below hB0 (Nat.le_refl _)) (HX.out.2.1.below hB0))
  have HH := Lib.hid (And.intro hB0 (And.intro hlt3 (And.intro c30 (And.intro c31 c32))))
  have HDN := Lib.hid HX.out.2.2
  rw [hw0, hb3]
  clear hw0 hb3 hh hB0 hlt3 HX
  refine wp_region_held_drew (S := fun v => v.cell? ⟨b3, 0, none⟩ = some (.slice A S.n cc) ∧ v.cell? ⟨b3, 1, none⟩ = some (.int .i64 lf) ∧ v.cell? ⟨b3, 2, none⟩ = some (.bool dn)) (by kernel_rfl) (⟨c30, c31, c32⟩) (fun hHeld => ?_)
  refine wpAnyH_take (i := 0) (oi := ⟨some 10, _, _, _, _, _⟩) (v := ?_) rfl (by kernel_rfl) (by kernel_rfl) (by kernel_rfl) (fun _ _ _ h => h) (Or.inl ⟨by rfl, ?_⟩) (by assumption) ?_
  rotate_left
  · intro w hSw
    (try dsimp only at hSw)
    go_simp
    all_goals (with_reducible rfl)
  try simp only [Act.put, List.setIfInBounds_toArray, List.set_cons_zero, List.set_cons_succ]
  refine wpAnyH_take (i := 2) (oi := ⟨some 12, _, _, _, _, _⟩) (v := ?_) rfl (by kernel_rfl) (by kernel_rfl) (by kernel_rfl) (fun _ _ _ h => h) (Or.inl ⟨by rfl, ?_⟩) (by assumption) ?_
  rotate_left
  · intro w hSw
    (try dsimp only at hSw)
    go_simp
    all_goals (with_reducible rfl)
  try simp only [Act.put, List.setIfInBounds_toArray, List.set_cons_zero, List.set_cons_succ]
  refine wpAnyH_take (i := 3) (oi := ⟨some 13, _, _, _, _, _⟩) (v := ?_) rfl (by kernel_rfl) (by kernel_rfl) (by kernel_rfl) (fun _ _ _ h => h) (Or.inl ⟨by rfl, ?_⟩) (by assumption) ?_
  rotate_left
  · intro w hSw
    (try dsimp only at hSw)
    go_simp
    all_goals (with_reducible rfl)
  try simp only [Act.put, List.setIfInBounds_toArray, List.set_cons_zero, List.set_cons_succ]
  refine wpAnyH_take (i := 4) (oi := ⟨some 14, _, _, _, _, _⟩) (v := ?_) rfl (by kernel_rfl) (by kernel_rfl) (by kernel_rfl) (fun _ _ _ h => h) (Or.inl ⟨by rfl, ?_⟩) (by assumption) ?_
  rotate_left
  · intro w hSw
    (try dsimp only at hSw)
    go_simp
    all_goals (with_reducible rfl)
  try simp only [Act.put, List.setIfInBounds_toArray, List.set_cons_zero, List.set_cons_succ]
  refine wpAnyH_ready (rs := [1]) (by kernel_rfl) (by simp) (AllReadyH.cons (o := ⟨some 11, _, _, _, _, _⟩) rfl (fun K hK => ?_) AllReadyH.nil)
  go_simp
  refine (size_yes _ HD.out.1.drew).mono ?_
  rintro e v1 ⟨rfl, rfl⟩
  refine hK.out _ _ (⟨c30, c31, c32⟩) (fun hHeld => ?_)
  clear hK K
  try simp only [Act.put, List.setIfInBounds_toArray, List.set_cons_zero, List.set_cons_succ]
  refine wpAnyH_take (i := 5) (oi := ⟨some 15, _, _, _, _, _⟩) (v := ?_) rfl (by kernel_rfl) (by kernel_rfl) (by kernel_rfl) (fun _ _ _ h => h) (Or.inl ⟨by rfl, ?_⟩) (by assumption) ?_
  rotate_left
  · intro w hSw
    (try dsimp only at hSw)
    go_simp
    all_goals (with_reducible rfl)
  try simp only [Act.put, List.setIfInBounds_toArray, List.set_cons_zero, List.set_cons_succ]
  refine wpAnyH_take (i := 6) (oi := ⟨some 16, _, _, _, _, _⟩) (v := ?_) rfl (by kernel_rfl) (by kernel_rfl) (by kernel_rfl) (fun _ _ _ h => h) (Or.inl ⟨by rfl, ?_⟩) (by assumption) ?_
  rotate_left
  · intro w hSw
    (try dsimp only at hSw)
    go_simp
    all_goals (with_reducible rfl)
  try simp only [Act.put, List.setIfInBounds_toArray, List.set_cons_zero, List.set_cons_succ]
  refine wpAnyH_take (i := 7) (oi := ⟨some 17, _, _, _, _, _⟩) (v := ?_) rfl (by kernel_rfl) (by kernel_rfl) (by kernel_rfl) (fun _ _ _ h => h) (Or.inl ⟨by rfl, ?_⟩) (by assumption) ?_
  rotate_left
  · intro w hSw
    (try dsimp only at hSw)
    go_simp
    all_goals (with_reducible rfl)
  try simp only [Act.put, List.setIfInBounds_toArray, List.set_cons_zero, List.set_cons_succ]
  refine wpAnyH_take (i := 9) (oi := ⟨some 19, _, _, _, _, _⟩) (v := ?_) rfl (by kernel_rfl) (by kernel_rfl) (by kernel_rfl) (fun _ _ _ h => h) (Or.inl ⟨by rfl, ?_⟩) (by assumption) ?_
  rotate_left
  · intro w hSw
    (try dsimp only at hSw)
    go_simp
    all_goals (with_reducible rfl)
  try simp only [Act.put, List.setIfInBounds_toArray, List.set_cons_zero, List.set_cons_succ]
  refine wpAnyH_take (i := 10) (oi := ⟨some 20, _, _, _, _, _⟩) (v := ?_) rfl (by kernel_rfl) (by kernel_rfl) (by kernel_rfl) (fun _ _ _ h => h) (Or.inl ⟨by rfl, ?_⟩) (by assumption) ?_
  rotate_left
  · intro w hSw
    (try dsimp only at hSw)
    go_simp
    all_goals (with_reducible rfl)
  try simp only [Act.put, List.setIfInBounds_toArray, List.set_cons_zero, List.set_cons_succ]
  refine wpAnyH_ready (rs := [8]) (by kernel_rfl) (by simp) (AllReadyH.cons (o := ⟨some 18, _, _, _, _, _⟩) rfl (fun K hK => ?_) AllReadyH.nil)
  go_simp
  refine (down_k _ HD.out.1.drew HDN.out).mono ?_
  rintro e v1 ⟨rfl, rfl⟩
  refine hK.out _ _ (⟨c30, c31, c32⟩) (fun hHeld => ?_)
  clear hK K
  try simp only [Act.put, List.setIfInBounds_toArray, List.set_cons_zero, List.set_cons_succ]
  refine wpAnyH_take (i := 11) (oi := ⟨some 21, _, _, _, _, _⟩) (v := ?_) rfl (by kernel_rfl) (by kernel_rfl) (by kernel_rfl) (fun _ _ _ h => h) (Or.inl ⟨by rfl, ?_⟩) (by assumption) ?_
  rotate_left
  · intro w hSw
    (try dsimp only at hSw)
    go_simp
    all_goals (with_reducible rfl)
  try simp only [Act.put, List.setIfInBounds_toArray, List.set_cons_zero, List.set_cons_succ]
  refine wpAnyH_take (i := 12) (oi := ⟨some 22, _, _, _, _, _⟩) (v := ?_) rfl (by kernel_rfl) (by kernel_rfl) (by kernel_rfl) (fun _ _ _ h => h) (Or.inl ⟨by rfl, ?_⟩) (by assumption) ?_
  rotate_left
  · intro w hSw
    (try dsimp only at hSw)
    go_simp
    all_goals (with_reducible rfl)
  try simp only [Act.put, List.setIfInBounds_toArray, List.set_cons_zero, List.set_cons_succ]
  refine wpAnyH_take (i := 13) (oi := ⟨some 23, _, _, _, _, _⟩) (v := ?_) rfl (by kernel_rfl) (by kernel_rfl) (by kernel_rfl) (fun _ _ _ h => h) (Or.inl ⟨by rfl, ?_⟩) (by assumption) ?_
  rotate_left
  · intro w hSw
    (try dsimp only at hSw)
    go_simp
    all_goals (with_reducible rfl)
  try simp only [Act.put, List.setIfInBounds_toArray, List.set_cons_zero, List.set_cons_succ]
  refine wpAnyH_take (i := 14) (oi := ⟨some 24, _, _, _, _, _⟩) (v := ?_) rfl (by kernel_rfl) (by kernel_rfl) (by kernel_rfl) (fun _ _ _ h => h) (Or.inl ⟨by rfl, ?_⟩) (by assumption) ?_
  rotate_left
  · intro w hSw
    (try dsimp only at hSw)
    go_simp
    all_goals (with_reducible rfl)
  try simp only [Act.put, List.setIfInBounds_toArray, List.set_cons_zero, List.set_cons_succ]
  refine wpAnyH_take (i := 16) (oi := ⟨some 26, _, _, _, _, _⟩) (v := ?_) rfl (by kernel_rfl) (by kernel_rfl) (by kernel_rfl) (fun _ _ _ h => h) (Or.inl ⟨by rfl, ?_⟩) (by assumption) ?_
  rotate_left
  · intro w hSw
    (try dsimp only at hSw)
    go_simp
    all_goals (with_reducible rfl)
  try simp only [Act.put, List.setIfInBounds_toArray, List.set_cons_zero, List.set_cons_succ]
  refine wpAnyH_ready (rs := [15]) (by kernel_rfl) (by simp) (AllReadyH.cons (o := ⟨some 25, _, _, _, _, _⟩) rfl (fun K hK => ?_) AllReadyH.nil)
  go_simp
  refine (cached_yes _ HD.out.1.drew).mono ?_
  rintro e v1 ⟨X, xc, rfl, hX, hB1⟩
  have HB1 : Hid (Below w0.heap.size w0 v1) := (Below.refl _ _).drew.trans hB1
  have HX1 := Lib.hid hX
  clear hX hB1
  refine hK.out _ _ (⟨(HB1.out.cell (p := ⟨b3, 0, none⟩) HH.out.2.1).trans HH.out.2.2.1, (HB1.out.cell (p := ⟨b3, 1, none⟩) HH.out.2.1).trans HH.out.2.2.2.1, (HB1.out.cell (p := ⟨b3, 2, none⟩) HH.out.2.1).trans HH.out.2.2.2.2⟩) (fun hHeld => ?_)
  clear hK K
  try simp only [Act.put, List.setIfInBounds_toArray, List.set_cons_zero, List.set_cons_succ]
  refine wpAnyH_ready (rs := [17]) (by kernel_rfl) (by simp) (AllReadyH.cons (o := ⟨some 27, _, _, _, _, _⟩) rfl (fun K hK => ?_) AllReadyH.nil)
  go_simp
  refine (rcached_any _ (HD.out.2.below HB1.out) (by have := HN.out.1; omega)).mono ?_
  rintro e v2 ⟨Y, yc, rfl, hY, hB2⟩
  have HB2 : Hid (Below w0.heap.size w0 v2) := HB1.out.trans (hB2.mono HB1.out.size)
  have HX2 := Lib.hid (And.intro (HX1.out.below hB2 (Nat.le_refl _)) hY)
  clear hY hB2
  refine hK.out _ _ (⟨(HB2.out.cell (p := ⟨b3, 0, none⟩) HH.out.2.1).trans HH.out.2.2.1, (HB2.out.cell (p := ⟨b3, 1, none⟩) HH.out.2.1).trans HH.out.2.2.2.1, (HB2.out.cell (p := ⟨b3, 2, none⟩) HH.out.2.1).trans HH.out.2.2.2.2⟩) (fun hHeld => ?_)
  clear hK K
  try simp only [Act.put, List.setIfInBounds_toArray, List.set_cons_zero, List.set_cons_succ]
  refine wpAnyH_ready (rs := [18]) (by kernel_rfl) (by simp) (AllReadyH.cons (o := ⟨some 28, _, _, _, _, _⟩) rfl (fun K hK => ?_) AllReadyH.nil)
  go_simp
  refine (sameints_k X S.cached.length xc S.cached Y (cachedTo S.cache S.n).length yc (cachedTo S.cache S.n) _ HX2.out.1 HX2.out.2 (by have := HN.out; omega) (by have := HN.out; have := cachedTo_le S.cache S.n; omega) (q := true) (beq_self_eq_true _)).mono ?_
  rintro e v3 ⟨rfl, nq, rfl⟩
  refine hK.out _ _ (⟨(HB2.out.cell (p := ⟨b3, 0, none⟩) HH.out.2.1).trans HH.out.2.2.1, (HB2.out.cell (p := ⟨b3, 1, none⟩) HH.out.2.1).trans HH.out.2.2.2.1, (HB2.out.cell (p := ⟨b3, 2, none⟩) HH.out.2.1).trans HH.out.2.2.2.2⟩) (fun hHeld => ?_)
  clear hK K
  try simp only [Act.put, List.setIfInBounds_toArray, List.set_cons_zero, List.set_cons_succ]
  refine wpAnyH_take (i := 19) (oi := ⟨some 29, _, _, _, _, _⟩) (v := ?_) rfl (by kernel_rfl) (by kernel_rfl) (by kernel_rfl) (fun _ _ _ h => h) (Or.inl ⟨by rfl, ?_⟩) (by assumption) ?_
  rotate_left
  · intro w hSw
    (try dsimp only at hSw)
    go_simp
    all_goals (with_reducible rfl)
  try simp only [Act.put, List.setIfInBounds_toArray, List.set_cons_zero, List.set_cons_succ]
  refine wpAnyH_take (i := 20) (oi := ⟨some 30, _, _, _, _, _⟩) (v := ?_) rfl (by kernel_rfl) (by kernel_rfl) (by kernel_rfl) (fun _ _ _ h => h) (Or.inl ⟨by rfl, ?_⟩) (by assumption) ?_
  rotate_left
  · intro w hSw
    (try dsimp only at hSw)
    go_simp
    all_goals (with_reducible rfl)
  try simp only [Act.put, List.setIfInBounds_toArray, List.set_cons_zero, List.set_cons_succ]
  refine wpAnyH_done (by kernel_rfl) ?_ _
  have HB3 : Hid (Below w0.heap.size w0 (v2.drewN nq)) := HB2.out.trans ⟨rfl, rfl, rfl, Nat.le_refl _, fun _ _ => rfl⟩
  generalize v2.drewN nq = v3 at HB3 ⊢
  clear HX1 HX2 HB1 HB2 c30 c31 c32
  have HRR : ∀ wr, Below w0.heap.size w0 wr → DiskAt wr g m c S ∧ RDk wr A S.n S.med S.cache ∧ wr.cell? ⟨b3, 0, none⟩ = some (.slice A S.n cc) ∧ wr.cell? ⟨b3, 1, none⟩ = some (.int .i64 lf) ∧ wr.cell? ⟨b3, 2, none⟩ = some (.bool dn) := fun wr hB => ⟨HD.out.1.below hB (Nat.le_refl _), HD.out.2.below hB, (hB.cell (p := ⟨b3, 0, none⟩) HH.out.2.1).trans HH.out.2.2.1, (hB.cell (p := ⟨b3, 1, none⟩) HH.out.2.1).trans HH.out.2.2.2.1, (hB.cell (p := ⟨b3, 2, none⟩) HH.out.2.1).trans HH.out.2.2.2.2⟩
  have HR := Lib.hid HRR
  clear HRR HD
  go_wp2_with fail
  go_loopw [5] (fun i wr => ∃ k : Nat, k ≤ S.n ∧ i = .int .i64 k ∧ Hid (Below w0.heap.size w0 wr)) (fun i _ => S.n - (Go.RowKit.intOf i).toNat)
  case atStart => exact ⟨0, by omega, rfl, HB3.out⟩
  case round =>
    obtain ⟨k, hk, rfl, HB⟩ := hrel
    clear HB3
    obtain ⟨hD, hR, c30, c31, c32⟩ := HR.out wr HB.out
    have HD := Lib.hid (And.intro hD hR)
    clear hD hR
    by_cases hlt : k < S.n
    · have HI := Lib.hid hlt
      have hk6 : k < 65536 := by have := HN.out.1; omega
      cases hdq : S.down
      · have HQ := Lib.hid hdq
        have hdn : dn = false := HDN.out.symm.trans hdq
        subst hdn
        clear hdq
        go_wp2_with fail
        refine (read_yes _ HD.out.1 HQ.out HI.out).mono ?_
        rintro e w1 ⟨rfl, hw1⟩
        have hb1 : Below wr.heap.size wr w1 := by rw [hw1]; exact (Below.refl _ _).alloc (Nat.le_refl _) _
        have hr1 : Rd w1 (some ⟨wr.heap.size, 0, none⟩) 64 (S.at_ k) := by rw [hw1]; exact rd_new _ _ (HL.out k) 77
        have HB1 : Hid (Below w0.heap.size w0 w1) := HB.out.trans (hb1.mono HB.out.size)
        obtain ⟨_, hR2, d30, d31, d32⟩ := HR.out w1 HB1.out
        have H1 := Lib.hid (And.intro hr1 hR2)
        clear hw1 hb1 hr1 hR2 c30 c31 c32
        go_wp2_with fail
        refine (rread_yes _ H1.out.2 HI.out).mono ?_
        rintro e w2 ⟨Z, zc, rfl, hr2, hb2⟩
        have HB2 : Hid (Below w0.heap.size w0 w2) := HB1.out.trans (hb2.mono HB1.out.size)
        have H2 := Lib.hid (And.intro (H1.out.1.below hb2 (Nat.le_refl _)) hr2)
        clear hb2 hr2 d30 d31 d32
        go_wp2_with fail
        refine (same_k _ _ _ _ _ _ _ _ _ H2.out.1 H2.out.2 (q := true) (beq_self_eq_true _)).mono ?_
        rintro e w4 ⟨rfl, rfl⟩
        go_wp2
        go_roundw
        case rel => exact ⟨k + 1, by have := HI.out; omega, by go_num, HB2.out⟩
        case measure => have := HI.out; simp [Go.RowKit.intOf]; omega
      · have HQ := Lib.hid hdq
        have hdn : dn = true := HDN.out.symm.trans hdq
        subst hdn
        clear hdq
        go_wp2_with fail
        refine (read_down _ HD.out.1 HQ.out _).mono ?_
        rintro e w1 ⟨rfl, rfl⟩
        go_wp2_with fail
        refine (rread_down _ _).mono ?_
        rintro e w2 ⟨rfl, hb2⟩
        have HB2 : Hid (Below w0.heap.size w0 w2) := HB.out.trans (hb2.mono HB.out.size)
        clear hb2 c30 c31 c32
        go_wp2_with fail
        refine (same_k _ _ _ [] _ _ _ [] _ (Rd.nil _ _) (Rd.nil _ _) (q := true) rfl).mono ?_
        rintro e w4 ⟨rfl, rfl⟩
        go_wp2
        go_roundw
        case rel => exact ⟨k + 1, by have := HI.out; omega, by go_num, HB2.out⟩
        case measure => have := HI.out; simp [Go.RowKit.intOf]; omega
    · obtain hke : k = S.n := by omega
      go_wp2
      go_ret
      exact ⟨rfl, HH.out.1.trans (HB.out.mono HH.out.1.size)⟩
end Go.Proofs.Ytlhhijhmjkgnaaa
