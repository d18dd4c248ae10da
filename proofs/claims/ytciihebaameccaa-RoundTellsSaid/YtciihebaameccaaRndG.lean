/- Told. -/
import Derived.Test.YtciihebaameccaaRndFZ
namespace Go.Proofs.Ytciihebaameccaa
open Go.RowKit Go.Coop
set_option maxRecDepth 100000
/-- a round and an error are told through the box of the result -/
theorem two_end {w W : World} {b2 : Nat} {s v need ph : Int} {A : Option Addr} {n c : Nat} {L : List Int} (hr : RdV W A n (L.map IV)) (hA : ∀ j, A.map (·.block) = some j → j ≠ b2)
    (hx : W.heap[b2]? = some (.cells #[.int .i64 0, .int .i64 0, .int .i64 0, .int .i64 0, .slice none 0 0] 26 (0, 0))) (hb : Below w.heap.size w W) (hle : w.heap.size ≤ b2) :
    ∃ _ : (((((W.setCell ⟨b2, 0, none⟩ (.int .i64 s)).setCell ⟨b2, 1, none⟩ (.int .i64 v)).setCell ⟨b2, 2, none⟩ (.int .i64 need)).setCell ⟨b2, 3, none⟩ (.int .i64 ph)).setCell ⟨b2, 4, none⟩ (.slice A n c)).heap[b2]? = some (.cells #[.int .i64 s, .int .i64 v, .int .i64 need, .int .i64 ph, .slice A n c] 26 (0, 0)),
      RdV (((((W.setCell ⟨b2, 0, none⟩ (.int .i64 s)).setCell ⟨b2, 1, none⟩ (.int .i64 v)).setCell ⟨b2, 2, none⟩ (.int .i64 need)).setCell ⟨b2, 3, none⟩ (.int .i64 ph)).setCell ⟨b2, 4, none⟩ (.slice A n c)) A n (L.map IV) ∧
      Below w.heap.size w (((((W.setCell ⟨b2, 0, none⟩ (.int .i64 s)).setCell ⟨b2, 1, none⟩ (.int .i64 v)).setCell ⟨b2, 2, none⟩ (.int .i64 need)).setCell ⟨b2, 3, none⟩ (.int .i64 ph)).setCell ⟨b2, 4, none⟩ (.slice A n c)) := by
  have hb3 : But [b2] W (((((W.setCell ⟨b2, 0, none⟩ (.int .i64 s)).setCell ⟨b2, 1, none⟩ (.int .i64 v)).setCell ⟨b2, 2, none⟩ (.int .i64 need)).setCell ⟨b2, 3, none⟩ (.int .i64 ph)).setCell ⟨b2, 4, none⟩ (.slice A n c)) :=
    (((((But.refl _ _).setCell (by simp) _).setCell (by simp) _).setCell (by simp) _).setCell (by simp) _).setCell (by simp) _
  refine ⟨row5 hx, hr.but hb3 fun j hj hm => ?_, ?_⟩
  · have := hA j hj
    simp at hm
    omega
  · exact ((((hb.setCell (by simpa using hle) _).setCell (by simpa using hle) _).setCell (by simpa using hle) _).setCell (by simpa using hle) _).setCell (by simpa using hle) _
section
variable (w : World)
set_option maxHeartbeats 4000000 in
theorem told_is (s v need ph i op e : Int) {A : Option Addr} {n c : Nat} {ms : List Int} (h : RdV w A n (ms.map IV)) (hn : n ≤ 1000000) {P : Rn × Int} (hP : Rn.told ⟨s, v, need, ph, ms⟩ i op e = P) : Calls Try.prog 14 #[.agg #[.int .i64 s, .int .i64 v, .int .i64 need, .int .i64 ph, .slice A n c], .int .i64 i, .int .u8 op, .int .i64 e] w (TwoR w P) := by
  have hln : ms.length = n := by simpa using h.len
  obtain ⟨w1, hw1⟩ : ∃ z, w.alloc (.cells #[.int .i64 s, .int .i64 v, .int .i64 need, .int .i64 ph, .slice A n c] 26) = z := ⟨_, rfl⟩
  obtain ⟨w2, hw2⟩ : ∃ z, w1.alloc (.cells #[.int .i64 0, .int .i64 0, .int .i64 0, .int .i64 0, .slice none 0 0] 26) = z := ⟨_, rfl⟩
  obtain ⟨hb1, hx1⟩ := box_new hw1
  obtain ⟨hb2, hx2⟩ := box_new hw2
  obtain ⟨b, hb⟩ : ∃ b, w.heap.size = b := ⟨_, rfl⟩
  obtain ⟨b2, hbb⟩ : ∃ b, w1.heap.size = b := ⟨_, rfl⟩
  have hlt : b < b2 := by rw [← hb, ← hbb]; exact lt_of_block hx1
  have hx12 := (hb2.block _ (lt_of_block hx1)).trans hx1
  rw [hb] at hx12
  rw [hbb] at hx2
  have hB2 := hb1.trans (hb2.mono hb1.size)
  have hR := h.below hB2 (Nat.le_refl _)
  have hne : b2 ≠ b := by omega
  have hne' : b ≠ b2 := by omega
  obtain ⟨⟨m0, m1, m2, m3, m4⟩, hbl⟩ := five26 hx12
  have HE := Lib.hid (And.intro hR (And.intro hB2 (And.intro hx12 (And.intro hx2 (And.intro hb hlt)))))
  have HRW := Lib.hid h
  clear h hR hB2 hx12 hx2 hlt hx1 hb1 hb2 hbl
  have HB_w2 := Lib.hid HE.out.2.1
  have HX_w2 := Lib.hid HE.out.2.2.1
  have HZ_w2 := Lib.hid HE.out.2.2.2.1
  have HR_w2 := Lib.hid HE.out.1
  by_cases hH : HasR ⟨s, v, need, ph, ms⟩ i
  · have kH := Lib.hid (decide_eq_true hH)
    obtain ⟨k, rfl⟩ : ∃ k : Nat, i = (k : Int) := ⟨i.toNat, by have := hH.2.1; omega⟩
    have hkn : k < n := by have := hH.2.2; simp only [hln] at this; omega
    obtain ⟨y, hy⟩ : ∃ y, ms[k]? = some y := ⟨_, List.getElem?_eq_getElem (by omega)⟩
    have HP : Hid (P = (Rn.marked ⟨s, v, need, ph, ms⟩ k (ansR ph y op e), 0)) := by show _ = _; rw [← hP]; unfold Rn.told; rw [if_pos hH]; simp only [Int.toNat_natCast, List.getD_eq_getElem?_getD, hy, Option.getD_some]
    have HN : Hid (1 ≤ need ∧ need ≤ (n : Int)) := by have := hH.1.1.2.2.2; simp only [hln] at this; exact this
    have HY := Lib.hid (And.intro hy hkn)
    clear hP hH hy
    go_enter Try.func14, Try.ntmps14
    go_wp2_with fail
    (try rw [hw1]); (try rw [hw2]); (try rw [hb]); (try rw [hbb])
    clear hw1 hw2 hb hbb
    refine (hasR_is _ s v need ph k HR_w2.out hn kH.out).mono ?_
    rintro e' w3 ⟨rfl, hb3⟩
    have HB_w3 := Lib.hid (HB_w2.out.trans (hb3.mono HB_w2.out.size))
    have HX_w3 := Lib.hid ((hb3.block _ (lt_of_block HX_w2.out)).trans HX_w2.out)
    have HZ_w3 := Lib.hid ((hb3.block _ (lt_of_block HZ_w2.out)).trans HZ_w2.out)
    have HR_w3 := Lib.hid (HR_w2.out.below hb3 (Nat.le_refl _))
    clear hb3 m0 m1 m2 m3 m4
    obtain ⟨⟨f0, f1, f2, f3, f4⟩, fbl⟩ := five26 HX_w3.out
    obtain ⟨g0, g1, g2, g3, g4⟩ := thaw5 HX_w3.out
    obtain ⟨⟨r0, r1, r2, r3, r4⟩, rbl⟩ := five26 HZ_w3.out
    obtain ⟨y0, y1, y2, y3, y4⟩ := thaw5 HZ_w3.out
    have hi1 : (0 : Int) ≤ (k : Int) := by omega
    have hi2 : (k : Int) < (n : Int) := by omega
    clear hkn
    go_wp2
    clear f0 f1 f2 f3 f4 fbl g0 g1 g2 g3 g4 r0 r1 r2 r3 r4 rbl y0 y1 y2 y3 y4
    obtain ⟨w4, h_w4⟩ : ∃ z, w3.drew = z := ⟨_, rfl⟩
    have hbd : Below w3.heap.size w3 w4 := h_w4 ▸ (Below.refl _ _).drew
    have HB_w4 := Lib.hid (HB_w3.out.trans (hbd.mono HB_w3.out.size))
    have HX_w4 := Lib.hid ((hbd.block _ (lt_of_block HX_w3.out)).trans HX_w3.out)
    have HZ_w4 := Lib.hid ((hbd.block _ (lt_of_block HZ_w3.out)).trans HZ_w3.out)
    have HR_w4 := Lib.hid (HR_w3.out.below hbd (Nat.le_refl _))
    obtain ⟨ad, hA, _, _⟩ := HR_w4.out.cells (by have := HY.out.2; omega)
    subst hA
    obtain ⟨Mx, hMx⟩ : ∃ Mx, ansR ph y op e = Mx := ⟨_, rfl⟩
    have HMx := Lib.hid hMx
    clear hMx
    refine wp_region_held_drew (S := fun z => Below w.heap.size w z ∧ z.heap[b]? = some (.cells #[.int .i64 s, .int .i64 v, .int .i64 need, .int .i64 ph, .slice (some ad) n c] 26 (0, 0)) ∧ RdV z (some ad) n (ms.map IV)) (by kernel_rfl) (by rw [h_w4]; exact ⟨HB_w4.out, HX_w4.out, HR_w4.out⟩) (fun hHeld => ?_)
    rw [h_w4]
    clear hHeld
    have hHeld : Below w.heap.size w w4 ∧ w4.heap[b]? = some (.cells #[.int .i64 s, .int .i64 v, .int .i64 need, .int .i64 ph, .slice (some ad) n c] 26 (0, 0)) ∧ RdV w4 (some ad) n (ms.map IV) := ⟨HB_w4.out, HX_w4.out, HR_w4.out⟩
    clear h_w4 hbd
    refine wpAnyH_take (i := 0) (oi := ⟨some 16, _, _, _, _, _⟩) (v := ?_) rfl (by kernel_rfl) (by kernel_rfl) (by kernel_rfl) (fun _ _ _ h => h) (Or.inl ⟨by rfl, ?_⟩) (by assumption) ?_
    rotate_left
    · intro w hSw
      obtain ⟨⟨k0, k1, k2, k3, k4⟩, kbl⟩ := five26 hSw.2.1
      clear hSw
      go_simp
      all_goals (with_reducible rfl)
    try simp only [Act.put, List.setIfInBounds_toArray, List.set_cons_zero, List.set_cons_succ]
    refine wpAnyH_take (i := 1) (oi := ⟨some 17, _, _, _, _, _⟩) (v := ?_) rfl (by kernel_rfl) (by kernel_rfl) (by kernel_rfl) (fun _ _ _ h => h) (Or.inl ⟨by rfl, ?_⟩) (by assumption) ?_
    rotate_left
    · intro w hSw
      (try dsimp only at hSw)
      go_simp
      all_goals (with_reducible rfl)
    try simp only [Act.put, List.setIfInBounds_toArray, List.set_cons_zero, List.set_cons_succ]
    refine wpAnyH_take (i := 2) (oi := ⟨some 18, _, _, _, _, _⟩) (v := ?_) rfl (by kernel_rfl) (by kernel_rfl) (by kernel_rfl) (fun _ _ _ h => h) (Or.inl ⟨by rfl, ?_⟩) (by assumption) ?_
    rotate_left
    · intro w hSw
      (try dsimp only at hSw)
      go_simp
      all_goals (with_reducible rfl)
    try simp only [Act.put, List.setIfInBounds_toArray, List.set_cons_zero, List.set_cons_succ]
    refine wpAnyH_take (i := 3) (oi := ⟨some 19, _, _, _, _, _⟩) (v := ?_) rfl (by kernel_rfl) (by kernel_rfl) (by kernel_rfl) (fun _ _ _ h => h) (Or.inl ⟨by rfl, ?_⟩) (by assumption) ?_
    rotate_left
    · intro w hSw
      have kk := (five26 hSw.2.1).1.2.2.2.1
      clear hSw
      go_simp
      all_goals (with_reducible rfl)
    try simp only [Act.put, List.setIfInBounds_toArray, List.set_cons_zero, List.set_cons_succ]
    refine wpAnyH_take (i := 4) (oi := ⟨some 20, _, _, _, _, _⟩) (v := ?_) rfl (by kernel_rfl) (by kernel_rfl) (by kernel_rfl) (fun _ _ _ h => h) (Or.inl ⟨by rfl, ?_⟩) (by assumption) ?_
    rotate_left
    · intro w hSw
      (try dsimp only at hSw)
      go_simp
      all_goals (with_reducible rfl)
    try simp only [Act.put, List.setIfInBounds_toArray, List.set_cons_zero, List.set_cons_succ]
    refine wpAnyH_take (i := 5) (oi := ⟨some 21, _, _, _, _, _⟩) (v := ?_) rfl (by kernel_rfl) (by kernel_rfl) (by kernel_rfl) (fun _ _ _ h => h) (Or.inl ⟨by rfl, ?_⟩) (by assumption) ?_
    rotate_left
    · intro w hSw
      have kk := (five26 hSw.2.1).1.2.2.2.2
      clear hSw
      go_simp
      all_goals (with_reducible rfl)
    try simp only [Act.put, List.setIfInBounds_toArray, List.set_cons_zero, List.set_cons_succ]
    refine wpAnyH_take (i := 6) (oi := ⟨some 22, _, _, _, _, _⟩) (v := ?_) rfl (by kernel_rfl) (by kernel_rfl) (by kernel_rfl) (fun _ _ _ h => h) (Or.inl ⟨by rfl, ?_⟩) (by assumption) ?_
    rotate_left
    · intro w hSw
      (try dsimp only at hSw)
      go_simp
      all_goals (with_reducible rfl)
    try simp only [Act.put, List.setIfInBounds_toArray, List.set_cons_zero, List.set_cons_succ]
    refine wpAnyH_take (i := 7) (oi := ⟨some 23, _, _, _, _, _⟩) (v := ?_) rfl (by kernel_rfl) (by kernel_rfl) (by kernel_rfl) (fun _ _ _ h => h) (Or.inl ⟨by rfl, ?_⟩) (by assumption) ?_
    rotate_left
    · intro w hSw
      (try dsimp only at hSw)
      go_simp
      all_goals (with_reducible rfl)
    try simp only [Act.put, List.setIfInBounds_toArray, List.set_cons_zero, List.set_cons_succ]
    refine wpAnyH_take (i := 8) (oi := ⟨some 24, _, _, _, _, _⟩) (v := ?_) rfl (by kernel_rfl) (by kernel_rfl) (by kernel_rfl) (fun _ _ _ h => h) (Or.inl ⟨by rfl, ?_⟩) (by assumption) ?_
    rotate_left
    · intro w hSw
      obtain ⟨ad', ea, _, hc⟩ := hSw.2.2.cells (by have := HY.out.2; omega)
      injection ea with ea
      subst ea
      have kk := hc k (IV y) (by rw [List.getElem?_map, HY.out.1]; rfl)
      clear hSw hc
      go_simp
      all_goals (with_reducible rfl)
    try simp only [Act.put, List.setIfInBounds_toArray, List.set_cons_zero, List.set_cons_succ]
    refine wpAnyH_take (i := 9) (oi := ⟨some 25, _, _, _, _, _⟩) (v := ?_) rfl (by kernel_rfl) (by kernel_rfl) (by kernel_rfl) (fun _ _ _ h => h) (Or.inl ⟨by rfl, ?_⟩) (by assumption) ?_
    rotate_left
    · intro w hSw
      (try dsimp only at hSw)
      go_simp
      all_goals (with_reducible rfl)
    try simp only [Act.put, List.setIfInBounds_toArray, List.set_cons_zero, List.set_cons_succ]
    refine wpAnyH_take (i := 10) (oi := ⟨some 26, _, _, _, _, _⟩) (v := ?_) rfl (by kernel_rfl) (by kernel_rfl) (by kernel_rfl) (fun _ _ _ h => h) (Or.inl ⟨by rfl, ?_⟩) (by assumption) ?_
    rotate_left
    · intro w hSw
      (try dsimp only at hSw)
      go_simp
      all_goals (with_reducible rfl)
    try simp only [Act.put, List.setIfInBounds_toArray, List.set_cons_zero, List.set_cons_succ]
    refine wpAnyH_ready (rs := [11]) (by kernel_rfl) (by simp) (AllReadyH.cons (o := ⟨some 27, _, _, _, _, _⟩) rfl (fun K hK => ?_) AllReadyH.nil)
    go_simp
    refine (ans_is _ ph y op e HMx.out).mono ?_
    rintro e' w' ⟨rfl, rfl⟩
    refine hK.out _ _ (⟨HB_w4.out, HX_w4.out, HR_w4.out⟩) (fun hHeld => ?_)
    clear hK K
    try simp only [Act.put, List.setIfInBounds_toArray, List.set_cons_zero, List.set_cons_succ]
    refine wpAnyH_ready (rs := [12]) (by kernel_rfl) (by simp) (AllReadyH.cons (o := ⟨some 28, _, _, _, _, _⟩) rfl (fun K hK => ?_) AllReadyH.nil)
    go_simp
    refine (marked_is _ s v need ph HR_w4.out hn HY.out.2 Mx HN.out).mono ?_
    rintro e' w5 ⟨A9, c9, rfl, hr9, hA9, hb9⟩
    have hml : (Rn.marked ⟨s, v, need, ph, ms⟩ k Mx).ms.length = n := by unfold Rn.marked; simp only [List.length_set]; exact hln
    obtain ⟨Q, hQ⟩ : ∃ Q, Rn.marked ⟨s, v, need, ph, ms⟩ k Mx = Q := ⟨_, rfl⟩
    have HPQ : Hid (P = (Q, 0)) := by show _ = _; rw [HP.out, HMx.out, hQ]
    rw [hQ] at hr9 hml ⊢
    clear hQ HMx
    obtain ⟨qs, qv, qn, qp, qm⟩ := Q
    simp only [hml, RVal] at hr9 ⊢
    have HML := Lib.hid hml
    have HRQ := Lib.hid hr9
    have HA9 : Hid (∀ j, A9.map (·.block) = some j → j ≠ b2) := fun j hj => by
      have h1 := hA9 j hj
      have h2 := lt_of_block HZ_w4.out
      omega
    have HFR : Hid (∀ j, A9.map (·.block) = some j → w.heap.size ≤ j) := fun j hj => by
      have h1 := hA9 j hj
      have h2 := HB_w4.out.size
      omega
    have HB_w5 := Lib.hid (HB_w4.out.trans (hb9.mono HB_w4.out.size))
    have HX_w5 := Lib.hid ((hb9.block _ (lt_of_block HX_w4.out)).trans HX_w4.out)
    have HZ_w5 := Lib.hid ((hb9.block _ (lt_of_block HZ_w4.out)).trans HZ_w4.out)
    have HR_w5 := Lib.hid (HR_w4.out.below hb9 (Nat.le_refl _))
    obtain ⟨⟨f0, f1, f2, f3, f4⟩, fbl⟩ := five26 HX_w5.out
    obtain ⟨g0, g1, g2, g3, g4⟩ := thaw5 HX_w5.out
    obtain ⟨⟨r0, r1, r2, r3, r4⟩, rbl⟩ := five26 HZ_w5.out
    obtain ⟨y0, y1, y2, y3, y4⟩ := thaw5 HZ_w5.out
    clear hr9 hA9 hb9 hml HP
    refine hK.out _ _ (⟨HB_w5.out, HX_w5.out, HR_w5.out⟩) (fun hHeld => ?_)
    clear hK K
    try simp only [Act.put, List.setIfInBounds_toArray, List.set_cons_zero, List.set_cons_succ]
    have hbt : But [b2] w5 (((((w5.setCell ⟨b2, 0, none⟩ (.int .i64 qs)).setCell ⟨b2, 1, none⟩ (.int .i64 qv)).setCell ⟨b2, 2, none⟩ (.int .i64 qn)).setCell ⟨b2, 3, none⟩ (.int .i64 qp)).setCell ⟨b2, 4, none⟩ (.slice A9 n c9)) := (((((But.refl _ _).setCell (by simp) _).setCell (by simp) _).setCell (by simp) _).setCell (by simp) _).setCell (by simp) _
    have HST : Hid (Below w.heap.size w (((((w5.setCell ⟨b2, 0, none⟩ (.int .i64 qs)).setCell ⟨b2, 1, none⟩ (.int .i64 qv)).setCell ⟨b2, 2, none⟩ (.int .i64 qn)).setCell ⟨b2, 3, none⟩ (.int .i64 qp)).setCell ⟨b2, 4, none⟩ (.slice A9 n c9)) ∧ (((((w5.setCell ⟨b2, 0, none⟩ (.int .i64 qs)).setCell ⟨b2, 1, none⟩ (.int .i64 qv)).setCell ⟨b2, 2, none⟩ (.int .i64 qn)).setCell ⟨b2, 3, none⟩ (.int .i64 qp)).setCell ⟨b2, 4, none⟩ (.slice A9 n c9)).heap[b]? = some (.cells #[.int .i64 s, .int .i64 v, .int .i64 need, .int .i64 ph, .slice (some ad) n c] 26 (0, 0)) ∧ RdV (((((w5.setCell ⟨b2, 0, none⟩ (.int .i64 qs)).setCell ⟨b2, 1, none⟩ (.int .i64 qv)).setCell ⟨b2, 2, none⟩ (.int .i64 qn)).setCell ⟨b2, 3, none⟩ (.int .i64 qp)).setCell ⟨b2, 4, none⟩ (.slice A9 n c9)) (some ad) n (ms.map IV)) := by
      refine ⟨HB_w5.out.trans (hbt.below (B := w.heap.size) HB_w5.out.size (by intro g hg; simp at hg; have := HE.out.2.2.2.2; omega)), hbt.cells HX_w5.out (by simpa using hne'), HR_w5.out.but hbt fun j hj hm => ?_⟩
      obtain ⟨ad', ea, h1, _⟩ := HRW.out.cells (by have := HY.out.2; omega)
      injection ea with ea
      subst ea
      simp at hj hm
      have := HE.out.2.2.2.2
      omega
    clear hbt
    refine wpAnyH_ready (rs := [13]) (by kernel_rfl) (by simp) (AllReadyH.cons (o := ⟨none, _, _, _, _, _⟩) rfl (fun K hK => ?_) AllReadyH.nil)
    go_simp
    refine hK.out _ _ (HST.out) (fun hHeld => ?_)
    clear hK K
    try simp only [Act.put, List.setIfInBounds_toArray, List.set_cons_zero, List.set_cons_succ]
    refine wpAnyH_take (i := 14) (oi := ⟨some 9, _, _, _, _, _⟩) (v := ?_) rfl (by kernel_rfl) (by kernel_rfl) (by kernel_rfl) (fun _ _ _ h => h) (Or.inl ⟨by rfl, ?_⟩) (by assumption) ?_
    rotate_left
    · intro w hSw
      (try dsimp only at hSw)
      go_simp
      all_goals (with_reducible rfl)
    try simp only [Act.put, List.setIfInBounds_toArray, List.set_cons_zero, List.set_cons_succ]
    refine wpAnyH_done (by kernel_rfl) ?_ _
    go_wp2
    obtain ⟨hw, hr9, hb9⟩ := two_end (w := w) (s := qs) (v := qv) (need := qn) (ph := qp) (c := c9) HRQ.out HA9.out HZ_w5.out HB_w5.out (by have := HE.out.2.2.2.2; omega)
    rw [HPQ.out]
    refine bodyPost_ret (v := .tuple #[.agg #[.int .i64 qs, .int .i64 qv, .int .i64 qn, .int .i64 qp, .slice A9 n c9], .int .i64 0]) ?_ rfl ⟨A9, c9, ?_, ?_, HFR.out, hb9⟩
    · rw [results_cell_tmp rfl]
      simp [asAddr, Result.andThen, loadv26 hw]
    · simp only [HML.out]
    · simp only [HML.out]; exact hr9
  · have kH := Lib.hid (decide_eq_false hH)
    have HP : Hid (P = (⟨s, v, need, ph, ms⟩, 130)) := by show _ = _; rw [← hP]; unfold Rn.told; rw [if_neg hH]
    clear hP hH
    go_enter Try.func14, Try.ntmps14
    go_wp2_with fail
    (try rw [hw1]); (try rw [hw2]); (try rw [hb]); (try rw [hbb])
    clear hw1 hw2 hb hbb
    refine (hasR_is _ s v need ph i HR_w2.out hn kH.out).mono ?_
    rintro e' w3 ⟨rfl, hb3⟩
    have HB_w3 := Lib.hid (HB_w2.out.trans (hb3.mono HB_w2.out.size))
    have HX_w3 := Lib.hid ((hb3.block _ (lt_of_block HX_w2.out)).trans HX_w2.out)
    have HZ_w3 := Lib.hid ((hb3.block _ (lt_of_block HZ_w2.out)).trans HZ_w2.out)
    have HR_w3 := Lib.hid (HR_w2.out.below hb3 (Nat.le_refl _))
    clear hb3 m0 m1 m2 m3 m4
    obtain ⟨⟨f0, f1, f2, f3, f4⟩, fbl⟩ := five26 HX_w3.out
    obtain ⟨g0, g1, g2, g3, g4⟩ := thaw5 HX_w3.out
    obtain ⟨⟨r0, r1, r2, r3, r4⟩, rbl⟩ := five26 HZ_w3.out
    obtain ⟨y0, y1, y2, y3, y4⟩ := thaw5 HZ_w3.out
    go_wp2_with fail
    refine (alone_is _ s v need ph HR_w3.out hn).mono ?_
    rintro e' w4 ⟨A9, c9, rfl, ho9, hb9⟩
    have HB_w4 := Lib.hid (HB_w3.out.trans (hb9.mono HB_w3.out.size))
    have HX_w4 := Lib.hid ((hb9.block _ (lt_of_block HX_w3.out)).trans HX_w3.out)
    have HZ_w4 := Lib.hid ((hb9.block _ (lt_of_block HZ_w3.out)).trans HZ_w3.out)
    have HR_w4 := Lib.hid (HR_w3.out.below hb9 (Nat.le_refl _))
    simp only [hln, RVal] at ho9 ⊢
    have HO9 := Lib.hid ho9
    have HA9 : Hid (∀ j, A9.map (·.block) = some j → j ≠ b2) := fun j hj => by
      have h1 := (ho9.block j hj).1
      have h2 := lt_of_block HZ_w3.out
      omega
    have HFR : Hid (∀ j, A9.map (·.block) = some j → w.heap.size ≤ j) := fun j hj => by
      have h1 := (ho9.block j hj).1
      have h2 := HB_w3.out.size
      omega
    clear ho9 hb9
    clear f0 f1 f2 f3 f4 fbl g0 g1 g2 g3 g4 r0 r1 r2 r3 r4 rbl y0 y1 y2 y3 y4
    obtain ⟨⟨f0, f1, f2, f3, f4⟩, fbl⟩ := five26 HX_w4.out
    obtain ⟨g0, g1, g2, g3, g4⟩ := thaw5 HX_w4.out
    obtain ⟨⟨r0, r1, r2, r3, r4⟩, rbl⟩ := five26 HZ_w4.out
    obtain ⟨y0, y1, y2, y3, y4⟩ := thaw5 HZ_w4.out
    go_wp2
    obtain ⟨hw, hr9, hb9⟩ := two_end (w := w) (s := s) (v := v) (need := need) (ph := ph) (c := c9) HO9.out.rd HA9.out HZ_w4.out HB_w4.out (by have := HE.out.2.2.2.2; omega)
    rw [HP.out]
    refine bodyPost_ret (v := .tuple #[.agg #[.int .i64 s, .int .i64 v, .int .i64 need, .int .i64 ph, .slice A9 n c9], .int .i64 130]) ?_ rfl ⟨A9, c9, ?_, ?_, HFR.out, hb9⟩
    · rw [results_cell_tmp rfl]
      simp [asAddr, Result.andThen, loadv26 hw]
    · simp only [hln]
    · simp only [hln]; exact hr9
end
end Go.Proofs.Ytciihebaameccaa
