/- The closures of Read: the next number, and one placement. -/
import Derived.Test.YtbilbfjmfaignaaBytA
import Derived.Test.YtbilbfjmfaignaaGets
namespace Go.Proofs.Ytbilbfjmfaignaa
open Go.RowKit Go.Coop
set_option maxRecDepth 100000
abbrev nextV (bb ba bw : Nat) : Value := .func (.func 41) #[] #[.pointer (some ⟨bb, 0, none⟩), .pointer (some ⟨ba, 0, none⟩), .pointer (some ⟨bw, 0, none⟩)]
theorem Box.drew' {w : World} {p : Nat} {v : Value} {E : TypeId} (h : Box w p v E) : Box w.drew p v E := h
theorem _root_.Go.Coop.But.of_drew {gs : List Nat} {w w' : World} (h : But gs w.drew w') : But gs w w' := ⟨h.os, h.tape, h.output, h.size, h.block⟩
theorem rd_but {gs : List Nat} {w w' : World} {A : Option Addr} {n : Nat} {l : List UInt8} (h : Rd w A n l) (hb : But gs w w') (hA : 0 < n → ∀ j, A.map (·.block) = some j → j ∉ gs) : Rd w' A n l :=
  ⟨h.len, fun hn => by
    obtain ⟨ad, e, hl, hc⟩ := h.cells hn
    subst e
    have hcell : w'.heap[ad.block]? = w.heap[ad.block]? := hb.block _ hl (hA hn _ rfl)
    refine ⟨ad, rfl, Nat.lt_of_lt_of_le hl hb.size, fun j c hj => ?_⟩
    rw [← hc j c hj]
    exact World.cell?_of_block (by rw [addr_add_block]; exact hcell)⟩
section
variable (w : World)
theorem next_is {bb ba bw n c : Nat} {A : Option Addr} {b : List UInt8} {s : Nat × Bool} (h1 : Box w bb (.slice A n c) 34) (h2 : Box w ba (.int .i64 (s.1 : Int)) 3) (h3 : Box w bw (.bool s.2) 4) (hr : Rd w A n b) (hn : n ≤ 1000000000) (hc : n ≤ c) (most : Nat) (hm : most ≤ 1099511627776) (hs : s.1 ≤ b.length) :
    Calls Try.prog 41 #[.int .i64 (most : Int), .pointer (some ⟨bb, 0, none⟩), .pointer (some ⟨ba, 0, none⟩), .pointer (some ⟨bw, 0, none⟩)] w fun e w' => e = .returned (.int .i64 ((nx b most s).1 : Int)) ∧ Box w' ba (.int .i64 ((nx b most s).2.1 : Int)) 3 ∧ Box w' bw (.bool (nx b most s).2.2) 4 ∧ But [ba, bw] w w' := by
  obtain ⟨at_, ok⟩ := s
  simp only at h2 h3 hs
  have d1 := h1.cell
  have d2 := h2.cell
  have d3 := h3.cell
  have f2 := h2.free
  have f3 := h3.free
  have hw1 : IntKind.u64.wrap (most : Int) = (most : Int) := by rw [IntKind.wrap_u64]; omega
  have hne : ba ≠ bw := ne_of_type h2 h3 (by decide)
  have hG := getUint_any A n c b (at_ : Int) w hr (by omega) hc
  obtain ⟨⟨N, nxt, er⟩, hu⟩ : ∃ r, getU b (at_ : Int) = r := ⟨_, rfl⟩
  have hok := getU_ok b (at_ : Int)
  rw [hu] at hG hok
  have hN : N ≤ 18446744073709551615 := hok.num
  have HH := Lib.hid (And.intro h2 (And.intro h3 hG))
  have hnx : nx b most (at_, ok) = if er = 0 ∧ N ≤ most then (N, (nxt, ok)) else (0, (at_, false)) := by
    unfold nx
    simp only
    rw [hu]
  have HU := Lib.hid hnx
  clear h1 h2 h3 hr hu hok hG hnx
  by_cases he : er = 0
  · subst he
    by_cases hle : N ≤ most
    · have hlt : ¬ (most : Int) < (N : Int) := by omega
      have hle' : (N : Int) ≤ (most : Int) := by omega
      have hw2 : IntKind.i64.wrap (N : Int) = (N : Int) := IntWalk.i64_in _ (by omega)
      have HL := Lib.hid hle
      clear hle
      go_enter Try.func41, Try.ntmps41
      go_wp2_with fail
      refine HH.out.2.2.mono ?_
      rintro e w' ⟨rfl, rfl⟩
      go_wp2
      go_ret
      rw [HU.out, if_pos (by simpa using HL.out)]
      refine ⟨rfl, heap_setCell_same w ba 0 _ 3 _ HH.out.1, ?_, (But.refl _ _).setCell (by simp) _⟩
      exact (Below.heap_setCell _ _ _ _ (by simpa using fun e => hne e.symm)).trans HH.out.2.1
    · have hlt : (most : Int) < (N : Int) := by omega
      have HL := Lib.hid hle
      clear hle
      go_enter Try.func41, Try.ntmps41
      go_wp2_with fail
      refine HH.out.2.2.mono ?_
      rintro e w' ⟨rfl, rfl⟩
      go_wp2
      go_ret
      rw [HU.out, if_neg (by simpa using HL.out)]
      refine ⟨rfl, ?_, heap_setCell_same w bw 0 _ 4 _ HH.out.2.1, (But.refl _ _).setCell (by simp) _⟩
      exact (Below.heap_setCell _ _ _ _ (by simpa using hne)).trans HH.out.1
  · have hbe : ((er : Int) == 0) = false := by simp; omega
    have hbe' : ((er : Int) != 0) = true := by simp; omega
    have HL := Lib.hid he
    clear he
    go_enter Try.func41, Try.ntmps41
    go_wp2_with fail
    refine HH.out.2.2.mono ?_
    rintro e w' ⟨rfl, rfl⟩
    go_wp2
    go_ret
    rw [HU.out, if_neg (fun h => HL.out h.1)]
    refine ⟨rfl, ?_, heap_setCell_same w bw 0 _ 4 _ HH.out.2.1, (But.refl _ _).setCell (by simp) _⟩
    exact (Below.heap_setCell _ _ _ _ (by simpa using hne)).trans HH.out.1
set_option maxHeartbeats 2000000 in
theorem cl_read {g o : Nat} {l r : List Value} {x0 x1 : Value} (hl : l.length = o) (hr : RowAt w g l x0 x1 r) {bn bb ba bw n c : Nat} {A : Option Addr} {bs : List UInt8} {s : Nat × Bool} (k : Nat) (hbn : Box w bn (nextV bb ba bw) 70) (h1 : Box w bb (.slice A n c) 34) (h2 : Box w ba (.int .i64 (s.1 : Int)) 3) (h3 : Box w bw (.bool s.2) 4) (hrd : Rd w A n bs) (hn : n ≤ 1000000000) (hnc : n ≤ c) (hs : s.1 ≤ bs.length) (hAr : 0 < n → ∀ j, A.map (·.block) = some j → j ≠ g ∧ j ≠ ba ∧ j ≠ bw) :
    Calls Try.prog 43 #[.int .i64 (k : Int), .pointer (some ⟨g, o, none⟩), .pointer (some ⟨bn, 0, none⟩)] w fun e w' => e = .returned (.tuple #[]) ∧ ∃ X m cX, RowAt w' g l (.int .i64 (rdPl bs s).1.e) (.slice X m cX) r ∧ OwnV w' w.heap.size 3 X m cX ((rdPl bs s).1.l.map IV) ∧ m ≤ 255 ∧ Box w' ba (.int .i64 ((rdPl bs s).2.1 : Int)) 3 ∧ Box w' bw (.bool (rdPl bs s).2.2) 4 ∧ But [g, ba, bw] w w' := by
  have ng1 : g ≠ ba := ne_of_type hr h2 (by decide)
  have ng2 : g ≠ bw := ne_of_type hr h3 (by decide)
  have ng3 : g ≠ bb := ne_of_type hr h1 (by decide)
  have ng4 : g ≠ bn := ne_of_type hr hbn (by decide)
  have nn1 : bn ≠ ba := ne_of_type hbn h2 (by decide)
  have nn2 : bn ≠ bw := ne_of_type hbn h3 (by decide)
  have nb1 : bb ≠ ba := ne_of_type h1 h2 (by decide)
  have nb2 : bb ≠ bw := ne_of_type h1 h3 (by decide)
  obtain ⟨e1, he1⟩ : ∃ v, (nx bs 1099511627776 s).1 = v := ⟨_, rfl⟩
  obtain ⟨s1, hs1⟩ : ∃ v, (nx bs 1099511627776 s).2 = v := ⟨_, rfl⟩
  have hs1l : s1.1 ≤ bs.length := by rw [← hs1]; exact nx_at bs _ s hs
  have d0 := hbn.cell
  have hN1 := next_is w h1 h2 h3 hrd hn hnc 1099511627776 (by omega) hs
  rw [he1, hs1] at hN1
  have H := Lib.hid (And.intro hl (And.intro hr (And.intro hbn (And.intro h1 (And.intro hrd (And.intro hAr hN1))))))
  have HNE := Lib.hid (And.intro (And.intro ng1 ng2) (And.intro (And.intro ng3 ng4) (And.intro (And.intro nn1 nn2) (And.intro nb1 nb2))))
  have HS1 := Lib.hid (And.intro he1 (And.intro hs1 hs1l))
  clear hl hr hbn h1 h2 h3 hrd hAr hN1 he1 hs1 hs1l ng1 ng2 ng3 ng4 nn1 nn2 nb1 nb2
  go_enter Try.func43, Try.ntmps43
  go_wp2_with fail
  refine H.out.2.2.2.2.2.2.mono ?_
  rintro e w1 ⟨rfl, x2, x3, xb⟩
  have hr1 : RowAt w1 g l x0 x1 r := H.out.2.1.but xb (by simp; exact HNE.out.1)
  have hbn1 := H.out.2.2.1.but xb (by simp; exact HNE.out.2.2.1)
  have hbb1 := H.out.2.2.2.1.but xb (by simp; exact HNE.out.2.2.2)
  have hrd1 := rd_but H.out.2.2.2.2.1 xb (fun h0 j hj => by have := H.out.2.2.2.2.2.1 h0 j hj; simp; exact this.2)
  obtain ⟨⟨c0, c1⟩, f0, f1⟩ := hr1.cells
  rw [H.out.1] at c0 c1 f0 f1
  obtain ⟨wA, hwA⟩ : ∃ v, w1.setCell ⟨g, o, none⟩ (.int .i64 (e1 : Int)) = v := ⟨_, rfl⟩
  have hbA : But [g] w1 wA := by rw [← hwA]; exact (But.refl _ _).setCell (by simp) _
  have hrA : RowAt wA g l (.int .i64 (e1 : Int)) x1 r := by
    have := hr1.set0 (.int .i64 (e1 : Int))
    rw [H.out.1, hwA] at this
    exact this
  have x2A := x2.far hbA hr1 (by decide)
  have x3A := x3.far hbA hr1 (by decide)
  have hbnA := hbn1.far hbA hr1 (by decide)
  have hbbA := hbb1.far hbA hr1 (by decide)
  have hrdA := rd_but hrd1 hbA (fun h0 j hj => by have := H.out.2.2.2.2.2.1 h0 j hj; simp; exact this.1)
  have hB1 : But [g, ba, bw] w wA := (xb.mono (by simp)).trans (hbA.mono (by simp))
  obtain ⟨k1, hk1⟩ : ∃ v, (nx bs 255 s1).1 = v := ⟨_, rfl⟩
  obtain ⟨s2, hs2⟩ : ∃ v, (nx bs 255 s1).2 = v := ⟨_, rfl⟩
  have hN2 := next_is wA hbbA x2A x3A hrdA hn hnc 255 (by omega) HS1.out.2.2
  rw [hk1, hs2] at hN2
  have hk255 : k1 ≤ 255 := by rw [← hk1]; exact nx_le bs 255 s1
  have hs2l : s2.1 ≤ bs.length := by rw [← hs2]; exact nx_at bs _ s1 HS1.out.2.2
  have d0A := hbnA.cell
  have HA := Lib.hid (And.intro hrA (And.intro hbnA (And.intro hbbA (And.intro hrdA (And.intro hB1 hN2)))))
  have HS2 := Lib.hid (And.intro hk1 (And.intro hs2 hs2l))
  clear xb hr1 hbn1 hbb1 hrd1 hbA hrA x2A x3A hbnA hbbA hrdA hB1 hN2 hk1 hs2 hs2l x2 x3
  go_wp2_with fail
  (try rw [hwA])
  refine HA.out.2.2.2.2.2.mono ?_
  rintro e w2 ⟨rfl, x2, x3, xb⟩
  have hr2 : RowAt w2 g l (.int .i64 (e1 : Int)) x1 r := HA.out.1.but xb (by simp; exact HNE.out.1)
  have hbn2 := HA.out.2.1.but xb (by simp; exact HNE.out.2.2.1)
  have hbb2 := HA.out.2.2.1.but xb (by simp; exact HNE.out.2.2.2)
  have hrd2 := rd_but HA.out.2.2.2.1 xb (fun h0 j hj => by have := H.out.2.2.2.2.2.1 h0 j hj; simp; exact this.2)
  have hB2 : But [g, ba, bw] w w2 := HA.out.2.2.2.2.1.trans (xb.mono (by simp))
  clear c0 c1 f0 f1 d0 d0A hwA
  have mk := make28 k1 (by omega)
  obtain ⟨w3, hw3⟩ : ∃ v, w2.alloc (.cells (zr k1).toArray 3) = v := ⟨_, rfl⟩
  obtain ⟨hb3, hx3⟩ := box_new hw3
  obtain ⟨B0, hB0⟩ : ∃ b, w2.heap.size = b := ⟨_, rfl⟩
  rw [hB0] at hx3
  have hr3 : RowAt w3 g l (.int .i64 (e1 : Int)) x1 r := (hb3.block _ hr2.lt).trans hr2
  obtain ⟨⟨c0, c1⟩, f0, f1⟩ := hr3.cells
  rw [H.out.1] at c0 c1 f0 f1
  obtain ⟨w4, hw4⟩ : ∃ v, w3.setCell ⟨g, o + 1, none⟩ (.slice (some ⟨B0, 0, none⟩) k1 k1) = v := ⟨_, rfl⟩
  have hb4 : But [g] w3 w4 := by rw [← hw4]; exact (But.refl _ _).setCell (by simp) _
  have hr4 : RowAt w4 g l (.int .i64 (e1 : Int)) (.slice (some ⟨B0, 0, none⟩) k1 k1) r := by
    have := hr3.set1 (.slice (some ⟨B0, 0, none⟩) k1 k1)
    rw [H.out.1, hw4] at this
    exact this
  have hgB : g < B0 := by rw [← hB0]; exact hr2.lt
  have x2' := (x2.below hb3 (Nat.le_refl _)).far hb4 hr3 (by decide)
  have x3' := (x3.below hb3 (Nat.le_refl _)).far hb4 hr3 (by decide)
  have hbn4 := (hbn2.below hb3 (Nat.le_refl _)).far hb4 hr3 (by decide)
  have hbb4 := (hbb2.below hb3 (Nat.le_refl _)).far hb4 hr3 (by decide)
  have hrd4 := rd_but (hrd2.below hb3 (Nat.le_refl _)) hb4 (fun h0 j hj => by have := H.out.2.2.2.2.2.1 h0 j hj; simp; exact this.1)
  have hx4 : w4.heap[B0]? = some (.cells (zr k1).toArray 3 (0, 0)) := hb4.cells hx3 (by simp; omega)
  have hB4 : But [g, ba, bw] w w4 := (hB2.trans (But.of_below hb3)).trans (hb4.mono (by simp))
  have hlts : ba < B0 ∧ bw < B0 ∧ bb < B0 ∧ bn < B0 := by
    have h1 := x2.lt
    have h2 := x3.lt
    have h3 := hbb2.lt
    have h4 := hbn2.lt
    omega
  have hAB : ∀ j, A.map (·.block) = some j → 0 < n → j < B0 := fun j hj h0 => by
    obtain ⟨ad, e, hlt, _⟩ := hrd2.cells h0
    subst e
    simp at hj
    omega
  obtain ⟨⟨cc0, cc1⟩, fc0, fc1⟩ := hr4.cells
  rw [H.out.1] at cc0 cc1 fc0 fc1
  have HW := Lib.hid (And.intro hr4 (And.intro x2' (And.intro x3' (And.intro hbn4 (And.intro hbb4 (And.intro hrd4 (And.intro hx4 hB4)))))))
  have HL := Lib.hid (And.intro hgB (And.intro hlts (And.intro hAB (show w.heap.size ≤ B0 by rw [← hB0]; exact hB2.size))))
  have HB0 := Lib.hid hB0
  clear hr2 hbn2 hbb2 hrd2 hB2 xb hb3 hx3 hr3 hb4 hr4 x2' x3' hbn4 hbb4 hrd4 hx4 hB4 hgB hlts hAB x2 x3
  go_wp2
  (try rw [hw3]); (try rw [hB0]); (try rw [hw4])
  clear c0 c1 f0 f1 cc0 cc1 fc0 fc1 mk hw3 hw4 hB0
  go_loopw [5, 22] (fun _ s22 wr => ∃ j : Nat, j ≤ k1 ∧ s22 = .int .i64 j ∧ Hid (∃ vs : List Int, vs.length = k1 ∧ wr.heap[B0]? = some (.cells (vs.map IV).toArray 3 (0, 0)) ∧ (∀ i, i < j → vs[i]? = (nxs bs j s2).1[i]?) ∧ RowAt wr g l (.int .i64 (e1 : Int)) (.slice (some ⟨B0, 0, none⟩) k1 k1) r ∧ Box wr bb (.slice A n c) 34 ∧ Box wr ba (.int .i64 ((nxs bs j s2).2.1 : Int)) 3 ∧ Box wr bw (.bool (nxs bs j s2).2.2) 4 ∧ Box wr bn (nextV bb ba bw) 70 ∧ Rd wr A n bs ∧ But [g, ba, bw] w wr)) (fun _ s22 _ => k1 - (Go.RowKit.intOf s22).toNat)
  case atStart => exact ⟨0, by omega, rfl, (⟨List.replicate k1 0, by simp, HW.out.2.2.2.2.2.2.1, by simp, HW.out.1, HW.out.2.2.2.2.1, HW.out.2.1, HW.out.2.2.1, HW.out.2.2.2.1, HW.out.2.2.2.2.2.1, HW.out.2.2.2.2.2.2.2⟩ : ∃ vs : List Int, _)⟩
  case round =>
    clear HW
    obtain ⟨j, hj, rfl, HR⟩ := hrel
    obtain ⟨vs, v1, v2, v3, v4, v5, v6, v7, v8, v9, v10⟩ := HR.out
    by_cases hlt : j < k1
    · have hi1 : (0 : Int) ≤ (j : Int) := by omega
      have hi2 : (j : Int) < (k1 : Int) := by omega
      have hw1 : IntKind.i64.wrap ((j : Int) + 1) = (j : Int) + 1 := IntWalk.i64_in _ (by omega)
      obtain ⟨x, hx⟩ : ∃ x, vs[j]? = some x := ⟨_, List.getElem?_eq_getElem (by omega)⟩
      have HNB : Hid (¬ B0 = ba ∧ ¬ B0 = bw) := Lib.hid (by have := HL.out.2.1; omega)
      have HGB : Hid (¬ g = B0 ∧ ¬ bn = B0) := Lib.hid (by have h1 := HL.out.1; have h2 := HL.out.2.1; omega)
      have hlt' := Lib.hid hlt
      clear HR hlt
      go_wp2
      refine wp_region_held_drew (S := fun u => RowAt u g l (.int .i64 (e1 : Int)) (.slice (some ⟨B0, 0, none⟩) k1 k1) r ∧ Box u bn (nextV bb ba bw) 70) (by kernel_rfl) (⟨v4, v8⟩) (fun hHeld => ?_)
      refine wpAnyH_take (i := 0) (oi := ⟨some 25, _, _, _, _, _⟩) (v := ?_) rfl (by kernel_rfl) (by kernel_rfl) (by kernel_rfl) (fun _ _ _ h => h) (Or.inl ⟨by rfl, ?_⟩) (by assumption) ?_
      rotate_left
      · intro w hSw
        (try dsimp only at hSw)
        go_simp
        all_goals (with_reducible rfl)
      try simp only [Act.put, List.setIfInBounds_toArray, List.set_cons_zero, List.set_cons_succ]
      refine wpAnyH_take (i := 1) (oi := ⟨some 26, _, _, _, _, _⟩) (v := ?_) rfl (by kernel_rfl) (by kernel_rfl) (by kernel_rfl) (fun _ _ _ h => h) (Or.inl ⟨by rfl, ?_⟩) (by assumption) ?_
      rotate_left
      · intro w hSw
        (try dsimp only at hSw)
        go_simp
        all_goals (with_reducible rfl)
      try simp only [Act.put, List.setIfInBounds_toArray, List.set_cons_zero, List.set_cons_succ]
      refine wpAnyH_take (i := 2) (oi := ⟨some 27, _, _, _, _, _⟩) (v := ?_) rfl (by kernel_rfl) (by kernel_rfl) (by kernel_rfl) (fun _ _ _ h => h) (Or.inl ⟨by rfl, ?_⟩) (by assumption) ?_
      rotate_left
      · intro w hSw
        (try dsimp only at hSw)
        go_simp
        all_goals (with_reducible rfl)
      try simp only [Act.put, List.setIfInBounds_toArray, List.set_cons_zero, List.set_cons_succ]
      refine wpAnyH_take (i := 3) (oi := ⟨some 28, _, _, _, _, _⟩) (v := ?_) rfl (by kernel_rfl) (by kernel_rfl) (by kernel_rfl) (fun _ _ _ h => h) (Or.inl ⟨by rfl, ?_⟩) (by assumption) ?_
      rotate_left
      · intro w hSw
        obtain ⟨⟨_, hl1⟩, _⟩ := hSw.1.cells
        rw [H.out.1] at hl1
        go_simp
        all_goals (with_reducible rfl)
      try simp only [Act.put, List.setIfInBounds_toArray, List.set_cons_zero, List.set_cons_succ]
      refine wpAnyH_take (i := 4) (oi := ⟨some 29, _, _, _, _, _⟩) (v := ?_) rfl (by kernel_rfl) (by kernel_rfl) (by kernel_rfl) (fun _ _ _ h => h) (Or.inl ⟨by rfl, ?_⟩) (by assumption) ?_
      rotate_left
      · intro w hSw
        (try dsimp only at hSw)
        go_simp
        all_goals (with_reducible rfl)
      try simp only [Act.put, List.setIfInBounds_toArray, List.set_cons_zero, List.set_cons_succ]
      refine wpAnyH_take (i := 5) (oi := ⟨some 30, _, _, _, _, _⟩) (v := ?_) rfl (by kernel_rfl) (by kernel_rfl) (by kernel_rfl) (fun _ _ _ h => h) (Or.inl ⟨by rfl, ?_⟩) (by assumption) ?_
      rotate_left
      · intro w hSw
        have hl2 := hSw.2.cell
        go_simp
        all_goals (with_reducible rfl)
      try simp only [Act.put, List.setIfInBounds_toArray, List.set_cons_zero, List.set_cons_succ]
      refine wpAnyH_ready (rs := [6]) (by kernel_rfl) (by simp) (AllReadyH.cons (o := ⟨some 31, _, _, _, _, _⟩) rfl (fun K hK => ?_) AllReadyH.nil)
      go_simp
      refine (next_is _ (b := bs) (s := (nxs bs j s2).2) v5.drew' v6.drew' v7.drew' v9.drew hn hnc 255 (by omega) (nxs_at bs s2 HS2.out.2.2 j)).mono ?_
      rintro e wn ⟨rfl, y1, y2, y3⟩
      have z4 := v4.but (y3.of_drew) (by simp; exact HNE.out.1)
      have z8 := v8.but (y3.of_drew) (by simp; exact HNE.out.2.2.1)
      have zB := y3.of_drew.cells v2 (by simp; exact HNB.out)
      have f2 := frozen_of_row _ _ j _ 3 zB
      have e2 := cell_of_row _ _ j _ 3 (0, 0) zB
      rw [List.getElem?_toArray, List.getElem?_map, hx] at e2
      simp only [Option.map_some] at e2
      refine hK.out _ _ (⟨z4, z8⟩) (fun hHeld => ?_)
      clear hK K
      try simp only [Act.put, List.setIfInBounds_toArray, List.set_cons_zero, List.set_cons_succ]
      refine wpAnyH_take (i := 7) (oi := ⟨some 32, _, _, _, _, _⟩) (v := ?_) rfl (by kernel_rfl) (by kernel_rfl) (by kernel_rfl) (fun _ _ _ h => h) (Or.inl ⟨by rfl, ?_⟩) (by assumption) ?_
      rotate_left
      · intro w hSw
        (try dsimp only at hSw)
        go_simp
        all_goals (with_reducible rfl)
      try simp only [Act.put, List.setIfInBounds_toArray, List.set_cons_zero, List.set_cons_succ]
      refine wpAnyH_ready (rs := [8]) (by kernel_rfl) (by simp) (AllReadyH.cons (o := ⟨none, _, _, _, _, _⟩) rfl (fun K hK => ?_) AllReadyH.nil)
      go_simp
      have zz4 := z4.but ((But.refl [B0] wn).setCell (p := ⟨B0, j, none⟩) (by simp) (.int .i64 ((nx bs 255 (nxs bs j s2).2).1 : Int))) (by simp; exact HGB.out.1)
      have zz8 := z8.but ((But.refl [B0] wn).setCell (p := ⟨B0, j, none⟩) (by simp) (.int .i64 ((nx bs 255 (nxs bs j s2).2).1 : Int))) (by simp; exact HGB.out.2)
      refine hK.out _ _ ⟨zz4, zz8⟩ (fun hHeld => ?_)
      clear hK K
      try simp only [Act.put, List.setIfInBounds_toArray, List.set_cons_zero, List.set_cons_succ]
      refine wpAnyH_done (by kernel_rfl) ?_ _
      have HV := Lib.hid (And.intro v1 (And.intro v2 (And.intro v3 (And.intro v10 (And.intro hx (And.intro zz4 (And.intro zz8 (And.intro zB (And.intro y1 (And.intro y2 (And.intro (v5.but (y3.of_drew) (by simp; exact HNE.out.2.2.2)) (And.intro (rd_but v9 (y3.of_drew) (fun h0 q hq => by have := H.out.2.2.2.2.2.1 h0 q hq; simp; exact this.2)) y3.of_drew))))))))))))
      clear v1 v2 v3 v4 v5 v6 v7 v8 v9 v10 hx z4 z8 zz4 zz8 zB f2 e2 y1 y2 y3 hHeld
      go_wp2
      go_roundw
      case rel =>
        obtain ⟨v1, v2, v3, v10, hx, zz4, zz8, zB, y1, y2, zb, zr, y3⟩ := HV.out
        have hlt := hlt'.out
        have hB0w := HL.out.2.2.2
        have hlts := HL.out.2.1
        have hnl := nxs_len bs s2 j
        refine ⟨j + 1, by omega, by go_num, (⟨vs.set j ((nx bs 255 (nxs bs j s2).2).1 : Int), by simp [v1], ?_, ?_, zz4, ?_, ?_, ?_, zz8, ?_, ?_⟩ : ∃ vs : List Int, _)⟩
        · rw [heap_setCell_same wn B0 j _ 3 _ zB]
          simp [List.map_set, IV]
        · intro i hi
          rw [nxs, List.getElem?_set]
          by_cases e : j = i
          · subst e
            rw [if_pos rfl, if_pos (by omega), List.getElem?_append_right (by omega), hnl, Nat.sub_self]
            rfl
          · rw [if_neg e, List.getElem?_append_left (by omega)]
            exact v3 i (by omega)
        · exact (Below.heap_setCell _ _ _ _ (by simp; omega)).trans zb
        · exact (Below.heap_setCell _ _ _ _ (by simp; omega)).trans y1
        · exact (Below.heap_setCell _ _ _ _ (by simp; omega)).trans y2
        · exact rd_but zr ((But.refl [B0] wn).setCell (p := ⟨B0, j, none⟩) (by simp) _) (fun h0 q hq => by have := HL.out.2.2.1 q hq h0; simp; omega)
        · have h1 : But [g, ba, bw] w wn := v10.trans (y3.mono (by simp))
          exact ⟨h1.os, h1.tape, h1.output, by simpa using h1.size, fun i hi hg => (Below.heap_setCell _ _ _ _ (by simp; omega)).trans (h1.block i hi hg)⟩
      case measure => have := hlt'.out; simp [Go.RowKit.intOf]; omega
    · obtain rfl : j = k1 := by omega
      have HV := Lib.hid (And.intro v1 (And.intro v2 (And.intro v3 (And.intro v4 (And.intro v6 (And.intro v7 v10))))))
      clear HR v1 v2 v3 v4 v5 v6 v7 v8 v9 v10
      go_wp2
      go_end0
      obtain ⟨v1, v2, v3, v4, v6, v7, v10⟩ := HV.out
      have e : vs = (nxs bs j s2).1 := by
        apply List.ext_getElem?
        intro i
        by_cases hi : i < j
        · exact v3 i hi
        · rw [List.getElem?_eq_none (by omega), List.getElem?_eq_none (by rw [nxs_len]; omega)]
      have hrd : rdPl bs s = (⟨(e1 : Int), (nxs bs j s2).1⟩, (nxs bs j s2).2) := by
        unfold rdPl
        rw [HS1.out.1, HS1.out.2.1, HS2.out.1, HS2.out.2.1]
      rw [hrd]
      refine ⟨rfl, some ⟨B0, 0, none⟩, j, j, v4, ?_, hk255, v6, v7, v10⟩
      rw [← e]
      exact own_of_block HL.out.2.2.2 v2 (by simp [v1]) (by omega)
end
end Go.Proofs.Ytbilbfjmfaignaa
