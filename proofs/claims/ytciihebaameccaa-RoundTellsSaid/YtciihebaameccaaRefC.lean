/- The reference's Publish, Give, Begin. -/
import Derived.Test.YtciihebaameccaaRefB
import Derived.Test.YtciihebaameccaaRndL
namespace Go.Proofs.Ytciihebaameccaa
open Go.RowKit Go.Coop
set_option maxRecDepth 100000
/-- a round and an error; the marks are new, or those handed in -/
def TwoA (w : World) (A0 : Option Addr) (p : Rn × Int) (e : Ending) (w' : World) : Prop := ∃ A c, e = .returned (.tuple #[RVal p.1 A p.1.ms.length c, .int .i64 p.2]) ∧ RdV w' A p.1.ms.length (p.1.ms.map IV) ∧ (∀ j, A.map (·.block) = some j → w.heap.size ≤ j ∨ A0.map (·.block) = some j) ∧ Below w.heap.size w w'
theorem rbegin_right {s v d : Int} {n : Nat} (h : MayR s v n d) : RightR ⟨s, v, d, 1, List.replicate n 0⟩ := by
  have h2 := h.2.2
  refine ⟨?_, ?_, ?_⟩
  · simp only [List.length_replicate]; exact h
  · intro m hm
    have := List.eq_of_mem_replicate hm
    omega
  · show PhOk d 1 (List.replicate n 0)
    unfold PhOk
    left
    simp only [cnt_replicate, List.length_replicate]
    simp
    omega
section
variable (w : World)
set_option maxHeartbeats 2000000 in
theorem rpublish_is (s v need ph : Int) {A : Option Addr} {n c : Nat} {ms : List Int} (h : RdV w A n (ms.map IV)) (hn : n ≤ 1000000) {P : Rn × Int} (hP : Rn.publish ⟨s, v, need, ph, ms⟩ = P) : Calls Try.prog 24 #[.agg #[.int .i64 s, .int .i64 v, .int .i64 need, .int .i64 ph, .slice A n c]] w (TwoA w A P) := by
  have hln : ms.length = n := by simpa using h.len
  obtain ⟨w1, hw1⟩ : ∃ z, w.alloc (.cells #[.int .i64 s, .int .i64 v, .int .i64 need, .int .i64 ph, .slice A n c] 26) = z := ⟨_, rfl⟩
  obtain ⟨w2, hw2⟩ : ∃ z, w1.alloc (.cells #[.int .i64 0, .int .i64 0, .int .i64 0, .int .i64 0, .slice none 0 0] 26) = z := ⟨_, rfl⟩
  obtain ⟨hb1, hx1⟩ := box_new hw1
  obtain ⟨hb2, hx2⟩ := box_new hw2
  obtain ⟨b, hb⟩ : ∃ b, w.heap.size = b := ⟨_, rfl⟩
  obtain ⟨b2, hbb⟩ : ∃ b, w1.heap.size = b := ⟨_, rfl⟩
  have hlt : b < b2 := by rw [← hb, ← hbb]; exact lt_of_block hx1
  have hx12 := (hb2.block _ (lt_of_block hx1)).trans hx1
  rw [hb] at hx12
  rw [hbb] at hx2
  have hB2 := hb1.trans (hb2.mono hb1.size)
  have hR := h.below hB2 (Nat.le_refl _)
  have hne : b2 ≠ b := by omega
  have hne' : b ≠ b2 := by omega
  obtain ⟨⟨m0, m1, m2, m3, m4⟩, hbl⟩ := five26 hx12
  have HE := Lib.hid (And.intro hR (And.intro hB2 (And.intro hx12 (And.intro hx2 (And.intro hb hlt)))))
  have HRW := Lib.hid h
  clear h hR hB2 hx12 hx2 hlt hx1 hb1 hb2 hbl
  have HB_w2 := Lib.hid HE.out.2.1
  have HX_w2 := Lib.hid HE.out.2.2.1
  have HZ_w2 := Lib.hid HE.out.2.2.2.1
  have HR_w2 := Lib.hid HE.out.1
  by_cases hH : RightR ⟨s, v, need, ph, ms⟩
  · have kH := Lib.hid (decide_eq_true hH)
    by_cases hp2 : ph = 2
    · subst hp2
      have HP : Hid (P = (⟨s, v, need, 3, ms⟩, 0)) := by show _ = _; rw [← hP]; unfold Rn.publish; rw [if_pos hH, if_pos (by simp)]
      clear hP hH
      go_enter Try.func24, Try.ntmps24
      go_wp2_with fail
      (try rw [hw1]); (try rw [hw2]); (try rw [hb]); (try rw [hbb])
      clear hw1 hw2 hb hbb
      refine (rright_is _ s v need 2 HR_w2.out hn kH.out).mono ?_
      rintro e' w3 ⟨rfl, hb3⟩
      have HB_w3 := Lib.hid (HB_w2.out.trans (hb3.mono HB_w2.out.size))
      have HX_w3 := Lib.hid ((hb3.block _ (lt_of_block HX_w2.out)).trans HX_w2.out)
      have HZ_w3 := Lib.hid ((hb3.block _ (lt_of_block HZ_w2.out)).trans HZ_w2.out)
      have HR_w3 := Lib.hid (HR_w2.out.below hb3 (Nat.le_refl _))
      clear hb3 m0 m1 m2 m3 m4
      obtain ⟨⟨f0, f1, f2, f3, f4⟩, fbl⟩ := five26 HX_w3.out
      obtain ⟨g0, g1, g2, g3, g4⟩ := thaw5 HX_w3.out
      obtain ⟨⟨r0, r1, r2, r3, r4⟩, rbl⟩ := five26 HZ_w3.out
      obtain ⟨y0, y1, y2, y3, y4⟩ := thaw5 HZ_w3.out
      obtain ⟨w6, hw6⟩ : ∃ z, w3.setCell ⟨b, 3, none⟩ (.int .i64 3) = z := ⟨_, rfl⟩
      have hx6 : w6.heap[b]? = some (.cells #[.int .i64 s, .int .i64 v, .int .i64 need, .int .i64 3, .slice A n c] 26 (0, 0)) := hw6 ▸ row3 HX_w3.out
      have hbt6 : But [b] w3 w6 := hw6 ▸ (But.refl _ _).setCell (by simp) _
      have hz6 := hbt6.cells HZ_w3.out (by simpa using hne)
      have HRQ := Lib.hid (HR_w3.out.but0 hbt6 (fun h0 j hj hm => by
        obtain ⟨ad9, e9, h1, _⟩ := HRW.out.cells h0
        rw [e9] at hj
        simp at hj hm
        have := HE.out.2.2.2.2
        omega))
      have HB_w6 : Hid (Below w.heap.size w w6) := HB_w3.out.trans (hbt6.below (B := w.heap.size) HB_w3.out.size (by intro g hg; simp at hg; have := HE.out.2.2.2.2; omega))
      have HZ_w6 := Lib.hid hz6
      obtain ⟨⟨z0, z1, z2, z3, z4⟩, zbl⟩ := five26 hx6
      obtain ⟨⟨q0, q1, q2, q3, q4⟩, qbl⟩ := five26 hz6
      obtain ⟨o0, o1, o2, o3, o4⟩ := thaw5 hz6
      clear hx6 hbt6 hz6
      go_wp2
      (try rw [hw6])
      obtain ⟨hw, hr9, hb9⟩ := two_end0 (w := w) (s := s) (v := v) (need := need) (ph := 3) (c := c) HRQ.out (fun h0 j hj => by
        obtain ⟨ad9, e9, h1, _⟩ := HRW.out.cells h0
        rw [e9] at hj
        simp at hj
        have := HE.out.2.2.2.2
        omega) HZ_w6.out HB_w6.out (by have := HE.out.2.2.2.2; omega)
      rw [HP.out]
      refine bodyPost_ret (v := .tuple #[.agg #[.int .i64 s, .int .i64 v, .int .i64 need, .int .i64 3, .slice A n c], .int .i64 0]) ?_ rfl ⟨A, c, ?_, ?_, fun j hj => .inr hj, hb9⟩
      · rw [results_cell_tmp rfl]
        simp [asAddr, Result.andThen, loadv26 hw]
      · simp only [hln]
      · simp only [hln]; exact hr9
    · have HP : Hid (P = (⟨s, v, need, ph, ms⟩, 80)) := by show _ = _; rw [← hP]; unfold Rn.publish; rw [if_pos hH, if_neg (by simp only; omega)]
      have u2 : (ph == 2) = false := by simpa using hp2
      have v2 : (ph != 2) = true := by simpa using hp2
      clear hP hH hp2
      go_enter Try.func24, Try.ntmps24
      go_wp2_with fail
      (try rw [hw1]); (try rw [hw2]); (try rw [hb]); (try rw [hbb])
      clear hw1 hw2 hb hbb
      refine (rright_is _ s v need ph HR_w2.out hn kH.out).mono ?_
      rintro e' w3 ⟨rfl, hb3⟩
      have HB_w3 := Lib.hid (HB_w2.out.trans (hb3.mono HB_w2.out.size))
      have HX_w3 := Lib.hid ((hb3.block _ (lt_of_block HX_w2.out)).trans HX_w2.out)
      have HZ_w3 := Lib.hid ((hb3.block _ (lt_of_block HZ_w2.out)).trans HZ_w2.out)
      have HR_w3 := Lib.hid (HR_w2.out.below hb3 (Nat.le_refl _))
      clear hb3 m0 m1 m2 m3 m4
      obtain ⟨⟨f0, f1, f2, f3, f4⟩, fbl⟩ := five26 HX_w3.out
      obtain ⟨g0, g1, g2, g3, g4⟩ := thaw5 HX_w3.out
      obtain ⟨⟨r0, r1, r2, r3, r4⟩, rbl⟩ := five26 HZ_w3.out
      obtain ⟨y0, y1, y2, y3, y4⟩ := thaw5 HZ_w3.out
      go_wp2
      obtain ⟨hw, hr9, hb9⟩ := two_end0 (w := w) (s := s) (v := v) (need := need) (ph := ph) (c := c) HR_w3.out (fun h0 j hj => by
        obtain ⟨ad9, e9, h1, _⟩ := HRW.out.cells h0
        rw [e9] at hj
        simp at hj
        have := HE.out.2.2.2.2
        omega) HZ_w3.out HB_w3.out (by have := HE.out.2.2.2.2; omega)
      rw [HP.out]
      refine bodyPost_ret (v := .tuple #[.agg #[.int .i64 s, .int .i64 v, .int .i64 need, .int .i64 ph, .slice A n c], .int .i64 80]) ?_ rfl ⟨A, c, ?_, ?_, fun j hj => .inr hj, hb9⟩
      · rw [results_cell_tmp rfl]
        simp [asAddr, Result.andThen, loadv26 hw]
      · simp only [hln]
      · simp only [hln]; exact hr9
  · have kH := Lib.hid (decide_eq_false hH)
    have HP : Hid (P = (⟨s, v, need, ph, ms⟩, 130)) := by show _ = _; rw [← hP]; unfold Rn.publish; rw [if_neg hH]
    clear hP hH
    go_enter Try.func24, Try.ntmps24
    go_wp2_with fail
    (try rw [hw1]); (try rw [hw2]); (try rw [hb]); (try rw [hbb])
    clear hw1 hw2 hb hbb
    refine (rright_is _ s v need ph HR_w2.out hn kH.out).mono ?_
    rintro e' w3 ⟨rfl, hb3⟩
    have HB_w3 := Lib.hid (HB_w2.out.trans (hb3.mono HB_w2.out.size))
    have HX_w3 := Lib.hid ((hb3.block _ (lt_of_block HX_w2.out)).trans HX_w2.out)
    have HZ_w3 := Lib.hid ((hb3.block _ (lt_of_block HZ_w2.out)).trans HZ_w2.out)
    have HR_w3 := Lib.hid (HR_w2.out.below hb3 (Nat.le_refl _))
    clear hb3 m0 m1 m2 m3 m4
    obtain ⟨⟨f0, f1, f2, f3, f4⟩, fbl⟩ := five26 HX_w3.out
    obtain ⟨g0, g1, g2, g3, g4⟩ := thaw5 HX_w3.out
    obtain ⟨⟨r0, r1, r2, r3, r4⟩, rbl⟩ := five26 HZ_w3.out
    obtain ⟨y0, y1, y2, y3, y4⟩ := thaw5 HZ_w3.out
    go_wp2
    obtain ⟨hw, hr9, hb9⟩ := two_end0 (w := w) (s := s) (v := v) (need := need) (ph := ph) (c := c) HR_w3.out (fun h0 j hj => by
      obtain ⟨ad9, e9, h1, _⟩ := HRW.out.cells h0
      rw [e9] at hj
      simp at hj
      have := HE.out.2.2.2.2
      omega) HZ_w3.out HB_w3.out (by have := HE.out.2.2.2.2; omega)
    rw [HP.out]
    refine bodyPost_ret (v := .tuple #[.agg #[.int .i64 s, .int .i64 v, .int .i64 need, .int .i64 ph, .slice A n c], .int .i64 130]) ?_ rfl ⟨A, c, ?_, ?_, fun j hj => .inr hj, hb9⟩
    · rw [results_cell_tmp rfl]
      simp [asAddr, Result.andThen, loadv26 hw]
    · simp only [hln]
    · simp only [hln]; exact hr9
set_option maxHeartbeats 2000000 in
theorem rgive_is (s v need ph : Int) {A : Option Addr} {n c : Nat} {ms : List Int} (h : RdV w A n (ms.map IV)) (hn : n ≤ 1000000) {P : Rn × Int} (hP : Rn.give ⟨s, v, need, ph, ms⟩ = P) : Calls Try.prog 25 #[.agg #[.int .i64 s, .int .i64 v, .int .i64 need, .int .i64 ph, .slice A n c]] w (TwoA w A P) := by
  have hln : ms.length = n := by simpa using h.len
  obtain ⟨w1, hw1⟩ : ∃ z, w.alloc (.cells #[.int .i64 s, .int .i64 v, .int .i64 need, .int .i64 ph, .slice A n c] 26) = z := ⟨_, rfl⟩
  obtain ⟨w2, hw2⟩ : ∃ z, w1.alloc (.cells #[.int .i64 0, .int .i64 0, .int .i64 0, .int .i64 0, .slice none 0 0] 26) = z := ⟨_, rfl⟩
  obtain ⟨hb1, hx1⟩ := box_new hw1
  obtain ⟨hb2, hx2⟩ := box_new hw2
  obtain ⟨b, hb⟩ : ∃ b, w.heap.size = b := ⟨_, rfl⟩
  obtain ⟨b2, hbb⟩ : ∃ b, w1.heap.size = b := ⟨_, rfl⟩
  have hlt : b < b2 := by rw [← hb, ← hbb]; exact lt_of_block hx1
  have hx12 := (hb2.block _ (lt_of_block hx1)).trans hx1
  rw [hb] at hx12
  rw [hbb] at hx2
  have hB2 := hb1.trans (hb2.mono hb1.size)
  have hR := h.below hB2 (Nat.le_refl _)
  have hne : b2 ≠ b := by omega
  have hne' : b ≠ b2 := by omega
  obtain ⟨⟨m0, m1, m2, m3, m4⟩, hbl⟩ := five26 hx12
  have HE := Lib.hid (And.intro hR (And.intro hB2 (And.intro hx12 (And.intro hx2 (And.intro hb hlt)))))
  have HRW := Lib.hid h
  clear h hR hB2 hx12 hx2 hlt hx1 hb1 hb2 hbl
  have HB_w2 := Lib.hid HE.out.2.1
  have HX_w2 := Lib.hid HE.out.2.2.1
  have HZ_w2 := Lib.hid HE.out.2.2.2.1
  have HR_w2 := Lib.hid HE.out.1
  by_cases hH : RightR ⟨s, v, need, ph, ms⟩
  · have kH := Lib.hid (decide_eq_true hH)
    by_cases hp1 : ph = 1
    · subst hp1
      have HP : Hid (P = (⟨s, v, need, 5, ms⟩, 0)) := by show _ = _; rw [← hP]; unfold Rn.give; rw [if_pos hH, if_pos (by simp)]
      clear hP hH
      go_enter Try.func25, Try.ntmps25
      go_wp2_with fail
      (try rw [hw1]); (try rw [hw2]); (try rw [hb]); (try rw [hbb])
      clear hw1 hw2 hb hbb
      refine (rright_is _ s v need 1 HR_w2.out hn kH.out).mono ?_
      rintro e' w3 ⟨rfl, hb3⟩
      have HB_w3 := Lib.hid (HB_w2.out.trans (hb3.mono HB_w2.out.size))
      have HX_w3 := Lib.hid ((hb3.block _ (lt_of_block HX_w2.out)).trans HX_w2.out)
      have HZ_w3 := Lib.hid ((hb3.block _ (lt_of_block HZ_w2.out)).trans HZ_w2.out)
      have HR_w3 := Lib.hid (HR_w2.out.below hb3 (Nat.le_refl _))
      clear hb3 m0 m1 m2 m3 m4
      obtain ⟨⟨f0, f1, f2, f3, f4⟩, fbl⟩ := five26 HX_w3.out
      obtain ⟨g0, g1, g2, g3, g4⟩ := thaw5 HX_w3.out
      obtain ⟨⟨r0, r1, r2, r3, r4⟩, rbl⟩ := five26 HZ_w3.out
      obtain ⟨y0, y1, y2, y3, y4⟩ := thaw5 HZ_w3.out
      obtain ⟨w6, hw6⟩ : ∃ z, w3.setCell ⟨b, 3, none⟩ (.int .i64 5) = z := ⟨_, rfl⟩
      have hx6 : w6.heap[b]? = some (.cells #[.int .i64 s, .int .i64 v, .int .i64 need, .int .i64 5, .slice A n c] 26 (0, 0)) := hw6 ▸ row3 HX_w3.out
      have hbt6 : But [b] w3 w6 := hw6 ▸ (But.refl _ _).setCell (by simp) _
      have hz6 := hbt6.cells HZ_w3.out (by simpa using hne)
      have HRQ := Lib.hid (HR_w3.out.but0 hbt6 (fun h0 j hj hm => by
        obtain ⟨ad9, e9, h1, _⟩ := HRW.out.cells h0
        rw [e9] at hj
        simp at hj hm
        have := HE.out.2.2.2.2
        omega))
      have HB_w6 : Hid (Below w.heap.size w w6) := HB_w3.out.trans (hbt6.below (B := w.heap.size) HB_w3.out.size (by intro g hg; simp at hg; have := HE.out.2.2.2.2; omega))
      have HZ_w6 := Lib.hid hz6
      obtain ⟨⟨z0, z1, z2, z3, z4⟩, zbl⟩ := five26 hx6
      obtain ⟨⟨q0, q1, q2, q3, q4⟩, qbl⟩ := five26 hz6
      obtain ⟨o0, o1, o2, o3, o4⟩ := thaw5 hz6
      clear hx6 hbt6 hz6
      go_wp2
      (try rw [hw6])
      obtain ⟨hw, hr9, hb9⟩ := two_end0 (w := w) (s := s) (v := v) (need := need) (ph := 5) (c := c) HRQ.out (fun h0 j hj => by
        obtain ⟨ad9, e9, h1, _⟩ := HRW.out.cells h0
        rw [e9] at hj
        simp at hj
        have := HE.out.2.2.2.2
        omega) HZ_w6.out HB_w6.out (by have := HE.out.2.2.2.2; omega)
      rw [HP.out]
      refine bodyPost_ret (v := .tuple #[.agg #[.int .i64 s, .int .i64 v, .int .i64 need, .int .i64 5, .slice A n c], .int .i64 0]) ?_ rfl ⟨A, c, ?_, ?_, fun j hj => .inr hj, hb9⟩
      · rw [results_cell_tmp rfl]
        simp [asAddr, Result.andThen, loadv26 hw]
      · simp only [hln]
      · simp only [hln]; exact hr9
    · by_cases hp2 : ph = 2
      · subst hp2
        have HP : Hid (P = (⟨s, v, need, 5, ms⟩, 0)) := by show _ = _; rw [← hP]; unfold Rn.give; rw [if_pos hH, if_pos (by simp)]
        clear hP hH
        go_enter Try.func25, Try.ntmps25
        go_wp2_with fail
        (try rw [hw1]); (try rw [hw2]); (try rw [hb]); (try rw [hbb])
        clear hw1 hw2 hb hbb
        refine (rright_is _ s v need 2 HR_w2.out hn kH.out).mono ?_
        rintro e' w3 ⟨rfl, hb3⟩
        have HB_w3 := Lib.hid (HB_w2.out.trans (hb3.mono HB_w2.out.size))
        have HX_w3 := Lib.hid ((hb3.block _ (lt_of_block HX_w2.out)).trans HX_w2.out)
        have HZ_w3 := Lib.hid ((hb3.block _ (lt_of_block HZ_w2.out)).trans HZ_w2.out)
        have HR_w3 := Lib.hid (HR_w2.out.below hb3 (Nat.le_refl _))
        clear hb3 m0 m1 m2 m3 m4
        obtain ⟨⟨f0, f1, f2, f3, f4⟩, fbl⟩ := five26 HX_w3.out
        obtain ⟨g0, g1, g2, g3, g4⟩ := thaw5 HX_w3.out
        obtain ⟨⟨r0, r1, r2, r3, r4⟩, rbl⟩ := five26 HZ_w3.out
        obtain ⟨y0, y1, y2, y3, y4⟩ := thaw5 HZ_w3.out
        obtain ⟨w6, hw6⟩ : ∃ z, w3.setCell ⟨b, 3, none⟩ (.int .i64 5) = z := ⟨_, rfl⟩
        have hx6 : w6.heap[b]? = some (.cells #[.int .i64 s, .int .i64 v, .int .i64 need, .int .i64 5, .slice A n c] 26 (0, 0)) := hw6 ▸ row3 HX_w3.out
        have hbt6 : But [b] w3 w6 := hw6 ▸ (But.refl _ _).setCell (by simp) _
        have hz6 := hbt6.cells HZ_w3.out (by simpa using hne)
        have HRQ := Lib.hid (HR_w3.out.but0 hbt6 (fun h0 j hj hm => by
          obtain ⟨ad9, e9, h1, _⟩ := HRW.out.cells h0
          rw [e9] at hj
          simp at hj hm
          have := HE.out.2.2.2.2
          omega))
        have HB_w6 : Hid (Below w.heap.size w w6) := HB_w3.out.trans (hbt6.below (B := w.heap.size) HB_w3.out.size (by intro g hg; simp at hg; have := HE.out.2.2.2.2; omega))
        have HZ_w6 := Lib.hid hz6
        obtain ⟨⟨z0, z1, z2, z3, z4⟩, zbl⟩ := five26 hx6
        obtain ⟨⟨q0, q1, q2, q3, q4⟩, qbl⟩ := five26 hz6
        obtain ⟨o0, o1, o2, o3, o4⟩ := thaw5 hz6
        clear hx6 hbt6 hz6
        go_wp2
        (try rw [hw6])
        obtain ⟨hw, hr9, hb9⟩ := two_end0 (w := w) (s := s) (v := v) (need := need) (ph := 5) (c := c) HRQ.out (fun h0 j hj => by
          obtain ⟨ad9, e9, h1, _⟩ := HRW.out.cells h0
          rw [e9] at hj
          simp at hj
          have := HE.out.2.2.2.2
          omega) HZ_w6.out HB_w6.out (by have := HE.out.2.2.2.2; omega)
        rw [HP.out]
        refine bodyPost_ret (v := .tuple #[.agg #[.int .i64 s, .int .i64 v, .int .i64 need, .int .i64 5, .slice A n c], .int .i64 0]) ?_ rfl ⟨A, c, ?_, ?_, fun j hj => .inr hj, hb9⟩
        · rw [results_cell_tmp rfl]
          simp [asAddr, Result.andThen, loadv26 hw]
        · simp only [hln]
        · simp only [hln]; exact hr9
      · have HP : Hid (P = (⟨s, v, need, ph, ms⟩, 80)) := by show _ = _; rw [← hP]; unfold Rn.give; rw [if_pos hH, if_neg (by simp only; omega)]
        have u1 : (ph == 1) = false := by simpa using hp1
        have v1 : (ph != 1) = true := by simpa using hp1
        have u2 : (ph == 2) = false := by simpa using hp2
        have v2 : (ph != 2) = true := by simpa using hp2
        clear hP hH hp1 hp2
        go_enter Try.func25, Try.ntmps25
        go_wp2_with fail
        (try rw [hw1]); (try rw [hw2]); (try rw [hb]); (try rw [hbb])
        clear hw1 hw2 hb hbb
        refine (rright_is _ s v need ph HR_w2.out hn kH.out).mono ?_
        rintro e' w3 ⟨rfl, hb3⟩
        have HB_w3 := Lib.hid (HB_w2.out.trans (hb3.mono HB_w2.out.size))
        have HX_w3 := Lib.hid ((hb3.block _ (lt_of_block HX_w2.out)).trans HX_w2.out)
        have HZ_w3 := Lib.hid ((hb3.block _ (lt_of_block HZ_w2.out)).trans HZ_w2.out)
        have HR_w3 := Lib.hid (HR_w2.out.below hb3 (Nat.le_refl _))
        clear hb3 m0 m1 m2 m3 m4
        obtain ⟨⟨f0, f1, f2, f3, f4⟩, fbl⟩ := five26 HX_w3.out
        obtain ⟨g0, g1, g2, g3, g4⟩ := thaw5 HX_w3.out
        obtain ⟨⟨r0, r1, r2, r3, r4⟩, rbl⟩ := five26 HZ_w3.out
        obtain ⟨y0, y1, y2, y3, y4⟩ := thaw5 HZ_w3.out
        go_wp2
        obtain ⟨hw, hr9, hb9⟩ := two_end0 (w := w) (s := s) (v := v) (need := need) (ph := ph) (c := c) HR_w3.out (fun h0 j hj => by
          obtain ⟨ad9, e9, h1, _⟩ := HRW.out.cells h0
          rw [e9] at hj
          simp at hj
          have := HE.out.2.2.2.2
          omega) HZ_w3.out HB_w3.out (by have := HE.out.2.2.2.2; omega)
        rw [HP.out]
        refine bodyPost_ret (v := .tuple #[.agg #[.int .i64 s, .int .i64 v, .int .i64 need, .int .i64 ph, .slice A n c], .int .i64 80]) ?_ rfl ⟨A, c, ?_, ?_, fun j hj => .inr hj, hb9⟩
        · rw [results_cell_tmp rfl]
          simp [asAddr, Result.andThen, loadv26 hw]
        · simp only [hln]
        · simp only [hln]; exact hr9
  · have kH := Lib.hid (decide_eq_false hH)
    have HP : Hid (P = (⟨s, v, need, ph, ms⟩, 130)) := by show _ = _; rw [← hP]; unfold Rn.give; rw [if_neg hH]
    clear hP hH
    go_enter Try.func25, Try.ntmps25
    go_wp2_with fail
    (try rw [hw1]); (try rw [hw2]); (try rw [hb]); (try rw [hbb])
    clear hw1 hw2 hb hbb
    refine (rright_is _ s v need ph HR_w2.out hn kH.out).mono ?_
    rintro e' w3 ⟨rfl, hb3⟩
    have HB_w3 := Lib.hid (HB_w2.out.trans (hb3.mono HB_w2.out.size))
    have HX_w3 := Lib.hid ((hb3.block _ (lt_of_block HX_w2.out)).trans HX_w2.out)
    have HZ_w3 := Lib.hid ((hb3.block _ (lt_of_block HZ_w2.out)).trans HZ_w2.out)
    have HR_w3 := Lib.hid (HR_w2.out.below hb3 (Nat.le_refl _))
    clear hb3 m0 m1 m2 m3 m4
    obtain ⟨⟨f0, f1, f2, f3, f4⟩, fbl⟩ := five26 HX_w3.out
    obtain ⟨g0, g1, g2, g3, g4⟩ := thaw5 HX_w3.out
    obtain ⟨⟨r0, r1, r2, r3, r4⟩, rbl⟩ := five26 HZ_w3.out
    obtain ⟨y0, y1, y2, y3, y4⟩ := thaw5 HZ_w3.out
    go_wp2
    obtain ⟨hw, hr9, hb9⟩ := two_end0 (w := w) (s := s) (v := v) (need := need) (ph := ph) (c := c) HR_w3.out (fun h0 j hj => by
      obtain ⟨ad9, e9, h1, _⟩ := HRW.out.cells h0
      rw [e9] at hj
      simp at hj
      have := HE.out.2.2.2.2
      omega) HZ_w3.out HB_w3.out (by have := HE.out.2.2.2.2; omega)
    rw [HP.out]
    refine bodyPost_ret (v := .tuple #[.agg #[.int .i64 s, .int .i64 v, .int .i64 need, .int .i64 ph, .slice A n c], .int .i64 130]) ?_ rfl ⟨A, c, ?_, ?_, fun j hj => .inr hj, hb9⟩
    · rw [results_cell_tmp rfl]
      simp [asAddr, Result.andThen, loadv26 hw]
    · simp only [hln]
    · simp only [hln]; exact hr9
set_option maxHeartbeats 2000000 in
theorem rbegin_is (s v n need : Int) : Calls Try.prog 21 #[.int .i64 s, .int .i64 v, .int .i64 n, .int .i64 need] w (TwoR w (beginR s v n need)) := by
  obtain ⟨w1, hw1⟩ : ∃ z, w.alloc (.cells #[.int .i64 0, .int .i64 0, .int .i64 0, .int .i64 0, .slice none 0 0] 26) = z := ⟨_, rfl⟩
  obtain ⟨hb1, hx1⟩ := box_new hw1
  obtain ⟨b, hb⟩ : ∃ b, w.heap.size = b := ⟨_, rfl⟩
  rw [hb] at hx1
  have HE := Lib.hid (And.intro hb1 (And.intro hx1 hb))
  obtain ⟨⟨m0, m1, m2, m3, m4⟩, hbl⟩ := five26 hx1
  obtain ⟨g0, g1, g2, g3, g4⟩ := thaw5 hx1
  clear hb1 hx1
  by_cases hn : 1 ≤ n ∧ n ≤ 255
  · have z1 : decide (n < 1) = false := decide_eq_false (by omega)
    have z2 : decide (255 < n) = false := decide_eq_false (by omega)
    obtain ⟨k, rfl⟩ : ∃ k : Nat, n = (k : Int) := ⟨n.toNat, by omega⟩
    have hk : k ≤ 255 ∧ 1 ≤ k := by omega
    have mk := make24 k (by omega) w1
    obtain ⟨w2, hw2⟩ : ∃ z, w1.alloc (.cells (zr k).toArray 3) = z := ⟨_, rfl⟩
    have hr2 : RdV w2 (some ⟨w1.heap.size, 0, none⟩) k ((List.replicate k (0 : Int)).map IV) := by
      have := RdV.new w1 (zr k) 3 (0, 0)
      unfold zr at this hw2
      rw [hw2, List.length_map, List.length_replicate] at this
      exact this
    obtain ⟨hb2, _⟩ := box_new hw2
    rw [hw2] at mk
    obtain ⟨x1, hx1⟩ : ∃ x, w1.heap.size = x := ⟨_, rfl⟩
    rw [hx1] at mk hr2
    obtain ⟨b3, hb3⟩ : ∃ x, w2.heap.size = x := ⟨_, rfl⟩
    obtain ⟨w3, hw3⟩ : ∃ z, w2.alloc (.cells #[.int .i64 s, .int .i64 v, .int .i64 need, .int .i64 1, .slice (some ⟨x1, 0, none⟩) k k] 26) = z := ⟨_, rfl⟩
    obtain ⟨hb3', hx3⟩ := box_new hw3
    rw [hb3] at hx3
    have hzb := (hb3'.block _ (by have := lt_of_block HE.out.2.1; have := hb2.size; omega)).trans ((hb2.block _ (lt_of_block HE.out.2.1)).trans HE.out.2.1)
    have HR3 := Lib.hid (hr2.below hb3' (Nat.le_refl _))
    have HX3 := Lib.hid (And.intro hx3 (And.intro hzb (HE.out.1.trans ((hb2.trans (hb3'.mono hb2.size)).mono HE.out.1.size))))
    have HX1 := Lib.hid (And.intro hx1 (And.intro hk (lt_of_block HE.out.2.1)))
    obtain ⟨⟨f0, f1, f2, f3, f4⟩, fbl⟩ := five26 hx3
    have hls : (List.replicate k (0 : Int)).length = k := List.length_replicate
    have hne : x1 ≠ b := by have := lt_of_block HE.out.2.1; omega
    have HNE := Lib.hid hne
    clear hr2 hb2 hb3' hx3 hzb hn hk hne
    by_cases hm : MayR s v k need
    · have kM : Hid (decide (RightR ⟨s, v, need, 1, List.replicate k 0⟩) = true) := decide_eq_true (rbegin_right hm)
      have HP : Hid (beginR s v k need = (⟨s, v, need, 1, List.replicate k 0⟩, 0)) := by show _ = _; unfold beginR; rw [if_pos hm, Int.toNat_natCast]
      clear hm
      go_enter Try.func21, Try.ntmps21
      go_wp2_with fail
      (try rw [hw1]); (try rw [hw2]); (try rw [hw3]); (try rw [hb]); (try rw [hx1]); (try rw [hb3])
      refine (rright_is _ s v need 1 HR3.out (by have := HX1.out.2.1; omega) kM.out).mono ?_
      rintro e w4 ⟨rfl, hb4⟩
      have HZ4 := Lib.hid (And.intro ((hb4.block _ (lt_of_block HX3.out.2.1)).trans HX3.out.2.1) (And.intro (HX3.out.2.2.trans (hb4.mono HX3.out.2.2.size)) (HR3.out.below hb4 (Nat.le_refl _))))
      obtain ⟨⟨k0, k1, k2, k3, k4⟩, kbl⟩ := five26 ((hb4.block _ (lt_of_block HX3.out.1)).trans HX3.out.1)
      obtain ⟨⟨p0, p1, p2, p3, p4⟩, pbl⟩ := five26 HZ4.out.1
      obtain ⟨y0, y1, y2, y3, y4⟩ := thaw5 HZ4.out.1
      clear hb4 f0 f1 f2 f3 f4 m0 m1 m2 m3 m4 g0 g1 g2 g3 g4
      go_wp2
      obtain ⟨hw, hr9, hb9⟩ := two_end (w := w) (s := s) (v := v) (need := need) (ph := 1) (c := k) HZ4.out.2.2 (fun j hj => by simp at hj; have := HNE.out; omega) HZ4.out.1 HZ4.out.2.1 (by have := HE.out.2.2; omega)
      rw [HP.out]
      refine bodyPost_ret (v := .tuple #[.agg #[.int .i64 s, .int .i64 v, .int .i64 need, .int .i64 1, .slice (some ⟨x1, 0, none⟩) k k], .int .i64 0]) ?_ rfl ⟨some ⟨x1, 0, none⟩, k, ?_, ?_, (fun j hj => by simp at hj; have := HX1.out.1; have := HE.out.1.size; omega), hb9⟩
      · rw [results_cell_tmp rfl]
        simp [asAddr, Result.andThen, loadv26 hw]
      · simp only [hls]
      · simp only [hls]; exact hr9
    · have kM : Hid (decide (RightR ⟨s, v, need, 1, List.replicate k 0⟩) = false) := decide_eq_false (fun h => hm (by have := h.1; simpa using this))
      have HP : Hid (beginR s v k need = (⟨0, 0, 0, 0, []⟩, 130)) := by show _ = _; unfold beginR; rw [if_neg hm]
      clear hm
      go_enter Try.func21, Try.ntmps21
      go_wp2_with fail
      (try rw [hw1]); (try rw [hw2]); (try rw [hw3]); (try rw [hb]); (try rw [hx1]); (try rw [hb3])
      refine (rright_is _ s v need 1 HR3.out (by have := HX1.out.2.1; omega) kM.out).mono ?_
      rintro e w4 ⟨rfl, hb4⟩
      have HZ4 := Lib.hid (And.intro ((hb4.block _ (lt_of_block HX3.out.2.1)).trans HX3.out.2.1) (HX3.out.2.2.trans (hb4.mono HX3.out.2.2.size)))
      obtain ⟨⟨p0, p1, p2, p3, p4⟩, pbl⟩ := five26 HZ4.out.1
      obtain ⟨y0, y1, y2, y3, y4⟩ := thaw5 HZ4.out.1
      clear hb4 f0 f1 f2 f3 f4 m0 m1 m2 m3 m4 g0 g1 g2 g3 g4
      go_wp2
      obtain ⟨hw, hr9, hb9⟩ := two_end (w := w) (s := 0) (v := 0) (need := 0) (ph := 0) (A := none) (n := 0) (c := 0) (L := []) (RdV.nil _ _) (fun j hj => by cases hj) HZ4.out.1 HZ4.out.2 (by have := HE.out.2.2; omega)
      rw [HP.out]
      refine bodyPost_ret (v := .tuple #[.agg #[.int .i64 0, .int .i64 0, .int .i64 0, .int .i64 0, .slice none 0 0], .int .i64 130]) ?_ rfl ⟨none, 0, rfl, RdV.nil _ _, (fun j hj => by cases hj), hb9⟩
      rw [results_cell_tmp rfl]
      simp [asAddr, Result.andThen, loadv26 hw]
  · have HP : Hid (beginR s v n need = (⟨0, 0, 0, 0, []⟩, 130)) := by show _ = _; unfold beginR; rw [if_neg (fun h => hn h.2.2.1)]
    have key : decide (n < 1) = true ∨ (decide (n < 1) = false ∧ decide (255 < n) = true) := by
      by_cases h1 : n < 1
      · exact .inl (decide_eq_true h1)
      · exact .inr ⟨decide_eq_false h1, decide_eq_true (by omega)⟩
    have fin : ∃ _ : (((((w1.setCell ⟨b, 0, none⟩ (.int .i64 0)).setCell ⟨b, 1, none⟩ (.int .i64 0)).setCell ⟨b, 2, none⟩ (.int .i64 0)).setCell ⟨b, 3, none⟩ (.int .i64 0)).setCell ⟨b, 4, none⟩ (.slice none 0 0)).heap[b]? = some (.cells #[.int .i64 0, .int .i64 0, .int .i64 0, .int .i64 0, .slice none 0 0] 26 (0, 0)), _ := two_end (w := w) (s := 0) (v := 0) (need := 0) (ph := 0) (A := none) (n := 0) (c := 0) (L := []) (RdV.nil _ _) (fun j hj => by cases hj) HE.out.2.1 HE.out.1 (by have := HE.out.2.2; omega)
    obtain ⟨hw, hr9, hb9⟩ := fin
    have HF := Lib.hid (And.intro hw hb9)
    clear hn hw hr9 hb9
    rw [HP.out]
    rcases key with z1 | ⟨z1, z2⟩
    · go_enter Try.func21, Try.ntmps21
      go_wp2
      (try rw [hw1]); (try rw [hb])
      refine bodyPost_ret (v := .tuple #[.agg #[.int .i64 0, .int .i64 0, .int .i64 0, .int .i64 0, .slice none 0 0], .int .i64 130]) ?_ rfl ⟨none, 0, rfl, RdV.nil _ _, (fun j hj => by cases hj), HF.out.2⟩
      rw [results_cell_tmp rfl]
      simp [asAddr, Result.andThen, loadv26 HF.out.1]
    · go_enter Try.func21, Try.ntmps21
      go_wp2
      (try rw [hw1]); (try rw [hb])
      refine bodyPost_ret (v := .tuple #[.agg #[.int .i64 0, .int .i64 0, .int .i64 0, .int .i64 0, .slice none 0 0], .int .i64 130]) ?_ rfl ⟨none, 0, rfl, RdV.nil _ _, (fun j hj => by cases hj), HF.out.2⟩
      rw [results_cell_tmp rfl]
      simp [asAddr, Result.andThen, loadv26 HF.out.1]
end
end Go.Proofs.Ytciihebaameccaa
