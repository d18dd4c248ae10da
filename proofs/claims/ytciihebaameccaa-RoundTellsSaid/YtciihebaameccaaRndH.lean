/- Lose, turned, Publish, Give. -/
import Derived.Test.YtciihebaameccaaRndG
namespace Go.Proofs.Ytciihebaameccaa
open Go.RowKit Go.Coop
set_option maxRecDepth 100000
/-- another phase, if it is one of those -/
def turnR (r : Rn) (p : Int) (ks : List Int) : Rn × Int := if RightR r then (if r.ph ∈ ks then (⟨r.s, r.v, r.need, p, r.ms⟩, 0) else (r, 80)) else (r, 130)
theorem publish_eq (r : Rn) : r.publish = turnR r 3 [2] := by unfold Rn.publish turnR; simp
theorem give_eq (r : Rn) : r.give = turnR r 5 [1, 2] := by unfold Rn.give turnR; simp
section
variable (w : World)
set_option maxHeartbeats 4000000 in
theorem lose_is (s v need ph i : Int) {A : Option Addr} {n c : Nat} {ms : List Int} (h : RdV w A n (ms.map IV)) (hn : n ≤ 1000000) {P : Rn × Int} (hP : Rn.lose ⟨s, v, need, ph, ms⟩ i = P) : Calls Try.prog 16 #[.agg #[.int .i64 s, .int .i64 v, .int .i64 need, .int .i64 ph, .slice A n c], .int .i64 i] w (TwoR w P) := by
  have hln : ms.length = n := by simpa using h.len
  obtain ⟨w1, hw1⟩ : ∃ z, w.alloc (.cells #[.int .i64 s, .int .i64 v, .int .i64 need, .int .i64 ph, .slice A n c] 26) = z := ⟨_, rfl⟩
  obtain ⟨w2, hw2⟩ : ∃ z, w1.alloc (.cells #[.int .i64 0, .int .i64 0, .int .i64 0, .int .i64 0, .slice none 0 0] 26) = z := ⟨_, rfl⟩
  obtain ⟨hb1, hx1⟩ := box_new hw1
  obtain ⟨hb2, hx2⟩ := box_new hw2
  obtain ⟨b, hb⟩ : ∃ b, w.heap.size = b := ⟨_, rfl⟩
  obtain ⟨b2, hbb⟩ : ∃ b, w1.heap.size = b := ⟨_, rfl⟩
  have hlt : b < b2 := by rw [← hb, ← hbb]; exact lt_of_block hx1
  have hx12 := (hb2.block _ (lt_of_block hx1)).trans hx1
  rw [hb] at hx12
  rw [hbb] at hx2
  have hB2 := hb1.trans (hb2.mono hb1.size)
  have hR := h.below hB2 (Nat.le_refl _)
  have hne : b2 ≠ b := by omega
  have hne' : b ≠ b2 := by omega
  obtain ⟨⟨m0, m1, m2, m3, m4⟩, hbl⟩ := five26 hx12
  have HE := Lib.hid (And.intro hR (And.intro hB2 (And.intro hx12 (And.intro hx2 (And.intro hb hlt)))))
  clear h hR hB2 hx12 hx2 hlt hx1 hb1 hb2 hbl
  have HB_w2 := Lib.hid HE.out.2.1
  have HX_w2 := Lib.hid HE.out.2.2.1
  have HZ_w2 := Lib.hid HE.out.2.2.2.1
  have HR_w2 := Lib.hid HE.out.1
  by_cases hH : HasR ⟨s, v, need, ph, ms⟩ i
  · have kH := Lib.hid (decide_eq_true hH)
    obtain ⟨k, rfl⟩ : ∃ k : Nat, i = (k : Int) := ⟨i.toNat, by have := hH.2.1; omega⟩
    have HKN : Hid (k < n) := by show _ < _; have := hH.2.2; simp only [hln] at this; omega
    have HN : Hid (1 ≤ need ∧ need ≤ (n : Int)) := by have := hH.1.1.2.2.2; simp only [hln] at this; exact this
    by_cases hp4 : ph = 4
    · subst hp4
      have HP : Hid (P = (⟨s, v, need, 4, ms⟩, 0)) := by show _ = _; rw [← hP]; unfold Rn.lose; rw [if_pos hH, if_pos (by simp)]
      clear hP hH
      go_enter Try.func16, Try.ntmps16
      go_wp2_with fail
      (try rw [hw1]); (try rw [hw2]); (try rw [hb]); (try rw [hbb])
      clear hw1 hw2 hb hbb
      refine (hasR_is _ s v need 4 k HR_w2.out hn kH.out).mono ?_
      rintro e' w3 ⟨rfl, hb3⟩
      have HB_w3 := Lib.hid (HB_w2.out.trans (hb3.mono HB_w2.out.size))
      have HX_w3 := Lib.hid ((hb3.block _ (lt_of_block HX_w2.out)).trans HX_w2.out)
      have HZ_w3 := Lib.hid ((hb3.block _ (lt_of_block HZ_w2.out)).trans HZ_w2.out)
      have HR_w3 := Lib.hid (HR_w2.out.below hb3 (Nat.le_refl _))
      clear hb3 m0 m1 m2 m3 m4
      obtain ⟨⟨f0, f1, f2, f3, f4⟩, fbl⟩ := five26 HX_w3.out
      obtain ⟨g0, g1, g2, g3, g4⟩ := thaw5 HX_w3.out
      obtain ⟨⟨r0, r1, r2, r3, r4⟩, rbl⟩ := five26 HZ_w3.out
      obtain ⟨y0, y1, y2, y3, y4⟩ := thaw5 HZ_w3.out
      go_wp2_with fail
      refine (alone_is _ s v need 4 HR_w3.out hn).mono ?_
      rintro e' w4 ⟨A9, c9, rfl, ho9, hb9⟩
      have HB_w4 := Lib.hid (HB_w3.out.trans (hb9.mono HB_w3.out.size))
      have HX_w4 := Lib.hid ((hb9.block _ (lt_of_block HX_w3.out)).trans HX_w3.out)
      have HZ_w4 := Lib.hid ((hb9.block _ (lt_of_block HZ_w3.out)).trans HZ_w3.out)
      have HR_w4 := Lib.hid (HR_w3.out.below hb9 (Nat.le_refl _))
      simp only [hln, RVal] at ho9 ⊢
      have HO9 := Lib.hid ho9
      have HA9 : Hid (∀ j, A9.map (·.block) = some j → j ≠ b2) := fun j hj => by
        have h1 := (ho9.block j hj).1
        have h2 := lt_of_block HZ_w3.out
        omega
      have HFR : Hid (∀ j, A9.map (·.block) = some j → w.heap.size ≤ j) := fun j hj => by
        have h1 := (ho9.block j hj).1
        have h2 := HB_w3.out.size
        omega
      clear ho9 hb9
      clear f0 f1 f2 f3 f4 fbl g0 g1 g2 g3 g4 r0 r1 r2 r3 r4 rbl y0 y1 y2 y3 y4
      obtain ⟨⟨f0, f1, f2, f3, f4⟩, fbl⟩ := five26 HX_w4.out
      obtain ⟨g0, g1, g2, g3, g4⟩ := thaw5 HX_w4.out
      obtain ⟨⟨r0, r1, r2, r3, r4⟩, rbl⟩ := five26 HZ_w4.out
      obtain ⟨y0, y1, y2, y3, y4⟩ := thaw5 HZ_w4.out
      go_wp2
      obtain ⟨hw, hr9, hb9⟩ := two_end (w := w) (s := s) (v := v) (need := need) (ph := 4) (c := c9) HO9.out.rd HA9.out HZ_w4.out HB_w4.out (by have := HE.out.2.2.2.2; omega)
      rw [HP.out]
      refine bodyPost_ret (v := .tuple #[.agg #[.int .i64 s, .int .i64 v, .int .i64 need, .int .i64 4, .slice A9 n c9], .int .i64 0]) ?_ rfl ⟨A9, c9, ?_, ?_, HFR.out, hb9⟩
      · rw [results_cell_tmp rfl]
        simp [asAddr, Result.andThen, loadv26 hw]
      · simp only [hln]
      · simp only [hln]; exact hr9
    · by_cases hp6 : ph = 6
      · subst hp6
        have HP : Hid (P = (⟨s, v, need, 6, ms⟩, 0)) := by show _ = _; rw [← hP]; unfold Rn.lose; rw [if_pos hH, if_pos (by simp)]
        clear hP hH
        go_enter Try.func16, Try.ntmps16
        go_wp2_with fail
        (try rw [hw1]); (try rw [hw2]); (try rw [hb]); (try rw [hbb])
        clear hw1 hw2 hb hbb
        refine (hasR_is _ s v need 6 k HR_w2.out hn kH.out).mono ?_
        rintro e' w3 ⟨rfl, hb3⟩
        have HB_w3 := Lib.hid (HB_w2.out.trans (hb3.mono HB_w2.out.size))
        have HX_w3 := Lib.hid ((hb3.block _ (lt_of_block HX_w2.out)).trans HX_w2.out)
        have HZ_w3 := Lib.hid ((hb3.block _ (lt_of_block HZ_w2.out)).trans HZ_w2.out)
        have HR_w3 := Lib.hid (HR_w2.out.below hb3 (Nat.le_refl _))
        clear hb3 m0 m1 m2 m3 m4
        obtain ⟨⟨f0, f1, f2, f3, f4⟩, fbl⟩ := five26 HX_w3.out
        obtain ⟨g0, g1, g2, g3, g4⟩ := thaw5 HX_w3.out
        obtain ⟨⟨r0, r1, r2, r3, r4⟩, rbl⟩ := five26 HZ_w3.out
        obtain ⟨y0, y1, y2, y3, y4⟩ := thaw5 HZ_w3.out
        go_wp2_with fail
        refine (alone_is _ s v need 6 HR_w3.out hn).mono ?_
        rintro e' w4 ⟨A9, c9, rfl, ho9, hb9⟩
        have HB_w4 := Lib.hid (HB_w3.out.trans (hb9.mono HB_w3.out.size))
        have HX_w4 := Lib.hid ((hb9.block _ (lt_of_block HX_w3.out)).trans HX_w3.out)
        have HZ_w4 := Lib.hid ((hb9.block _ (lt_of_block HZ_w3.out)).trans HZ_w3.out)
        have HR_w4 := Lib.hid (HR_w3.out.below hb9 (Nat.le_refl _))
        simp only [hln, RVal] at ho9 ⊢
        have HO9 := Lib.hid ho9
        have HA9 : Hid (∀ j, A9.map (·.block) = some j → j ≠ b2) := fun j hj => by
          have h1 := (ho9.block j hj).1
          have h2 := lt_of_block HZ_w3.out
          omega
        have HFR : Hid (∀ j, A9.map (·.block) = some j → w.heap.size ≤ j) := fun j hj => by
          have h1 := (ho9.block j hj).1
          have h2 := HB_w3.out.size
          omega
        clear ho9 hb9
        clear f0 f1 f2 f3 f4 fbl g0 g1 g2 g3 g4 r0 r1 r2 r3 r4 rbl y0 y1 y2 y3 y4
        obtain ⟨⟨f0, f1, f2, f3, f4⟩, fbl⟩ := five26 HX_w4.out
        obtain ⟨g0, g1, g2, g3, g4⟩ := thaw5 HX_w4.out
        obtain ⟨⟨r0, r1, r2, r3, r4⟩, rbl⟩ := five26 HZ_w4.out
        obtain ⟨y0, y1, y2, y3, y4⟩ := thaw5 HZ_w4.out
        go_wp2
        obtain ⟨hw, hr9, hb9⟩ := two_end (w := w) (s := s) (v := v) (need := need) (ph := 6) (c := c9) HO9.out.rd HA9.out HZ_w4.out HB_w4.out (by have := HE.out.2.2.2.2; omega)
        rw [HP.out]
        refine bodyPost_ret (v := .tuple #[.agg #[.int .i64 s, .int .i64 v, .int .i64 need, .int .i64 6, .slice A9 n c9], .int .i64 0]) ?_ rfl ⟨A9, c9, ?_, ?_, HFR.out, hb9⟩
        · rw [results_cell_tmp rfl]
          simp [asAddr, Result.andThen, loadv26 hw]
        · simp only [hln]
        · simp only [hln]; exact hr9
      · have u4 : (ph == 4) = false := by simpa using hp4
        have u6 : (ph == 6) = false := by simpa using hp6
        have HP : Hid (P = (Rn.marked ⟨s, v, need, ph, ms⟩ k 0, 0)) := by show _ = _; rw [← hP]; unfold Rn.lose; rw [if_pos hH, if_neg (by simp [hp4, hp6]), Int.toNat_natCast]
        clear hP hH hp4 hp6
        go_enter Try.func16, Try.ntmps16
        go_wp2_with fail
        (try rw [hw1]); (try rw [hw2]); (try rw [hb]); (try rw [hbb])
        clear hw1 hw2 hb hbb
        refine (hasR_is _ s v need ph k HR_w2.out hn kH.out).mono ?_
        rintro e' w3 ⟨rfl, hb3⟩
        have HB_w3 := Lib.hid (HB_w2.out.trans (hb3.mono HB_w2.out.size))
        have HX_w3 := Lib.hid ((hb3.block _ (lt_of_block HX_w2.out)).trans HX_w2.out)
        have HZ_w3 := Lib.hid ((hb3.block _ (lt_of_block HZ_w2.out)).trans HZ_w2.out)
        have HR_w3 := Lib.hid (HR_w2.out.below hb3 (Nat.le_refl _))
        clear hb3 m0 m1 m2 m3 m4
        obtain ⟨⟨f0, f1, f2, f3, f4⟩, fbl⟩ := five26 HX_w3.out
        obtain ⟨g0, g1, g2, g3, g4⟩ := thaw5 HX_w3.out
        obtain ⟨⟨r0, r1, r2, r3, r4⟩, rbl⟩ := five26 HZ_w3.out
        obtain ⟨y0, y1, y2, y3, y4⟩ := thaw5 HZ_w3.out
        go_wp2_with fail
        refine (marked_is _ s v need ph HR_w3.out hn HKN.out 0 HN.out).mono ?_
        rintro e' w4 ⟨A9, c9, rfl, hr9, hA9, hb9⟩
        have hml : (Rn.marked ⟨s, v, need, ph, ms⟩ k 0).ms.length = n := by unfold Rn.marked; simp only [List.length_set]; exact hln
        obtain ⟨Q, hQ⟩ : ∃ Q, Rn.marked ⟨s, v, need, ph, ms⟩ k 0 = Q := ⟨_, rfl⟩
        have HPQ : Hid (P = (Q, 0)) := by show _ = _; rw [HP.out, hQ]
        rw [hQ] at hr9 hml ⊢
        clear hQ
        obtain ⟨qs, qv, qn, qp, qm⟩ := Q
        simp only [hml, RVal] at hr9 ⊢
        have HML := Lib.hid hml
        have HRQ := Lib.hid hr9
        have HA9 : Hid (∀ j, A9.map (·.block) = some j → j ≠ b2) := fun j hj => by
          have h1 := hA9 j hj
          have h2 := lt_of_block HZ_w3.out
          omega
        have HFR : Hid (∀ j, A9.map (·.block) = some j → w.heap.size ≤ j) := fun j hj => by
          have h1 := hA9 j hj
          have h2 := HB_w3.out.size
          omega
        have HB_w4 := Lib.hid (HB_w3.out.trans (hb9.mono HB_w3.out.size))
        have HX_w4 := Lib.hid ((hb9.block _ (lt_of_block HX_w3.out)).trans HX_w3.out)
        have HZ_w4 := Lib.hid ((hb9.block _ (lt_of_block HZ_w3.out)).trans HZ_w3.out)
        have HR_w4 := Lib.hid (HR_w3.out.below hb9 (Nat.le_refl _))
        clear f0 f1 f2 f3 f4 fbl g0 g1 g2 g3 g4 r0 r1 r2 r3 r4 rbl y0 y1 y2 y3 y4
        obtain ⟨⟨f0, f1, f2, f3, f4⟩, fbl⟩ := five26 HX_w4.out
        obtain ⟨g0, g1, g2, g3, g4⟩ := thaw5 HX_w4.out
        obtain ⟨⟨r0, r1, r2, r3, r4⟩, rbl⟩ := five26 HZ_w4.out
        obtain ⟨y0, y1, y2, y3, y4⟩ := thaw5 HZ_w4.out
        clear hr9 hA9 hb9 hml HP
        go_wp2
        obtain ⟨hw, hr9, hb9⟩ := two_end (w := w) (s := qs) (v := qv) (need := qn) (ph := qp) (c := c9) HRQ.out HA9.out HZ_w4.out HB_w4.out (by have := HE.out.2.2.2.2; omega)
        rw [HPQ.out]
        refine bodyPost_ret (v := .tuple #[.agg #[.int .i64 qs, .int .i64 qv, .int .i64 qn, .int .i64 qp, .slice A9 n c9], .int .i64 0]) ?_ rfl ⟨A9, c9, ?_, ?_, HFR.out, hb9⟩
        · rw [results_cell_tmp rfl]
          simp [asAddr, Result.andThen, loadv26 hw]
        · simp only [HML.out]
        · simp only [HML.out]; exact hr9
  · have kH := Lib.hid (decide_eq_false hH)
    have HP : Hid (P = (⟨s, v, need, ph, ms⟩, 130)) := by show _ = _; rw [← hP]; unfold Rn.lose; rw [if_neg hH]
    clear hP hH
    go_enter Try.func16, Try.ntmps16
    go_wp2_with fail
    (try rw [hw1]); (try rw [hw2]); (try rw [hb]); (try rw [hbb])
    clear hw1 hw2 hb hbb
    refine (hasR_is _ s v need ph i HR_w2.out hn kH.out).mono ?_
    rintro e' w3 ⟨rfl, hb3⟩
    have HB_w3 := Lib.hid (HB_w2.out.trans (hb3.mono HB_w2.out.size))
    have HX_w3 := Lib.hid ((hb3.block _ (lt_of_block HX_w2.out)).trans HX_w2.out)
    have HZ_w3 := Lib.hid ((hb3.block _ (lt_of_block HZ_w2.out)).trans HZ_w2.out)
    have HR_w3 := Lib.hid (HR_w2.out.below hb3 (Nat.le_refl _))
    clear hb3 m0 m1 m2 m3 m4
    obtain ⟨⟨f0, f1, f2, f3, f4⟩, fbl⟩ := five26 HX_w3.out
    obtain ⟨g0, g1, g2, g3, g4⟩ := thaw5 HX_w3.out
    obtain ⟨⟨r0, r1, r2, r3, r4⟩, rbl⟩ := five26 HZ_w3.out
    obtain ⟨y0, y1, y2, y3, y4⟩ := thaw5 HZ_w3.out
    go_wp2_with fail
    refine (alone_is _ s v need ph HR_w3.out hn).mono ?_
    rintro e' w4 ⟨A9, c9, rfl, ho9, hb9⟩
    have HB_w4 := Lib.hid (HB_w3.out.trans (hb9.mono HB_w3.out.size))
    have HX_w4 := Lib.hid ((hb9.block _ (lt_of_block HX_w3.out)).trans HX_w3.out)
    have HZ_w4 := Lib.hid ((hb9.block _ (lt_of_block HZ_w3.out)).trans HZ_w3.out)
    have HR_w4 := Lib.hid (HR_w3.out.below hb9 (Nat.le_refl _))
    simp only [hln, RVal] at ho9 ⊢
    have HO9 := Lib.hid ho9
    have HA9 : Hid (∀ j, A9.map (·.block) = some j → j ≠ b2) := fun j hj => by
      have h1 := (ho9.block j hj).1
      have h2 := lt_of_block HZ_w3.out
      omega
    have HFR : Hid (∀ j, A9.map (·.block) = some j → w.heap.size ≤ j) := fun j hj => by
      have h1 := (ho9.block j hj).1
      have h2 := HB_w3.out.size
      omega
    clear ho9 hb9
    clear f0 f1 f2 f3 f4 fbl g0 g1 g2 g3 g4 r0 r1 r2 r3 r4 rbl y0 y1 y2 y3 y4
    obtain ⟨⟨f0, f1, f2, f3, f4⟩, fbl⟩ := five26 HX_w4.out
    obtain ⟨g0, g1, g2, g3, g4⟩ := thaw5 HX_w4.out
    obtain ⟨⟨r0, r1, r2, r3, r4⟩, rbl⟩ := five26 HZ_w4.out
    obtain ⟨y0, y1, y2, y3, y4⟩ := thaw5 HZ_w4.out
    go_wp2
    obtain ⟨hw, hr9, hb9⟩ := two_end (w := w) (s := s) (v := v) (need := need) (ph := ph) (c := c9) HO9.out.rd HA9.out HZ_w4.out HB_w4.out (by have := HE.out.2.2.2.2; omega)
    rw [HP.out]
    refine bodyPost_ret (v := .tuple #[.agg #[.int .i64 s, .int .i64 v, .int .i64 need, .int .i64 ph, .slice A9 n c9], .int .i64 130]) ?_ rfl ⟨A9, c9, ?_, ?_, HFR.out, hb9⟩
    · rw [results_cell_tmp rfl]
      simp [asAddr, Result.andThen, loadv26 hw]
    · simp only [hln]
    · simp only [hln]; exact hr9
set_option maxHeartbeats 4000000 in
theorem turned_is (s v need ph : Int) {A : Option Addr} {n c : Nat} {ms : List Int} (h : RdV w A n (ms.map IV)) (hn : n ≤ 1000000) (p : Int) {K : Option Addr} {nk ck : Nat} {ks : List Int} (hK : RdV w K nk (ks.map IV)) (hnk : nk ≤ 1000000) {P : Rn × Int} (hP : turnR ⟨s, v, need, ph, ms⟩ p ks = P) : Calls Try.prog 38 #[.agg #[.int .i64 s, .int .i64 v, .int .i64 need, .int .i64 ph, .slice A n c], .int .i64 p, .slice K nk ck] w (TwoR w P) := by
  have hln : ms.length = n := by simpa using h.len
  obtain ⟨w1, hw1⟩ : ∃ z, w.alloc (.cells #[.int .i64 s, .int .i64 v, .int .i64 need, .int .i64 ph, .slice A n c] 26) = z := ⟨_, rfl⟩
  obtain ⟨w2, hw2⟩ : ∃ z, w1.alloc (.cells #[.int .i64 0, .int .i64 0, .int .i64 0, .int .i64 0, .slice none 0 0] 26) = z := ⟨_, rfl⟩
  obtain ⟨hb1, hx1⟩ := box_new hw1
  obtain ⟨hb2, hx2⟩ := box_new hw2
  obtain ⟨b, hb⟩ : ∃ b, w.heap.size = b := ⟨_, rfl⟩
  obtain ⟨b2, hbb⟩ : ∃ b, w1.heap.size = b := ⟨_, rfl⟩
  have hlt : b < b2 := by rw [← hb, ← hbb]; exact lt_of_block hx1
  have hx12 := (hb2.block _ (lt_of_block hx1)).trans hx1
  rw [hb] at hx12
  rw [hbb] at hx2
  have hB2 := hb1.trans (hb2.mono hb1.size)
  have hR := h.below hB2 (Nat.le_refl _)
  have hne : b2 ≠ b := by omega
  have hne' : b ≠ b2 := by omega
  obtain ⟨⟨m0, m1, m2, m3, m4⟩, hbl⟩ := five26 hx12
  have HE := Lib.hid (And.intro hR (And.intro hB2 (And.intro hx12 (And.intro hx2 (And.intro hb hlt)))))
  clear h hR hB2 hx12 hx2 hlt hx1 hb1 hb2 hbl
  have HB_w2 := Lib.hid HE.out.2.1
  have HX_w2 := Lib.hid HE.out.2.2.1
  have HZ_w2 := Lib.hid HE.out.2.2.2.1
  have HR_w2 := Lib.hid HE.out.1
  have HKS := Lib.hid hK
  clear hK
  by_cases hH : RightR ⟨s, v, need, ph, ms⟩
  · have kH := Lib.hid (decide_eq_true hH)
    by_cases hC : ph ∈ ks
    · have kC := Lib.hid (decide_eq_true hC)
      have HP : Hid (P = (⟨s, v, need, p, ms⟩, 0)) := by show _ = _; rw [← hP]; unfold turnR; rw [if_pos hH, if_pos hC]
      clear hP hH hC
      go_enter Try.func38, Try.ntmps38
      go_wp2_with fail
      (try rw [hw1]); (try rw [hw2]); (try rw [hb]); (try rw [hbb])
      clear hw1 hw2 hb hbb
      refine (right_is _ s v need ph HR_w2.out hn kH.out).mono ?_
      rintro e' w3 ⟨rfl, hb3⟩
      have HKS3 := Lib.hid ((HKS.out.below HE.out.2.1 (Nat.le_refl _)).below hb3 (Nat.le_refl _))
      have HB_w3 := Lib.hid (HB_w2.out.trans (hb3.mono HB_w2.out.size))
      have HX_w3 := Lib.hid ((hb3.block _ (lt_of_block HX_w2.out)).trans HX_w2.out)
      have HZ_w3 := Lib.hid ((hb3.block _ (lt_of_block HZ_w2.out)).trans HZ_w2.out)
      have HR_w3 := Lib.hid (HR_w2.out.below hb3 (Nat.le_refl _))
      clear hb3 m0 m1 m2 m3 m4
      obtain ⟨⟨f0, f1, f2, f3, f4⟩, fbl⟩ := five26 HX_w3.out
      obtain ⟨g0, g1, g2, g3, g4⟩ := thaw5 HX_w3.out
      obtain ⟨⟨r0, r1, r2, r3, r4⟩, rbl⟩ := five26 HZ_w3.out
      obtain ⟨y0, y1, y2, y3, y4⟩ := thaw5 HZ_w3.out
      go_wp2_with fail
      refine (has_is _ HKS3.out hnk ph kC.out).mono ?_
      rintro e' w' ⟨rfl, rfl⟩
      go_wp2_with fail
      refine (alone_is _ s v need ph HR_w3.out hn).mono ?_
      rintro e' w4 ⟨A9, c9, rfl, ho9, hb9⟩
      have HB_w4 := Lib.hid (HB_w3.out.trans (hb9.mono HB_w3.out.size))
      have HX_w4 := Lib.hid ((hb9.block _ (lt_of_block HX_w3.out)).trans HX_w3.out)
      have HZ_w4 := Lib.hid ((hb9.block _ (lt_of_block HZ_w3.out)).trans HZ_w3.out)
      have HR_w4 := Lib.hid (HR_w3.out.below hb9 (Nat.le_refl _))
      simp only [hln, RVal] at ho9 ⊢
      have HO9 := Lib.hid ho9
      have HA9 : Hid (∀ j, A9.map (·.block) = some j → j ≠ b ∧ j ≠ b2) := fun j hj => by
        have h1 := (ho9.block j hj).1
        have h2 := lt_of_block HZ_w3.out
        have h3 := lt_of_block HX_w3.out
        omega
      have HFR : Hid (∀ j, A9.map (·.block) = some j → w.heap.size ≤ j) := fun j hj => by
        have h1 := (ho9.block j hj).1
        have h2 := HB_w3.out.size
        omega
      clear ho9 hb9
      clear f0 f1 f2 f3 f4 fbl g0 g1 g2 g3 g4 r0 r1 r2 r3 r4 rbl y0 y1 y2 y3 y4
      obtain ⟨⟨f0, f1, f2, f3, f4⟩, fbl⟩ := five26 HX_w4.out
      obtain ⟨g0, g1, g2, g3, g4⟩ := thaw5 HX_w4.out
      obtain ⟨⟨r0, r1, r2, r3, r4⟩, rbl⟩ := five26 HZ_w4.out
      obtain ⟨y0, y1, y2, y3, y4⟩ := thaw5 HZ_w4.out
      obtain ⟨w5, hw5⟩ : ∃ z, ((((w4.setCell ⟨b, 0, none⟩ (.int .i64 s)).setCell ⟨b, 1, none⟩ (.int .i64 v)).setCell ⟨b, 2, none⟩ (.int .i64 need)).setCell ⟨b, 3, none⟩ (.int .i64 ph)).setCell ⟨b, 4, none⟩ (.slice A9 n c9) = z := ⟨_, rfl⟩
      have hx5 : w5.heap[b]? = some (.cells #[.int .i64 s, .int .i64 v, .int .i64 need, .int .i64 ph, .slice A9 n c9] 26 (0, 0)) := hw5 ▸ row5 HX_w4.out
      have hbt5 : But [b] w4 w5 := hw5 ▸ (((((But.refl _ _).setCell (by simp) _).setCell (by simp) _).setCell (by simp) _).setCell (by simp) _).setCell (by simp) _
      obtain ⟨w6, hw6⟩ : ∃ z, w5.setCell ⟨b, 3, none⟩ (.int .i64 p) = z := ⟨_, rfl⟩
      have hx6 : w6.heap[b]? = some (.cells #[.int .i64 s, .int .i64 v, .int .i64 need, .int .i64 p, .slice A9 n c9] 26 (0, 0)) := hw6 ▸ row3 hx5
      have hbt6 : But [b] w4 w6 := hw6 ▸ hbt5.setCell (by simp) _
      have hz5 := hbt5.cells HZ_w4.out (by simpa using hne)
      have hz6 := hbt6.cells HZ_w4.out (by simpa using hne)
      have HRQ := Lib.hid (HO9.out.rd.but hbt6 (fun j hj hm => (HA9.out j hj).1 (by simpa using hm)))
      have HB_w6 : Hid (Below w.heap.size w w6) := HB_w4.out.trans (hbt6.below (B := w.heap.size) HB_w4.out.size (by intro g hg; simp at hg; have := HE.out.2.2.2.2; omega))
      have HZ_w6 := Lib.hid hz6
      have HA6 : Hid (∀ j, A9.map (·.block) = some j → j ≠ b2) := fun j hj => (HA9.out j hj).2
      obtain ⟨⟨a0, a1, a2, a3, a4⟩, abl⟩ := five26 hx5
      obtain ⟨t0, t1, t2, t3, t4⟩ := thaw5 hx5
      obtain ⟨⟨z0, z1, z2, z3, z4⟩, zbl⟩ := five26 hx6
      obtain ⟨⟨q0, q1, q2, q3, q4⟩, qbl⟩ := five26 hz6
      obtain ⟨o0, o1, o2, o3, o4⟩ := thaw5 hz6
      obtain ⟨⟨j0, j1, j2, j3, j4⟩, jbl⟩ := five26 hz5
      clear hx5 hx6 hbt5 hbt6 hz5 hz6
      go_wp2
      (try rw [hw5]); (try rw [hw6])
      obtain ⟨hw, hr9, hb9⟩ := two_end (w := w) (s := s) (v := v) (need := need) (ph := p) (c := c9) HRQ.out HA6.out HZ_w6.out HB_w6.out (by have := HE.out.2.2.2.2; omega)
      rw [HP.out]
      refine bodyPost_ret (v := .tuple #[.agg #[.int .i64 s, .int .i64 v, .int .i64 need, .int .i64 p, .slice A9 n c9], .int .i64 0]) ?_ rfl ⟨A9, c9, ?_, ?_, HFR.out, hb9⟩
      · rw [results_cell_tmp rfl]
        simp [asAddr, Result.andThen, loadv26 hw]
      · simp only [hln]
      · simp only [hln]; exact hr9
    · have kC := Lib.hid (decide_eq_false hC)
      have HP : Hid (P = (⟨s, v, need, ph, ms⟩, 80)) := by show _ = _; rw [← hP]; unfold turnR; rw [if_pos hH, if_neg hC]
      clear hP hH hC
      go_enter Try.func38, Try.ntmps38
      go_wp2_with fail
      (try rw [hw1]); (try rw [hw2]); (try rw [hb]); (try rw [hbb])
      clear hw1 hw2 hb hbb
      refine (right_is _ s v need ph HR_w2.out hn kH.out).mono ?_
      rintro e' w3 ⟨rfl, hb3⟩
      have HKS3 := Lib.hid ((HKS.out.below HE.out.2.1 (Nat.le_refl _)).below hb3 (Nat.le_refl _))
      have HB_w3 := Lib.hid (HB_w2.out.trans (hb3.mono HB_w2.out.size))
      have HX_w3 := Lib.hid ((hb3.block _ (lt_of_block HX_w2.out)).trans HX_w2.out)
      have HZ_w3 := Lib.hid ((hb3.block _ (lt_of_block HZ_w2.out)).trans HZ_w2.out)
      have HR_w3 := Lib.hid (HR_w2.out.below hb3 (Nat.le_refl _))
      clear hb3 m0 m1 m2 m3 m4
      obtain ⟨⟨f0, f1, f2, f3, f4⟩, fbl⟩ := five26 HX_w3.out
      obtain ⟨g0, g1, g2, g3, g4⟩ := thaw5 HX_w3.out
      obtain ⟨⟨r0, r1, r2, r3, r4⟩, rbl⟩ := five26 HZ_w3.out
      obtain ⟨y0, y1, y2, y3, y4⟩ := thaw5 HZ_w3.out
      go_wp2_with fail
      refine (has_is _ HKS3.out hnk ph kC.out).mono ?_
      rintro e' w' ⟨rfl, rfl⟩
      go_wp2_with fail
      refine (alone_is _ s v need ph HR_w3.out hn).mono ?_
      rintro e' w4 ⟨A9, c9, rfl, ho9, hb9⟩
      have HB_w4 := Lib.hid (HB_w3.out.trans (hb9.mono HB_w3.out.size))
      have HX_w4 := Lib.hid ((hb9.block _ (lt_of_block HX_w3.out)).trans HX_w3.out)
      have HZ_w4 := Lib.hid ((hb9.block _ (lt_of_block HZ_w3.out)).trans HZ_w3.out)
      have HR_w4 := Lib.hid (HR_w3.out.below hb9 (Nat.le_refl _))
      simp only [hln, RVal] at ho9 ⊢
      have HO9 := Lib.hid ho9
      have HA9 : Hid (∀ j, A9.map (·.block) = some j → j ≠ b2) := fun j hj => by
        have h1 := (ho9.block j hj).1
        have h2 := lt_of_block HZ_w3.out
        omega
      have HFR : Hid (∀ j, A9.map (·.block) = some j → w.heap.size ≤ j) := fun j hj => by
        have h1 := (ho9.block j hj).1
        have h2 := HB_w3.out.size
        omega
      clear ho9 hb9
      clear f0 f1 f2 f3 f4 fbl g0 g1 g2 g3 g4 r0 r1 r2 r3 r4 rbl y0 y1 y2 y3 y4
      obtain ⟨⟨f0, f1, f2, f3, f4⟩, fbl⟩ := five26 HX_w4.out
      obtain ⟨g0, g1, g2, g3, g4⟩ := thaw5 HX_w4.out
      obtain ⟨⟨r0, r1, r2, r3, r4⟩, rbl⟩ := five26 HZ_w4.out
      obtain ⟨y0, y1, y2, y3, y4⟩ := thaw5 HZ_w4.out
      go_wp2
      obtain ⟨hw, hr9, hb9⟩ := two_end (w := w) (s := s) (v := v) (need := need) (ph := ph) (c := c9) HO9.out.rd HA9.out HZ_w4.out HB_w4.out (by have := HE.out.2.2.2.2; omega)
      rw [HP.out]
      refine bodyPost_ret (v := .tuple #[.agg #[.int .i64 s, .int .i64 v, .int .i64 need, .int .i64 ph, .slice A9 n c9], .int .i64 80]) ?_ rfl ⟨A9, c9, ?_, ?_, HFR.out, hb9⟩
      · rw [results_cell_tmp rfl]
        simp [asAddr, Result.andThen, loadv26 hw]
      · simp only [hln]
      · simp only [hln]; exact hr9
  · have kH := Lib.hid (decide_eq_false hH)
    have HP : Hid (P = (⟨s, v, need, ph, ms⟩, 130)) := by show _ = _; rw [← hP]; unfold turnR; rw [if_neg hH]
    clear hP hH
    go_enter Try.func38, Try.ntmps38
    go_wp2_with fail
    (try rw [hw1]); (try rw [hw2]); (try rw [hb]); (try rw [hbb])
    clear hw1 hw2 hb hbb
    refine (right_is _ s v need ph HR_w2.out hn kH.out).mono ?_
    rintro e' w3 ⟨rfl, hb3⟩
    have HKS3 := Lib.hid ((HKS.out.below HE.out.2.1 (Nat.le_refl _)).below hb3 (Nat.le_refl _))
    have HB_w3 := Lib.hid (HB_w2.out.trans (hb3.mono HB_w2.out.size))
    have HX_w3 := Lib.hid ((hb3.block _ (lt_of_block HX_w2.out)).trans HX_w2.out)
    have HZ_w3 := Lib.hid ((hb3.block _ (lt_of_block HZ_w2.out)).trans HZ_w2.out)
    have HR_w3 := Lib.hid (HR_w2.out.below hb3 (Nat.le_refl _))
    clear hb3 m0 m1 m2 m3 m4
    obtain ⟨⟨f0, f1, f2, f3, f4⟩, fbl⟩ := five26 HX_w3.out
    obtain ⟨g0, g1, g2, g3, g4⟩ := thaw5 HX_w3.out
    obtain ⟨⟨r0, r1, r2, r3, r4⟩, rbl⟩ := five26 HZ_w3.out
    obtain ⟨y0, y1, y2, y3, y4⟩ := thaw5 HZ_w3.out
    go_wp2_with fail
    refine (alone_is _ s v need ph HR_w3.out hn).mono ?_
    rintro e' w4 ⟨A9, c9, rfl, ho9, hb9⟩
    have HB_w4 := Lib.hid (HB_w3.out.trans (hb9.mono HB_w3.out.size))
    have HX_w4 := Lib.hid ((hb9.block _ (lt_of_block HX_w3.out)).trans HX_w3.out)
    have HZ_w4 := Lib.hid ((hb9.block _ (lt_of_block HZ_w3.out)).trans HZ_w3.out)
    have HR_w4 := Lib.hid (HR_w3.out.below hb9 (Nat.le_refl _))
    simp only [hln, RVal] at ho9 ⊢
    have HO9 := Lib.hid ho9
    have HA9 : Hid (∀ j, A9.map (·.block) = some j → j ≠ b2) := fun j hj => by
      have h1 := (ho9.block j hj).1
      have h2 := lt_of_block HZ_w3.out
      omega
    have HFR : Hid (∀ j, A9.map (·.block) = some j → w.heap.size ≤ j) := fun j hj => by
      have h1 := (ho9.block j hj).1
      have h2 := HB_w3.out.size
      omega
    clear ho9 hb9
    clear f0 f1 f2 f3 f4 fbl g0 g1 g2 g3 g4 r0 r1 r2 r3 r4 rbl y0 y1 y2 y3 y4
    obtain ⟨⟨f0, f1, f2, f3, f4⟩, fbl⟩ := five26 HX_w4.out
    obtain ⟨g0, g1, g2, g3, g4⟩ := thaw5 HX_w4.out
    obtain ⟨⟨r0, r1, r2, r3, r4⟩, rbl⟩ := five26 HZ_w4.out
    obtain ⟨y0, y1, y2, y3, y4⟩ := thaw5 HZ_w4.out
    go_wp2
    obtain ⟨hw, hr9, hb9⟩ := two_end (w := w) (s := s) (v := v) (need := need) (ph := ph) (c := c9) HO9.out.rd HA9.out HZ_w4.out HB_w4.out (by have := HE.out.2.2.2.2; omega)
    rw [HP.out]
    refine bodyPost_ret (v := .tuple #[.agg #[.int .i64 s, .int .i64 v, .int .i64 need, .int .i64 ph, .slice A9 n c9], .int .i64 130]) ?_ rfl ⟨A9, c9, ?_, ?_, HFR.out, hb9⟩
    · rw [results_cell_tmp rfl]
      simp [asAddr, Result.andThen, loadv26 hw]
    · simp only [hln]
    · simp only [hln]; exact hr9
set_option maxHeartbeats 4000000 in
theorem publish_is (s v need ph : Int) {A : Option Addr} {n c : Nat} {ms : List Int} (h : RdV w A n (ms.map IV)) (hn : n ≤ 1000000) {P : Rn × Int} (hP : Rn.publish ⟨s, v, need, ph, ms⟩ = P) : Calls Try.prog 12 #[.agg #[.int .i64 s, .int .i64 v, .int .i64 need, .int .i64 ph, .slice A n c]] w (TwoR w P) := by
  have hln : ms.length = n := by simpa using h.len
  obtain ⟨w1, hw1⟩ : ∃ z, w.alloc (.cells #[.int .i64 s, .int .i64 v, .int .i64 need, .int .i64 ph, .slice A n c] 26) = z := ⟨_, rfl⟩
  obtain ⟨w2, hw2⟩ : ∃ z, w1.alloc (.cells #[.int .i64 0, .int .i64 0, .int .i64 0, .int .i64 0, .slice none 0 0] 26) = z := ⟨_, rfl⟩
  obtain ⟨hb1, hx1⟩ := box_new hw1
  obtain ⟨hb2, hx2⟩ := box_new hw2
  obtain ⟨b, hb⟩ : ∃ b, w.heap.size = b := ⟨_, rfl⟩
  obtain ⟨b2, hbb⟩ : ∃ b, w1.heap.size = b := ⟨_, rfl⟩
  have hlt : b < b2 := by rw [← hb, ← hbb]; exact lt_of_block hx1
  have hx12 := (hb2.block _ (lt_of_block hx1)).trans hx1
  rw [hb] at hx12
  rw [hbb] at hx2
  have hB2 := hb1.trans (hb2.mono hb1.size)
  have hR := h.below hB2 (Nat.le_refl _)
  have hne : b2 ≠ b := by omega
  have hne' : b ≠ b2 := by omega
  obtain ⟨⟨m0, m1, m2, m3, m4⟩, hbl⟩ := five26 hx12
  have HE := Lib.hid (And.intro hR (And.intro hB2 (And.intro hx12 (And.intro hx2 (And.intro hb hlt)))))
  clear h hR hB2 hx12 hx2 hlt hx1 hb1 hb2 hbl
  have HB_w2 := Lib.hid HE.out.2.1
  have HX_w2 := Lib.hid HE.out.2.2.1
  have HZ_w2 := Lib.hid HE.out.2.2.2.1
  have HR_w2 := Lib.hid HE.out.1
  go_enter Try.func12, Try.ntmps12
  go_wp2_with fail
  (try rw [hw1]); (try rw [hw2]); (try rw [hb]); (try rw [hbb])
  clear hw1 hw2 hb hbb
  obtain ⟨w3, h_w3⟩ : ∃ z, w2.alloc (.cells #[.int .i64 2] 3) = z := ⟨_, rfl⟩
  obtain ⟨hK, hb3⟩ := lit_ints w2 [2] rfl h_w3
  have HB_w3 := Lib.hid (HB_w2.out.trans (hb3.mono HB_w2.out.size))
  have HX_w3 := Lib.hid ((hb3.block _ (lt_of_block HX_w2.out)).trans HX_w2.out)
  have HZ_w3 := Lib.hid ((hb3.block _ (lt_of_block HZ_w2.out)).trans HZ_w2.out)
  have HR_w3 := Lib.hid (HR_w2.out.below hb3 (Nat.le_refl _))
  rw [h_w3]
  have HK := Lib.hid hK
  clear hK hb3 h_w3 m0 m1 m2 m3 m4
  refine (turned_is _ s v need ph HR_w3.out hn 3 HK.out (by decide) rfl).mono ?_
  rintro e' w4 ⟨A9, c9, rfl, hr9, hA9, hb9⟩
  have hml : (turnR ⟨s, v, need, ph, ms⟩ 3 [2]).1.ms.length = n := by unfold turnR; split <;> (try split) <;> exact hln
  obtain ⟨Q, hQ⟩ : ∃ Q, turnR ⟨s, v, need, ph, ms⟩ 3 [2] = Q := ⟨_, rfl⟩
  have HPQ : Hid (P = Q) := by show _ = _; rw [← hP, ← hQ]; exact publish_eq _
  rw [hQ] at hr9 hml ⊢
  clear hQ hP
  obtain ⟨⟨qs, qv, qn, qp, qm⟩, qe⟩ := Q
  simp only [hml, RVal] at hr9 ⊢
  have HML := Lib.hid hml
  have HRQ := Lib.hid hr9
  have HA9 : Hid (∀ j, A9.map (·.block) = some j → j ≠ b2) := fun j hj => by
    have h1 := hA9 j hj
    have h2 := lt_of_block HZ_w3.out
    omega
  have HFR : Hid (∀ j, A9.map (·.block) = some j → w.heap.size ≤ j) := fun j hj => by
    have h1 := hA9 j hj
    have h2 := HB_w3.out.size
    omega
  have HB_w4 := Lib.hid (HB_w3.out.trans (hb9.mono HB_w3.out.size))
  have HX_w4 := Lib.hid ((hb9.block _ (lt_of_block HX_w3.out)).trans HX_w3.out)
  have HZ_w4 := Lib.hid ((hb9.block _ (lt_of_block HZ_w3.out)).trans HZ_w3.out)
  have HR_w4 := Lib.hid (HR_w3.out.below hb9 (Nat.le_refl _))
  obtain ⟨⟨f0, f1, f2, f3, f4⟩, fbl⟩ := five26 HX_w4.out
  obtain ⟨g0, g1, g2, g3, g4⟩ := thaw5 HX_w4.out
  obtain ⟨⟨r0, r1, r2, r3, r4⟩, rbl⟩ := five26 HZ_w4.out
  obtain ⟨y0, y1, y2, y3, y4⟩ := thaw5 HZ_w4.out
  clear hr9 hA9 hb9 hml
  go_wp2
  obtain ⟨hw, hr9, hb9⟩ := two_end (w := w) (s := qs) (v := qv) (need := qn) (ph := qp) (c := c9) HRQ.out HA9.out HZ_w4.out HB_w4.out (by have := HE.out.2.2.2.2; omega)
  rw [HPQ.out]
  refine bodyPost_ret (v := .tuple #[.agg #[.int .i64 qs, .int .i64 qv, .int .i64 qn, .int .i64 qp, .slice A9 n c9], .int .i64 qe]) ?_ rfl ⟨A9, c9, ?_, ?_, HFR.out, hb9⟩
  · rw [results_cell_tmp rfl]
    simp [asAddr, Result.andThen, loadv26 hw]
  · simp only [HML.out]
  · simp only [HML.out]; exact hr9
set_option maxHeartbeats 4000000 in
theorem give_is (s v need ph : Int) {A : Option Addr} {n c : Nat} {ms : List Int} (h : RdV w A n (ms.map IV)) (hn : n ≤ 1000000) {P : Rn × Int} (hP : Rn.give ⟨s, v, need, ph, ms⟩ = P) : Calls Try.prog 13 #[.agg #[.int .i64 s, .int .i64 v, .int .i64 need, .int .i64 ph, .slice A n c]] w (TwoR w P) := by
  have hln : ms.length = n := by simpa using h.len
  obtain ⟨w1, hw1⟩ : ∃ z, w.alloc (.cells #[.int .i64 s, .int .i64 v, .int .i64 need, .int .i64 ph, .slice A n c] 26) = z := ⟨_, rfl⟩
  obtain ⟨w2, hw2⟩ : ∃ z, w1.alloc (.cells #[.int .i64 0, .int .i64 0, .int .i64 0, .int .i64 0, .slice none 0 0] 26) = z := ⟨_, rfl⟩
  obtain ⟨hb1, hx1⟩ := box_new hw1
  obtain ⟨hb2, hx2⟩ := box_new hw2
  obtain ⟨b, hb⟩ : ∃ b, w.heap.size = b := ⟨_, rfl⟩
  obtain ⟨b2, hbb⟩ : ∃ b, w1.heap.size = b := ⟨_, rfl⟩
  have hlt : b < b2 := by rw [← hb, ← hbb]; exact lt_of_block hx1
  have hx12 := (hb2.block _ (lt_of_block hx1)).trans hx1
  rw [hb] at hx12
  rw [hbb] at hx2
  have hB2 := hb1.trans (hb2.mono hb1.size)
  have hR := h.below hB2 (Nat.le_refl _)
  have hne : b2 ≠ b := by omega
  have hne' : b ≠ b2 := by omega
  obtain ⟨⟨m0, m1, m2, m3, m4⟩, hbl⟩ := five26 hx12
  have HE := Lib.hid (And.intro hR (And.intro hB2 (And.intro hx12 (And.intro hx2 (And.intro hb hlt)))))
  clear h hR hB2 hx12 hx2 hlt hx1 hb1 hb2 hbl
  have HB_w2 := Lib.hid HE.out.2.1
  have HX_w2 := Lib.hid HE.out.2.2.1
  have HZ_w2 := Lib.hid HE.out.2.2.2.1
  have HR_w2 := Lib.hid HE.out.1
  go_enter Try.func13, Try.ntmps13
  go_wp2_with fail
  (try rw [hw1]); (try rw [hw2]); (try rw [hb]); (try rw [hbb])
  clear hw1 hw2 hb hbb
  obtain ⟨w3, h_w3⟩ : ∃ z, w2.alloc (.cells #[.int .i64 1, .int .i64 2] 3) = z := ⟨_, rfl⟩
  obtain ⟨hK, hb3⟩ := lit_ints w2 [1, 2] rfl h_w3
  have HB_w3 := Lib.hid (HB_w2.out.trans (hb3.mono HB_w2.out.size))
  have HX_w3 := Lib.hid ((hb3.block _ (lt_of_block HX_w2.out)).trans HX_w2.out)
  have HZ_w3 := Lib.hid ((hb3.block _ (lt_of_block HZ_w2.out)).trans HZ_w2.out)
  have HR_w3 := Lib.hid (HR_w2.out.below hb3 (Nat.le_refl _))
  rw [h_w3]
  have HK := Lib.hid hK
  clear hK hb3 h_w3 m0 m1 m2 m3 m4
  refine (turned_is _ s v need ph HR_w3.out hn 5 HK.out (by decide) rfl).mono ?_
  rintro e' w4 ⟨A9, c9, rfl, hr9, hA9, hb9⟩
  have hml : (turnR ⟨s, v, need, ph, ms⟩ 5 [1, 2]).1.ms.length = n := by unfold turnR; split <;> (try split) <;> exact hln
  obtain ⟨Q, hQ⟩ : ∃ Q, turnR ⟨s, v, need, ph, ms⟩ 5 [1, 2] = Q := ⟨_, rfl⟩
  have HPQ : Hid (P = Q) := by show _ = _; rw [← hP, ← hQ]; exact give_eq _
  rw [hQ] at hr9 hml ⊢
  clear hQ hP
  obtain ⟨⟨qs, qv, qn, qp, qm⟩, qe⟩ := Q
  simp only [hml, RVal] at hr9 ⊢
  have HML := Lib.hid hml
  have HRQ := Lib.hid hr9
  have HA9 : Hid (∀ j, A9.map (·.block) = some j → j ≠ b2) := fun j hj => by
    have h1 := hA9 j hj
    have h2 := lt_of_block HZ_w3.out
    omega
  have HFR : Hid (∀ j, A9.map (·.block) = some j → w.heap.size ≤ j) := fun j hj => by
    have h1 := hA9 j hj
    have h2 := HB_w3.out.size
    omega
  have HB_w4 := Lib.hid (HB_w3.out.trans (hb9.mono HB_w3.out.size))
  have HX_w4 := Lib.hid ((hb9.block _ (lt_of_block HX_w3.out)).trans HX_w3.out)
  have HZ_w4 := Lib.hid ((hb9.block _ (lt_of_block HZ_w3.out)).trans HZ_w3.out)
  have HR_w4 := Lib.hid (HR_w3.out.below hb9 (Nat.le_refl _))
  obtain ⟨⟨f0, f1, f2, f3, f4⟩, fbl⟩ := five26 HX_w4.out
  obtain ⟨g0, g1, g2, g3, g4⟩ := thaw5 HX_w4.out
  obtain ⟨⟨r0, r1, r2, r3, r4⟩, rbl⟩ := five26 HZ_w4.out
  obtain ⟨y0, y1, y2, y3, y4⟩ := thaw5 HZ_w4.out
  clear hr9 hA9 hb9 hml
  go_wp2
  obtain ⟨hw, hr9, hb9⟩ := two_end (w := w) (s := qs) (v := qv) (need := qn) (ph := qp) (c := c9) HRQ.out HA9.out HZ_w4.out HB_w4.out (by have := HE.out.2.2.2.2; omega)
  rw [HPQ.out]
  refine bodyPost_ret (v := .tuple #[.agg #[.int .i64 qs, .int .i64 qv, .int .i64 qn, .int .i64 qp, .slice A9 n c9], .int .i64 qe]) ?_ rfl ⟨A9, c9, ?_, ?_, HFR.out, hb9⟩
  · rw [results_cell_tmp rfl]
    simp [asAddr, Result.andThen, loadv26 hw]
  · simp only [HML.out]
  · simp only [HML.out]; exact hr9
end
end Go.Proofs.Ytciihebaameccaa
