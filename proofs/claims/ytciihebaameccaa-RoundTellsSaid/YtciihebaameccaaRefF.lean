/- The reference's Lose. -/
import Derived.Test.YtciihebaameccaaRefE
import Derived.Deep.RegionLaw
namespace Go.Coop
theorem step_appV {P : Program} {w : World} {ops : Array Oper} {o : Oper} {a : Act} {K : Act → World → Prop} {Q : Exit → Act → World → Prop} {Z : Prop} (hgd : o.guard = none) (s x : Operand) (t : TypeId)
    (ho : o.op = .call { callee := .builtin .append, args := #[s, x], argTypes := #[t, t] })
    (base : Nat) (E : TypeId) (z : Value) (bytes : Nat) (ht : P.underlying t = some (.slice E)) (hi : (P.info? E).map (fun i => (i.zero, i.size, i.bytes)) = some (some z, 1, bytes)) (hz1 : z.cells.size = 1)
    {A : Option Addr} {n c : Nat} {vs : List Value} (hs : a.eval s = .slice A n c) (hown : OwnV w base E A n c vs) {B : Option Addr} {m d : Nat} {us : List Value} (hx : a.eval x = .slice B m d) (hr : RdV w B m us) (h1 : ∀ u ∈ us, u.oneCell' = true)
    (hsz : (n + m) * bytes ≤ 140737488355328) (hmax : n + m ≤ 140737488355328) (hbase : base ≤ w.heap.size) (N : Nat) (hN : N = n + m)
    (h : ∀ A' c' w', OwnV w' base E A' N c' (vs ++ us) → w.grownBy w' (A.map (·.block)) → (A'.map (·.block) = A.map (·.block) ∨ A'.map (·.block) = some w.heap.size) → K (a.put o.dst (.slice A' N c')) w') : if Region.wanted o (yielded ops a.tmps) = true then Oper.wp P o a w K Q else Z := by
  have hw : Region.wanted o (yielded ops a.tmps) = true := by simp [Region.wanted, hgd]
  rw [if_pos hw]
  exact wp_appV w s x t ho base E z bytes ht hi hz1 hs hown hx hr h1 hsz hmax hbase N hN h
/-- what is lost leaves the phase, but where the round is ready -/
theorem lose_stays {r : Rn} (h : RightR r) (hp : r.ph = 1 ∨ r.ph = 3 ∨ r.ph = 5) {k : Nat} {m : Int} (hm : r.ms[k]? = some m) : phaseR r.ph r.need (r.ms.set k 0) = r.ph := by
  have h3 := h.2.2
  unfold PhOk at h3
  have c1 := cnt_set 1 (x := 0) hm
  have c2 := cnt_set 2 (x := 0) hm
  have c3 := cnt_set 3 (x := 0) hm
  have c4 := cnt_set 4 (x := 0) hm
  rw [if_neg (show ¬ (0 : Int) = 1 by omega)] at c1
  rw [if_neg (show ¬ (0 : Int) = 2 by omega)] at c2
  rw [if_neg (show ¬ (0 : Int) = 3 by omega)] at c3
  rw [if_neg (show ¬ (0 : Int) = 4 by omega)] at c4
  have d1 : cnt 1 (r.ms.set k 0) ≤ cnt 1 r.ms := by split at c1 <;> omega
  have d2 : cnt 2 (r.ms.set k 0) ≤ cnt 2 r.ms := by split at c2 <;> omega
  have d3 : cnt 3 (r.ms.set k 0) ≤ cnt 3 r.ms := by split at c3 <;> omega
  have d4 : cnt 4 (r.ms.set k 0) ≤ cnt 4 r.ms := by split at c4 <;> omega
  clear c1 c2 c3 c4
  unfold phaseR
  rw [List.length_set]
  (repeat' split) <;> omega
end Go.Coop
namespace Go.Proofs.Ytciihebaameccaa
open Go.RowKit Go.Coop
set_option maxRecDepth 100000
section
variable (w : World)
set_option maxHeartbeats 4000000 in
theorem rlose_is (s v need ph i : Int) {A : Option Addr} {n c : Nat} {ms : List Int} (h : RdV w A n (ms.map IV)) (hn : n ≤ 1000000) {P : Rn × Int} (hP : Rn.lose ⟨s, v, need, ph, ms⟩ i = P) : Calls Try.prog 26 #[.agg #[.int .i64 s, .int .i64 v, .int .i64 need, .int .i64 ph, .slice A n c], .int .i64 i] w (TwoA w A P) := by
  have hln : ms.length = n := by simpa using h.len
  obtain ⟨w1, hw1⟩ : ∃ z, w.alloc (.cells #[.int .i64 s, .int .i64 v, .int .i64 need, .int .i64 ph, .slice A n c] 26) = z := ⟨_, rfl⟩
  obtain ⟨w2, hw2⟩ : ∃ z, w1.alloc (.cells #[.int .i64 0, .int .i64 0, .int .i64 0, .int .i64 0, .slice none 0 0] 26) = z := ⟨_, rfl⟩
  obtain ⟨hb1, hx1⟩ := box_new hw1
  obtain ⟨hb2, hx2⟩ := box_new hw2
  obtain ⟨b, hb⟩ : ∃ b, w.heap.size = b := ⟨_, rfl⟩
  obtain ⟨b2, hbb⟩ : ∃ b, w1.heap.size = b := ⟨_, rfl⟩
  have hlt : b < b2 := by rw [← hb, ← hbb]; exact lt_of_block hx1
  have hx12 := (hb2.block _ (lt_of_block hx1)).trans hx1
  rw [hb] at hx12
  rw [hbb] at hx2
  have hB2 := hb1.trans (hb2.mono hb1.size)
  have hR := h.below hB2 (Nat.le_refl _)
  have hne : b2 ≠ b := by omega
  have hne' : b ≠ b2 := by omega
  obtain ⟨⟨m0, m1, m2, m3, m4⟩, hbl⟩ := five26 hx12
  have HE := Lib.hid (And.intro hR (And.intro hB2 (And.intro hx12 (And.intro hx2 (And.intro hb hlt)))))
  have HRW := Lib.hid h
  clear h hR hB2 hx12 hx2 hlt hx1 hb1 hb2 hbl
  have HB_w2 := Lib.hid HE.out.2.1
  have HX_w2 := Lib.hid HE.out.2.2.1
  have HZ_w2 := Lib.hid HE.out.2.2.2.1
  have HR_w2 := Lib.hid HE.out.1
  by_cases hH : RightR ⟨s, v, need, ph, ms⟩
  · by_cases hi0 : i < 0
    · have kH := Lib.hid (decide_eq_true hH)
      have HP : Hid (P = (⟨s, v, need, ph, ms⟩, 130)) := by show _ = _; rw [← hP]; unfold Rn.lose; rw [if_neg (fun hh => by have h1 := hh.2; simp only [hln] at h1; omega)]
      have z0 : decide (i < 0) = true := decide_eq_true hi0
      clear hP hH hi0
      go_enter Try.func26, Try.ntmps26
      go_wp2_with fail
      (try rw [hw1]); (try rw [hw2]); (try rw [hb]); (try rw [hbb])
      clear hw1 hw2 hb hbb
      refine (rright_is _ s v need ph HR_w2.out hn kH.out).mono ?_
      rintro e' w3 ⟨rfl, hb3⟩
      have HB_w3 := Lib.hid (HB_w2.out.trans (hb3.mono HB_w2.out.size))
      have HX_w3 := Lib.hid ((hb3.block _ (lt_of_block HX_w2.out)).trans HX_w2.out)
      have HZ_w3 := Lib.hid ((hb3.block _ (lt_of_block HZ_w2.out)).trans HZ_w2.out)
      have HR_w3 := Lib.hid (HR_w2.out.below hb3 (Nat.le_refl _))
      clear hb3 m0 m1 m2 m3 m4
      obtain ⟨⟨f0, f1, f2, f3, f4⟩, fbl⟩ := five26 HX_w3.out
      obtain ⟨g0, g1, g2, g3, g4⟩ := thaw5 HX_w3.out
      obtain ⟨⟨r0, r1, r2, r3, r4⟩, rbl⟩ := five26 HZ_w3.out
      obtain ⟨y0, y1, y2, y3, y4⟩ := thaw5 HZ_w3.out
      go_wp2
      obtain ⟨hw, hr9, hb9⟩ := two_end0 (w := w) (s := s) (v := v) (need := need) (ph := ph) (c := c) HR_w3.out (fun h0 j hj => by
        obtain ⟨ad9, e9, h1, _⟩ := HRW.out.cells h0
        rw [e9] at hj
        simp at hj
        have := HE.out.2.2.2.2
        omega) HZ_w3.out HB_w3.out (by have := HE.out.2.2.2.2; omega)
      rw [HP.out]
      refine bodyPost_ret (v := .tuple #[.agg #[.int .i64 s, .int .i64 v, .int .i64 need, .int .i64 ph, .slice A n c], .int .i64 130]) ?_ rfl ⟨A, c, ?_, ?_, fun j hj => .inr hj, hb9⟩
      · rw [results_cell_tmp rfl]
        simp [asAddr, Result.andThen, loadv26 hw]
      · simp only [hln]
      · simp only [hln]; exact hr9
    · by_cases hin : (n : Int) ≤ i
      · have kH := Lib.hid (decide_eq_true hH)
        have HP : Hid (P = (⟨s, v, need, ph, ms⟩, 130)) := by show _ = _; rw [← hP]; unfold Rn.lose; rw [if_neg (fun hh => by have h1 := hh.2; simp only [hln] at h1; omega)]
        have z0 : decide (i < 0) = false := decide_eq_false hi0
        have z1 : decide ((n : Int) ≤ i) = true := decide_eq_true hin
        clear hP hH hi0 hin
        go_enter Try.func26, Try.ntmps26
        go_wp2_with fail
        (try rw [hw1]); (try rw [hw2]); (try rw [hb]); (try rw [hbb])
        clear hw1 hw2 hb hbb
        refine (rright_is _ s v need ph HR_w2.out hn kH.out).mono ?_
        rintro e' w3 ⟨rfl, hb3⟩
        have HB_w3 := Lib.hid (HB_w2.out.trans (hb3.mono HB_w2.out.size))
        have HX_w3 := Lib.hid ((hb3.block _ (lt_of_block HX_w2.out)).trans HX_w2.out)
        have HZ_w3 := Lib.hid ((hb3.block _ (lt_of_block HZ_w2.out)).trans HZ_w2.out)
        have HR_w3 := Lib.hid (HR_w2.out.below hb3 (Nat.le_refl _))
        clear hb3 m0 m1 m2 m3 m4
        obtain ⟨⟨f0, f1, f2, f3, f4⟩, fbl⟩ := five26 HX_w3.out
        obtain ⟨g0, g1, g2, g3, g4⟩ := thaw5 HX_w3.out
        obtain ⟨⟨r0, r1, r2, r3, r4⟩, rbl⟩ := five26 HZ_w3.out
        obtain ⟨y0, y1, y2, y3, y4⟩ := thaw5 HZ_w3.out
        go_wp2
        obtain ⟨hw, hr9, hb9⟩ := two_end0 (w := w) (s := s) (v := v) (need := need) (ph := ph) (c := c) HR_w3.out (fun h0 j hj => by
          obtain ⟨ad9, e9, h1, _⟩ := HRW.out.cells h0
          rw [e9] at hj
          simp at hj
          have := HE.out.2.2.2.2
          omega) HZ_w3.out HB_w3.out (by have := HE.out.2.2.2.2; omega)
        rw [HP.out]
        refine bodyPost_ret (v := .tuple #[.agg #[.int .i64 s, .int .i64 v, .int .i64 need, .int .i64 ph, .slice A n c], .int .i64 130]) ?_ rfl ⟨A, c, ?_, ?_, fun j hj => .inr hj, hb9⟩
        · rw [results_cell_tmp rfl]
          simp [asAddr, Result.andThen, loadv26 hw]
        · simp only [hln]
        · simp only [hln]; exact hr9
      · have kH := Lib.hid (decide_eq_true hH)
        have z0 : decide (i < 0) = false := decide_eq_false hi0
        have z1 : decide ((n : Int) ≤ i) = false := decide_eq_false hin
        obtain ⟨k, rfl⟩ : ∃ k : Nat, i = (k : Int) := ⟨i.toNat, by omega⟩
        have hkn : k < n := by omega
        have z3 : decide (n ≤ k) = false := decide_eq_false (by omega)
        obtain ⟨y, hy⟩ : ∃ y, ms[k]? = some y := ⟨_, List.getElem?_eq_getElem (by omega)⟩
        have hHas : HasR ⟨s, v, need, ph, ms⟩ (k : Int) := ⟨hH, by omega, by simp only [hln]; omega⟩
        by_cases h4 : ph = 4
        · subst h4
          have HP : Hid (P = (⟨s, v, need, 4, ms⟩, 0)) := by show _ = _; rw [← hP]; unfold Rn.lose; rw [if_pos hHas, if_pos (by simp)]
          clear hP hH hi0 hin hHas hy
          go_enter Try.func26, Try.ntmps26
          go_wp2_with fail
          (try rw [hw1]); (try rw [hw2]); (try rw [hb]); (try rw [hbb])
          clear hw1 hw2 hb hbb
          refine (rright_is _ s v need 4 HR_w2.out hn kH.out).mono ?_
          rintro e' w3 ⟨rfl, hb3⟩
          have HB_w3 := Lib.hid (HB_w2.out.trans (hb3.mono HB_w2.out.size))
          have HX_w3 := Lib.hid ((hb3.block _ (lt_of_block HX_w2.out)).trans HX_w2.out)
          have HZ_w3 := Lib.hid ((hb3.block _ (lt_of_block HZ_w2.out)).trans HZ_w2.out)
          have HR_w3 := Lib.hid (HR_w2.out.below hb3 (Nat.le_refl _))
          clear hb3 m0 m1 m2 m3 m4
          obtain ⟨⟨f0, f1, f2, f3, f4⟩, fbl⟩ := five26 HX_w3.out
          obtain ⟨g0, g1, g2, g3, g4⟩ := thaw5 HX_w3.out
          obtain ⟨⟨r0, r1, r2, r3, r4⟩, rbl⟩ := five26 HZ_w3.out
          obtain ⟨y0, y1, y2, y3, y4⟩ := thaw5 HZ_w3.out
          go_wp2
          obtain ⟨hw, hr9, hb9⟩ := two_end0 (w := w) (s := s) (v := v) (need := need) (ph := 4) (c := c) HR_w3.out (fun h0 j hj => by
            obtain ⟨ad9, e9, h1, _⟩ := HRW.out.cells h0
            rw [e9] at hj
            simp at hj
            have := HE.out.2.2.2.2
            omega) HZ_w3.out HB_w3.out (by have := HE.out.2.2.2.2; omega)
          rw [HP.out]
          refine bodyPost_ret (v := .tuple #[.agg #[.int .i64 s, .int .i64 v, .int .i64 need, .int .i64 4, .slice A n c], .int .i64 0]) ?_ rfl ⟨A, c, ?_, ?_, fun j hj => .inr hj, hb9⟩
          · rw [results_cell_tmp rfl]
            simp [asAddr, Result.andThen, loadv26 hw]
          · simp only [hln]
          · simp only [hln]; exact hr9
        · by_cases h6 : ph = 6
          · clear h4
            subst h6
            have HP : Hid (P = (⟨s, v, need, 6, ms⟩, 0)) := by show _ = _; rw [← hP]; unfold Rn.lose; rw [if_pos hHas, if_pos (by simp)]
            clear hP hH hi0 hin hHas hy
            go_enter Try.func26, Try.ntmps26
            go_wp2_with fail
            (try rw [hw1]); (try rw [hw2]); (try rw [hb]); (try rw [hbb])
            clear hw1 hw2 hb hbb
            refine (rright_is _ s v need 6 HR_w2.out hn kH.out).mono ?_
            rintro e' w3 ⟨rfl, hb3⟩
            have HB_w3 := Lib.hid (HB_w2.out.trans (hb3.mono HB_w2.out.size))
            have HX_w3 := Lib.hid ((hb3.block _ (lt_of_block HX_w2.out)).trans HX_w2.out)
            have HZ_w3 := Lib.hid ((hb3.block _ (lt_of_block HZ_w2.out)).trans HZ_w2.out)
            have HR_w3 := Lib.hid (HR_w2.out.below hb3 (Nat.le_refl _))
            clear hb3 m0 m1 m2 m3 m4
            obtain ⟨⟨f0, f1, f2, f3, f4⟩, fbl⟩ := five26 HX_w3.out
            obtain ⟨g0, g1, g2, g3, g4⟩ := thaw5 HX_w3.out
            obtain ⟨⟨r0, r1, r2, r3, r4⟩, rbl⟩ := five26 HZ_w3.out
            obtain ⟨y0, y1, y2, y3, y4⟩ := thaw5 HZ_w3.out
            go_wp2
            obtain ⟨hw, hr9, hb9⟩ := two_end0 (w := w) (s := s) (v := v) (need := need) (ph := 6) (c := c) HR_w3.out (fun h0 j hj => by
              obtain ⟨ad9, e9, h1, _⟩ := HRW.out.cells h0
              rw [e9] at hj
              simp at hj
              have := HE.out.2.2.2.2
              omega) HZ_w3.out HB_w3.out (by have := HE.out.2.2.2.2; omega)
            rw [HP.out]
            refine bodyPost_ret (v := .tuple #[.agg #[.int .i64 s, .int .i64 v, .int .i64 need, .int .i64 6, .slice A n c], .int .i64 0]) ?_ rfl ⟨A, c, ?_, ?_, fun j hj => .inr hj, hb9⟩
            · rw [results_cell_tmp rfl]
              simp [asAddr, Result.andThen, loadv26 hw]
            · simp only [hln]
            · simp only [hln]; exact hr9
          · have u4 : (ph == 4) = false := by simpa using h4
            have u6 : (ph == 6) = false := by simpa using h6
            obtain ⟨Ls, hLs⟩ : ∃ l, ms.set k 0 = l := ⟨_, rfl⟩
            have HP0 : Hid (P = (⟨s, v, need, phaseR ph need Ls, Ls⟩, 0)) := by
              show _ = _
              rw [← hP]
              unfold Rn.lose
              rw [if_pos hHas, if_neg (by simp only; omega), Int.toNat_natCast]
              unfold Rn.marked
              simp only [hLs]
            have hLn : Ls.length = n := by rw [← hLs, List.length_set]; exact hln
            have hq6 : ph = 1 ∨ ph = 2 ∨ ph = 3 ∨ ph = 5 := by have h1 := hH.ph6; simp only at h1; omega
            have HQ6 := Lib.hid hq6
            have HLs := Lib.hid hLs
            have HLn := Lib.hid hLn
            have HYK := Lib.hid (And.intro hy hkn)
            have HRR := Lib.hid hH
            clear hP hH hi0 hin hHas hLs hLn hy h4 h6 hq6
            go_enter Try.func26, Try.ntmps26
            go_wp2_with fail
            (try rw [hw1]); (try rw [hw2]); (try rw [hb]); (try rw [hbb])
            clear hw1 hw2 hb hbb
            refine (rright_is _ s v need ph HR_w2.out hn kH.out).mono ?_
            rintro e' w3 ⟨rfl, hb3⟩
            have HB_w3 := Lib.hid (HB_w2.out.trans (hb3.mono HB_w2.out.size))
            have HX_w3 := Lib.hid ((hb3.block _ (lt_of_block HX_w2.out)).trans HX_w2.out)
            have HZ_w3 := Lib.hid ((hb3.block _ (lt_of_block HZ_w2.out)).trans HZ_w2.out)
            have HR_w3 := Lib.hid (HR_w2.out.below hb3 (Nat.le_refl _))
            clear hb3 m0 m1 m2 m3 m4
            obtain ⟨⟨f0, f1, f2, f3, f4⟩, fbl⟩ := five26 HX_w3.out
            obtain ⟨g0, g1, g2, g3, g4⟩ := thaw5 HX_w3.out
            obtain ⟨⟨r0, r1, r2, r3, r4⟩, rbl⟩ := five26 HZ_w3.out
            obtain ⟨y0, y1, y2, y3, y4⟩ := thaw5 HZ_w3.out
            clear hkn
            obtain ⟨bx, hbx⟩ : ∃ z, w3.heap.size = z := ⟨_, rfl⟩
            obtain ⟨w4, hw4⟩ : ∃ z, w3.alloc (.cells #[.int .i64 s, .int .i64 v, .int .i64 need, .int .i64 ph, .slice none 0 0] 26) = z := ⟨_, rfl⟩
            obtain ⟨hb4, hx4⟩ := box_new hw4
            rw [hbx] at hx4
            have hs4 : w4.heap.size = bx + 1 := by rw [← hw4, ← hbx]; simp
            have HBX := Lib.hid (And.intro hbx hs4)
            have HB_w4 := Lib.hid (HB_w3.out.trans (hb4.mono HB_w3.out.size))
            have HX_w4 := Lib.hid ((hb4.block _ (lt_of_block HX_w3.out)).trans HX_w3.out)
            have HZ_w4 := Lib.hid ((hb4.block _ (lt_of_block HZ_w3.out)).trans HZ_w3.out)
            have HR_w4 := Lib.hid (HR_w3.out.below hb4 (Nat.le_refl _))
            have HXX := Lib.hid hx4
            obtain ⟨⟨x0, x1, x2, x3, x4⟩, xbl⟩ := five26 hx4
            have HW4 := Lib.hid hw4
            clear hb4 hx4 hs4 hw4 x0 x1 x2 x3 x4 xbl
            go_wp2
            rw [HW4.out]
            (try rw [hbx])
            clear HW4 hbx z0 z1 z3 u4 u6
            clear f0 f1 f2 f3 f4 fbl g0 g1 g2 g3 g4 r0 r1 r2 r3 r4 rbl y0 y1 y2 y3 y4
            go_loopg [7] n (fun kx s7 wr => ∃ (j : Nat) (X : Option Addr) (cx : Nat), j ≤ n ∧ n - j ≤ kx ∧ s7 = .int .i64 j ∧ Hid (OwnV wr w4.heap.size 3 X j cx ((Ls.take j).map IV)) ∧ Hid (wr.heap[bx]? = some (.cells #[.int .i64 s, .int .i64 v, .int .i64 need, .int .i64 ph, .slice X j cx] 26 (0, 0))) ∧ Hid (But [bx] w4 wr))
            case atStart => exact ⟨0, none, 0, Nat.zero_le _, by omega, rfl, (by simpa using OwnV.nil _ _ _ : OwnV w4 w4.heap.size 3 none 0 0 ((Ls.take 0).map IV)), HXX, (But.refl _ _ : But [bx] w4 w4)⟩
            case round =>
              obtain ⟨j, X, cx, hj, hkx, rfl, HO, HXr, HBt⟩ := hrel
              have HXb := Lib.hid (HBt.out.cells HX_w4.out (by have := lt_of_block HX_w3.out; have := HBX.out.1; simp; omega))
              have HZb := Lib.hid (HBt.out.cells HZ_w4.out (by have := lt_of_block HZ_w3.out; have := HBX.out.1; simp; omega))
              have HRb := Lib.hid (HR_w4.out.but0 HBt.out (fun h0 jj hj2 hm => by
                obtain ⟨ad9, e9, h1, _⟩ := HR_w3.out.cells h0
                rw [e9] at hj2
                simp at hj2 hm
                have := HBX.out.1
                omega))
              obtain ⟨⟨f0, f1, f2, f3, f4⟩, fbl⟩ := five26 HXb.out
              obtain ⟨⟨x0, x1, x2, x3, x4⟩, xbl⟩ := five26 HXr.out
              by_cases hlt : j < n
              · obtain ⟨y2, hy2⟩ : ∃ y, ms[j]? = some y := ⟨_, List.getElem?_eq_getElem (by omega)⟩
                obtain ⟨ad, hA, hadl, hxc⟩ := HRb.out.cells (by omega)
                have e0 := hxc j (IV y2) (by rw [List.getElem?_map, hy2]; rfl)
                subst hA
                have hi1 : (0 : Int) ≤ (j : Int) := by omega
                have hi2 : (j : Int) < (n : Int) := by omega
                have hw1 : IntKind.i64.wrap ((j : Int) + 1) = (j : Int) + 1 := IntWalk.i64_in _ (by omega)
                have HY2 := Lib.hid (And.intro hy2 hlt)
                have hne : bx ≠ b := by have := lt_of_block HX_w3.out; have := HBX.out.1; omega
                have hne' := hne.symm
                clear hy2 hlt hadl hxc
                by_cases hjk : j = k
                · subst hjk
                  have hLj : Ls[j]? = some 0 := by rw [← HLs.out]; have := HY2.out.2; simp [show j < ms.length by omega]
                  have HLJ := Lib.hid hLj
                  clear hLj
                  have HS : Hid ((Ls.take (j + 1)).map IV = (Ls.take j).map IV ++ [IV 0]) := by
                    show _ = _
                    rw [take_snoc (x := 0) HLJ.out, List.map_append]
                    rfl
                  go_wp2_with (at_builtin; refine wpList_appV _ rfl (.tmp 52) (.tmp 53) _ rfl w4.heap.size 3 (.int .i64 0) 8 Try.underlying24 info3 rfl rfl (HO.out.below ((Below.refl _ _).alloc (Nat.le_refl _) _) (Nat.le_refl _)) rfl (m := 1) (RdV.new _ [IV 0] 3 (0, 0)) (ivs_one [0]) (by omega) (by omega) (Nat.le_trans HBt.out.size (by simp)) (j + 1) rfl ?_; intro A' c' w7 ho hg hat; have hb7 : Below w4.heap.size wr w7 := ((Below.refl w4.heap.size wr).alloc HBt.out.size _).grown hg (by have := HBt.out.size; simp; omega) (fun kk hk => (HO.out.block kk hk).1); obtain ⟨w8, hw8⟩ : ∃ z, w7.setCell ⟨bx, 4, none⟩ (.slice A' (j + 1) c') = z := ⟨_, rfl⟩; have hx7 := (hb7.block bx (by have := HBX.out.2; omega)).trans HXr.out; obtain ⟨⟨g0, g1, g2, g3, g4⟩, gbl⟩ := five26 hx7; obtain ⟨t0, t1, t2, t3, t4⟩ := thaw5 hx7)
                  have hx8 := row1 (v4 := .slice A' (j + 1) c') hx7
                  have hbt8 : But [bx] w7 w8 := hw8 ▸ (But.refl _ _).setCell (by simp) _
                  rw [hw8] at hx8
                  have HX8 := Lib.hid hx8
                  have HO8 : Hid (OwnV w8 w4.heap.size 3 A' (j + 1) c' ((Ls.take (j + 1)).map IV)) := by
                    show OwnV _ _ _ _ _ _ _
                    rw [HS.out]
                    exact ho.but hbt8 (fun jj hj2 hm => by have := (ho.block jj hj2).1; have := HBX.out.2; simp at hm; omega)
                  have HB8 : Hid (But [bx] w4 w8) := but_below HBt.out hb7 hbt8
                  clear ho hg hat hx7 hx8 hbt8 hb7
                  skip
                  (try rw [hw8])
                  go_roundg (n - (j + 1))
                  case measure => omega
                  case rel => exact ⟨j + 1, A', c', by have := HY2.out.2; omega, by omega, by go_num, HO8, HX8, HB8⟩
                · have hjk2 : ((j : Int) == (k : Int)) = false := by simp; omega
                  have hLj : Ls[j]? = some y2 := by rw [← HLs.out, List.getElem?_set_ne (fun h => hjk h.symm)]; exact HY2.out.1
                  have HLJ := Lib.hid hLj
                  clear hLj hjk
                  have HS : Hid ((Ls.take (j + 1)).map IV = (Ls.take j).map IV ++ [IV y2]) := by
                    show _ = _
                    rw [take_snoc (x := y2) HLJ.out, List.map_append]
                    rfl
                  go_wp2
                  go_region_law (refine step_appV rfl (.tmp 57) (.tmp 63) _ rfl w4.heap.size 3 (.int .i64 0) 8 Try.underlying24 info3 rfl rfl (HO.out.drew.alloc _) rfl (m := 1) (RdV.new wr.drew [IV y2] 3 (0, 0)) (ivs_one [y2]) (by omega) (by omega) (Nat.le_trans HBt.out.size (by simp)) (j + 1) rfl ?_; intro A' c' w7 ho hg hat; have hb7 : Below w4.heap.size wr w7 := ((Below.refl w4.heap.size wr).drew.alloc HBt.out.size _).grown hg (by have := HBt.out.size; simp; omega) (fun kk hk => (HO.out.block kk hk).1); obtain ⟨w8, hw8⟩ : ∃ z, w7.setCell ⟨bx, 4, none⟩ (.slice A' (j + 1) c') = z := ⟨_, rfl⟩; have hx7 := (hb7.block bx (by have := HBX.out.2; omega)).trans HXr.out; obtain ⟨⟨g0, g1, g2, g3, g4⟩, gbl⟩ := five26 hx7; obtain ⟨t0, t1, t2, t3, t4⟩ := thaw5 hx7)
                  all_goals
                    go_wp2
                    have hx8 := row1 (v4 := .slice A' (j + 1) c') hx7
                    have hbt8 : But [bx] w7 w8 := hw8 ▸ (But.refl _ _).setCell (by simp) _
                    rw [hw8] at hx8
                    have HX8 := Lib.hid hx8
                    have HO8 : Hid (OwnV w8 w4.heap.size 3 A' (j + 1) c' ((Ls.take (j + 1)).map IV)) := by
                      show OwnV _ _ _ _ _ _ _
                      rw [HS.out]
                      exact ho.but hbt8 (fun jj hj2 hm => by have := (ho.block jj hj2).1; have := HBX.out.2; simp at hm; omega)
                    have HB8 : Hid (But [bx] w4 w8) := but_below HBt.out hb7 hbt8
                    clear ho hg hat hx7 hx8 hbt8 hb7
                    (try rw [hw8])
                    go_roundg (n - (j + 1))
                    case measure => omega
                    case rel => exact ⟨j + 1, A', c', by have := HY2.out.2; omega, by omega, by go_num, HO8, HX8, HB8⟩
              · have hjn : j = n := by omega
                have hi2 : ¬ (j : Int) < (n : Int) := by omega
                have hft : Ls.take j = Ls := List.take_of_length_le (by rw [HLn.out]; omega)
                have hrl := HO.out.rd
                rw [hft, hjn] at hrl
                have HRl_wr := Lib.hid hrl
                have hxx := HXr.out
                rw [hjn] at hxx
                have HXx_wr := Lib.hid hxx
                have HX_wr := HXb
                have HZ_wr := HZb
                have HFR : Hid (∀ jj, X.map (·.block) = some jj → w4.heap.size ≤ jj) := fun jj hj2 => (HO.out.block jj hj2).1
                have HNE : Hid (w.heap.size ≤ bx ∧ b2 < bx) := by show _ ∧ _; have h1 := HB_w3.out.size; have h2 := lt_of_block HZ_w3.out; have h3 := HBX.out.1; omega
                have HB_wr : Hid (Below w.heap.size w wr) := HB_w4.out.trans (HBt.out.below (B := w.heap.size) HB_w4.out.size (by intro g hg; simp at hg; have := HNE.out.1; omega))
                obtain ⟨d1, e1⟩ : ∃ k, cnt 1 Ls = k := ⟨_, rfl⟩
                obtain ⟨d2, e2⟩ : ∃ k, cnt 2 Ls = k := ⟨_, rfl⟩
                obtain ⟨d3, e3⟩ : ∃ k, cnt 3 Ls = k := ⟨_, rfl⟩
                obtain ⟨d4, e4⟩ : ∃ k, cnt 4 Ls = k := ⟨_, rfl⟩
                have E_1 := Lib.hid e1
                have E_2 := Lib.hid e2
                have E_3 := Lib.hid e3
                have E_4 := Lib.hid e4
                have HND : Hid (1 ≤ need ∧ need ≤ (n : Int) ∧ (n : Int) ≤ 255) := by
                  show _ ∧ _
                  have h1 := HRR.out.1
                  unfold MayR at h1
                  simp only [hln] at h1
                  omega
                have hx4 := HXr.out
                rw [hjn] at x4
                clear hrl hft hxx hx4 e1 e2 e3 e4 HO HXr HXb HZb hlt
                have hp6 := HQ6.out
                clear HQ6
                rcases hp6 with hp6 | hp6 | hp6 | hp6
                · subst hp6
                  have hph : Hid (phaseR 1 need Ls = 1) := by
                    show _ = _
                    have h1 := lose_stays HRR.out (.inl rfl) HYK.out.1
                    simp only at h1
                    rw [HLs.out] at h1
                    exact h1
                  go_wp2
                  obtain ⟨y79, h_y79⟩ : ∃ z, wr.drew = z := ⟨_, rfl⟩
                  have hbd : Below wr.heap.size wr y79 := h_y79 ▸ (Below.refl _ _).drew
                  have HX_y79 := Lib.hid ((hbd.block _ (lt_of_block HX_wr.out)).trans HX_wr.out)
                  have HXx_y79 := Lib.hid ((hbd.block _ (lt_of_block HXx_wr.out)).trans HXx_wr.out)
                  have HZ_y79 := Lib.hid ((hbd.block _ (lt_of_block HZ_wr.out)).trans HZ_wr.out)
                  have HRl_y79 := Lib.hid (HRl_wr.out.below hbd (Nat.le_refl _))
                  have HB_y79 : Hid (Below w.heap.size w y79) := HB_wr.out.trans (hbd.mono HB_wr.out.size)
                  have HS_y79 : Hid (Below y79.heap.size y79 y79) := Below.refl _ _
                  clear hbd
                  obtain ⟨⟨m0, m1, m2, m3, m4⟩, hbl⟩ := five26 HX_y79.out
                  obtain ⟨⟨n0, n1, n2, n3, n4⟩, hbn⟩ := five26 HXx_y79.out
                  refine wp_region_held_drew (S := fun z => Below y79.heap.size y79 z) (by kernel_rfl) (by show Below _ _ _; rw [h_y79]; exact Below.refl _ _) (fun hHeld => ?_)
                  rw [h_y79]
                  clear h_y79
                  refine wpAnyH_take (i := 0) (oi := ⟨some 66, _, _, _, _, _⟩) (v := ?_) rfl (by kernel_rfl) (by kernel_rfl) (by kernel_rfl) (fun _ _ _ h => h) (Or.inl ⟨by rfl, ?_⟩) (by assumption) ?_
                  rotate_left
                  · intro w hSw
                    (try dsimp only at hSw)
                    go_simp
                    all_goals (with_reducible rfl)
                  try simp only [Act.put, List.setIfInBounds_toArray, List.set_cons_zero, List.set_cons_succ]
                  refine wpAnyH_take (i := 1) (oi := ⟨some 67, _, _, _, _, _⟩) (v := ?_) rfl (by kernel_rfl) (by kernel_rfl) (by kernel_rfl) (fun _ _ _ h => h) (Or.inl ⟨by rfl, ?_⟩) (by assumption) ?_
                  rotate_left
                  · intro w hSw
                    have kk0 := (hSw.cell (p := ⟨bx, 0, none⟩) hbn).trans n0
                    have kk1 := (hSw.cell (p := ⟨bx, 1, none⟩) hbn).trans n1
                    have kk2 := (hSw.cell (p := ⟨bx, 2, none⟩) hbn).trans n2
                    have kk3 := (hSw.cell (p := ⟨bx, 3, none⟩) hbn).trans n3
                    have kk4 := (hSw.cell (p := ⟨bx, 4, none⟩) hbn).trans n4
                    clear hSw
                    go_simp
                    all_goals (with_reducible rfl)
                  try simp only [Act.put, List.setIfInBounds_toArray, List.set_cons_zero, List.set_cons_succ]
                  refine wpAnyH_take (i := 2) (oi := ⟨some 68, _, _, _, _, _⟩) (v := ?_) rfl (by kernel_rfl) (by kernel_rfl) (by kernel_rfl) (fun _ _ _ h => h) (Or.inl ⟨by rfl, ?_⟩) (by assumption) ?_
                  rotate_left
                  · intro w hSw
                    (try dsimp only at hSw)
                    go_simp
                    all_goals (with_reducible rfl)
                  try simp only [Act.put, List.setIfInBounds_toArray, List.set_cons_zero, List.set_cons_succ]
                  refine wpAnyH_take (i := 3) (oi := ⟨some 69, _, _, _, _, _⟩) (v := ?_) rfl (by kernel_rfl) (by kernel_rfl) (by kernel_rfl) (fun _ _ _ h => h) (Or.inl ⟨by rfl, ?_⟩) (by assumption) ?_
                  rotate_left
                  · intro w hSw
                    (try dsimp only at hSw)
                    go_simp
                    all_goals (with_reducible rfl)
                  try simp only [Act.put, List.setIfInBounds_toArray, List.set_cons_zero, List.set_cons_succ]
                  refine wpAnyH_take (i := 4) (oi := ⟨some 70, _, _, _, _, _⟩) (v := undef) rfl (by kernel_rfl) (by kernel_rfl) (by kernel_rfl) (fun _ _ _ h => h) (Or.inr ⟨by rfl, rfl⟩) (by assumption) ?_
                  try simp only [Act.put, List.setIfInBounds_toArray, List.set_cons_zero, List.set_cons_succ]
                  refine wpAnyH_take (i := 5) (oi := ⟨some 71, _, _, _, _, _⟩) (v := undef) rfl (by kernel_rfl) (by kernel_rfl) (by kernel_rfl) (fun _ _ _ h => h) (Or.inr ⟨by rfl, rfl⟩) (by assumption) ?_
                  try simp only [Act.put, List.setIfInBounds_toArray, List.set_cons_zero, List.set_cons_succ]
                  refine wpAnyH_take (i := 6) (oi := ⟨some 72, _, _, _, _, _⟩) (v := undef) rfl (by kernel_rfl) (by kernel_rfl) (by kernel_rfl) (fun _ _ _ h => h) (Or.inr ⟨by rfl, rfl⟩) (by assumption) ?_
                  try simp only [Act.put, List.setIfInBounds_toArray, List.set_cons_zero, List.set_cons_succ]
                  refine wpAnyH_take (i := 7) (oi := ⟨some 73, _, _, _, _, _⟩) (v := undef) rfl (by kernel_rfl) (by kernel_rfl) (by kernel_rfl) (fun _ _ _ h => h) (Or.inr ⟨by rfl, rfl⟩) (by assumption) ?_
                  try simp only [Act.put, List.setIfInBounds_toArray, List.set_cons_zero, List.set_cons_succ]
                  refine wpAnyH_take (i := 8) (oi := ⟨some 74, _, _, _, _, _⟩) (v := undef) rfl (by kernel_rfl) (by kernel_rfl) (by kernel_rfl) (fun _ _ _ h => h) (Or.inr ⟨by rfl, rfl⟩) (by assumption) ?_
                  try simp only [Act.put, List.setIfInBounds_toArray, List.set_cons_zero, List.set_cons_succ]
                  refine wpAnyH_take (i := 9) (oi := ⟨some 75, _, _, _, _, _⟩) (v := ?_) rfl (by kernel_rfl) (by kernel_rfl) (by kernel_rfl) (fun _ _ _ h => h) (Or.inl ⟨by rfl, ?_⟩) (by assumption) ?_
                  rotate_left
                  · intro w hSw
                    (try dsimp only at hSw)
                    go_simp
                    all_goals (with_reducible rfl)
                  try simp only [Act.put, List.setIfInBounds_toArray, List.set_cons_zero, List.set_cons_succ]
                  refine wpAnyH_done (by kernel_rfl) ?_ _
                  clear m0 m1 m2 m3 m4 hbl n0 n1 n2 n3 n4 hbn
                  obtain ⟨⟨f0, f1, f2, f3, f4⟩, fbl⟩ := five26 HX_y79.out
                  obtain ⟨⟨x0, x1, x2, x3, x4⟩, xbl⟩ := five26 HXx_y79.out
                  obtain ⟨t0, t1, t2, t3, t4⟩ := thaw5 HXx_y79.out
                  have hxz := HXx_y79.out
                  have hbz : But [bx] y79 y79 := But.refl _ _
                  have hzz := hbz.cells HZ_y79.out (by have := HNE.out.2; simp; omega)
                  have HRz := Lib.hid (HRl_y79.out.but hbz (fun jj hj2 hm => by have h1 := HFR.out jj hj2; have h2 := HBX.out.2; simp at hm; omega))
                  have HBz : Hid (Below w.heap.size w y79) := HB_y79.out.trans (hbz.below (B := w.heap.size) HB_y79.out.size (by intro g hg; simp at hg; have := HNE.out.1; omega))
                  have HZz := Lib.hid hzz
                  obtain ⟨⟨z0, z1, z2, z3, z4⟩, zbl⟩ := five26 hxz
                  obtain ⟨⟨q0, q1, q2, q3, q4⟩, qbl⟩ := five26 hzz
                  obtain ⟨o0, o1, o2, o3, o4⟩ := thaw5 hzz
                  have hnex : bx ≠ b2 := by have := HNE.out.2; omega
                  have hnex' := hnex.symm
                  clear hxz hbz hzz
                  go_wp2
                  obtain ⟨hw, hr9, hb9⟩ := two_end (w := w) (s := s) (v := v) (need := need) (ph := 1) (c := cx) HRz.out (fun jj hj2 => by have h1 := HFR.out jj hj2; have h2 := HBX.out.2; have h3 := HNE.out.2; omega) HZz.out HBz.out (by have := HE.out.2.2.2.2; omega)
                  have hpp := HP0.out
                  rw [hph.out] at hpp
                  rw [hpp]
                  refine bodyPost_ret (v := .tuple #[.agg #[.int .i64 s, .int .i64 v, .int .i64 need, .int .i64 1, .slice X n cx], .int .i64 0]) ?_ rfl ⟨X, cx, ?_, ?_, (fun jj hj2 => .inl (by have h1 := HFR.out jj hj2; have h2 := HB_w4.out.size; omega)), hb9⟩
                  · rw [results_cell_tmp rfl]
                    simp [asAddr, Result.andThen, loadv26 hw]
                  · simp only [HLn.out]
                  · simp only [HLn.out]; exact hr9
                · subst hp6
                  by_cases h1 : d1 < need
                  · have hph : Hid (phaseR 2 need Ls = 1) := by
                      show _ = _
                      unfold phaseR
                      rw [E_1.out, E_2.out, E_3.out, E_4.out, HLn.out]
                      (repeat' split) <;> omega
                    have t1' := decide_eq_true h1
                    clear h1
                    go_wp2
                    obtain ⟨y82, h_y82⟩ : ∃ z, wr.drew = z := ⟨_, rfl⟩
                    have hbd : Below wr.heap.size wr y82 := h_y82 ▸ (Below.refl _ _).drew
                    have HX_y82 := Lib.hid ((hbd.block _ (lt_of_block HX_wr.out)).trans HX_wr.out)
                    have HXx_y82 := Lib.hid ((hbd.block _ (lt_of_block HXx_wr.out)).trans HXx_wr.out)
                    have HZ_y82 := Lib.hid ((hbd.block _ (lt_of_block HZ_wr.out)).trans HZ_wr.out)
                    have HRl_y82 := Lib.hid (HRl_wr.out.below hbd (Nat.le_refl _))
                    have HB_y82 : Hid (Below w.heap.size w y82) := HB_wr.out.trans (hbd.mono HB_wr.out.size)
                    have HS_y82 : Hid (Below y82.heap.size y82 y82) := Below.refl _ _
                    clear hbd
                    obtain ⟨⟨m0, m1, m2, m3, m4⟩, hbl⟩ := five26 HX_y82.out
                    obtain ⟨⟨n0, n1, n2, n3, n4⟩, hbn⟩ := five26 HXx_y82.out
                    refine wp_region_held_drew (S := fun z => Below y82.heap.size y82 z) (by kernel_rfl) (by show Below _ _ _; rw [h_y82]; exact Below.refl _ _) (fun hHeld => ?_)
                    rw [h_y82]
                    clear h_y82
                    refine wpAnyH_take (i := 0) (oi := ⟨some 66, _, _, _, _, _⟩) (v := ?_) rfl (by kernel_rfl) (by kernel_rfl) (by kernel_rfl) (fun _ _ _ h => h) (Or.inl ⟨by rfl, ?_⟩) (by assumption) ?_
                    rotate_left
                    · intro w hSw
                      (try dsimp only at hSw)
                      go_simp
                      all_goals (with_reducible rfl)
                    try simp only [Act.put, List.setIfInBounds_toArray, List.set_cons_zero, List.set_cons_succ]
                    refine wpAnyH_take (i := 1) (oi := ⟨some 67, _, _, _, _, _⟩) (v := ?_) rfl (by kernel_rfl) (by kernel_rfl) (by kernel_rfl) (fun _ _ _ h => h) (Or.inl ⟨by rfl, ?_⟩) (by assumption) ?_
                    rotate_left
                    · intro w hSw
                      have kk0 := (hSw.cell (p := ⟨bx, 0, none⟩) hbn).trans n0
                      have kk1 := (hSw.cell (p := ⟨bx, 1, none⟩) hbn).trans n1
                      have kk2 := (hSw.cell (p := ⟨bx, 2, none⟩) hbn).trans n2
                      have kk3 := (hSw.cell (p := ⟨bx, 3, none⟩) hbn).trans n3
                      have kk4 := (hSw.cell (p := ⟨bx, 4, none⟩) hbn).trans n4
                      clear hSw
                      go_simp
                      all_goals (with_reducible rfl)
                    try simp only [Act.put, List.setIfInBounds_toArray, List.set_cons_zero, List.set_cons_succ]
                    refine wpAnyH_take (i := 2) (oi := ⟨some 68, _, _, _, _, _⟩) (v := ?_) rfl (by kernel_rfl) (by kernel_rfl) (by kernel_rfl) (fun _ _ _ h => h) (Or.inl ⟨by rfl, ?_⟩) (by assumption) ?_
                    rotate_left
                    · intro w hSw
                      (try dsimp only at hSw)
                      go_simp
                      all_goals (with_reducible rfl)
                    try simp only [Act.put, List.setIfInBounds_toArray, List.set_cons_zero, List.set_cons_succ]
                    refine wpAnyH_take (i := 3) (oi := ⟨some 69, _, _, _, _, _⟩) (v := ?_) rfl (by kernel_rfl) (by kernel_rfl) (by kernel_rfl) (fun _ _ _ h => h) (Or.inl ⟨by rfl, ?_⟩) (by assumption) ?_
                    rotate_left
                    · intro w hSw
                      (try dsimp only at hSw)
                      go_simp
                      all_goals (with_reducible rfl)
                    try simp only [Act.put, List.setIfInBounds_toArray, List.set_cons_zero, List.set_cons_succ]
                    refine wpAnyH_take (i := 4) (oi := ⟨some 70, _, _, _, _, _⟩) (v := ?_) rfl (by kernel_rfl) (by kernel_rfl) (by kernel_rfl) (fun _ _ _ h => h) (Or.inl ⟨by rfl, ?_⟩) (by assumption) ?_
                    rotate_left
                    · intro w hSw
                      have kk0 := (hSw.cell (p := ⟨bx, 0, none⟩) hbn).trans n0
                      have kk1 := (hSw.cell (p := ⟨bx, 1, none⟩) hbn).trans n1
                      have kk2 := (hSw.cell (p := ⟨bx, 2, none⟩) hbn).trans n2
                      have kk3 := (hSw.cell (p := ⟨bx, 3, none⟩) hbn).trans n3
                      have kk4 := (hSw.cell (p := ⟨bx, 4, none⟩) hbn).trans n4
                      clear hSw
                      go_simp
                      all_goals (with_reducible rfl)
                    try simp only [Act.put, List.setIfInBounds_toArray, List.set_cons_zero, List.set_cons_succ]
                    refine wpAnyH_take (i := 6) (oi := ⟨some 72, _, _, _, _, _⟩) (v := ?_) rfl (by kernel_rfl) (by kernel_rfl) (by kernel_rfl) (fun _ _ _ h => h) (Or.inl ⟨by rfl, ?_⟩) (by assumption) ?_
                    rotate_left
                    · intro w hSw
                      (try dsimp only at hSw)
                      go_simp
                      all_goals (with_reducible rfl)
                    try simp only [Act.put, List.setIfInBounds_toArray, List.set_cons_zero, List.set_cons_succ]
                    refine wpAnyH_take (i := 7) (oi := ⟨some 73, _, _, _, _, _⟩) (v := ?_) rfl (by kernel_rfl) (by kernel_rfl) (by kernel_rfl) (fun _ _ _ h => h) (Or.inl ⟨by rfl, ?_⟩) (by assumption) ?_
                    rotate_left
                    · intro w hSw
                      have kk0 := (hSw.cell (p := ⟨bx, 0, none⟩) hbn).trans n0
                      have kk1 := (hSw.cell (p := ⟨bx, 1, none⟩) hbn).trans n1
                      have kk2 := (hSw.cell (p := ⟨bx, 2, none⟩) hbn).trans n2
                      have kk3 := (hSw.cell (p := ⟨bx, 3, none⟩) hbn).trans n3
                      have kk4 := (hSw.cell (p := ⟨bx, 4, none⟩) hbn).trans n4
                      clear hSw
                      go_simp
                      all_goals (with_reducible rfl)
                    try simp only [Act.put, List.setIfInBounds_toArray, List.set_cons_zero, List.set_cons_succ]
                    refine wpAnyH_ready (rs := [5]) (by kernel_rfl) (by simp) (AllReadyH.cons (o := ⟨some 71, _, _, _, _, _⟩) rfl (fun K hK => ?_) AllReadyH.nil)
                    go_simp
                    refine (rmany_is _ s v need 2 1 HRl_y82.out hn E_1.out).mono ?_
                    rintro e' y83 ⟨rfl, hbv⟩
                    have HX_y83 := Lib.hid ((hbv.block _ (lt_of_block HX_y82.out)).trans HX_y82.out)
                    have HXx_y83 := Lib.hid ((hbv.block _ (lt_of_block HXx_y82.out)).trans HXx_y82.out)
                    have HZ_y83 := Lib.hid ((hbv.block _ (lt_of_block HZ_y82.out)).trans HZ_y82.out)
                    have HRl_y83 := Lib.hid (HRl_y82.out.below hbv (Nat.le_refl _))
                    have HB_y83 : Hid (Below w.heap.size w y83) := HB_y82.out.trans (hbv.mono HB_y82.out.size)
                    have HS_y83 : Hid (Below y82.heap.size y82 y83) := HS_y82.out.trans (hbv.mono HS_y82.out.size)
                    clear hbv
                    refine hK.out _ _ (HS_y83.out) (fun hHeld => ?_)
                    clear hK K
                    try simp only [Act.put, List.setIfInBounds_toArray, List.set_cons_zero, List.set_cons_succ]
                    refine wpAnyH_take (i := 8) (oi := ⟨some 74, _, _, _, _, _⟩) (v := ?_) rfl (by kernel_rfl) (by kernel_rfl) (by kernel_rfl) (fun _ _ _ h => h) (Or.inl ⟨by rfl, ?_⟩) (by assumption) ?_
                    rotate_left
                    · intro w hSw
                      (try dsimp only at hSw)
                      go_simp
                      all_goals (with_reducible rfl)
                    try simp only [Act.put, List.setIfInBounds_toArray, List.set_cons_zero, List.set_cons_succ]
                    refine wpAnyH_take (i := 9) (oi := ⟨some 75, _, _, _, _, _⟩) (v := ?_) rfl (by kernel_rfl) (by kernel_rfl) (by kernel_rfl) (fun _ _ _ h => h) (Or.inl ⟨by rfl, ?_⟩) (by assumption) ?_
                    rotate_left
                    · intro w hSw
                      (try dsimp only at hSw)
                      go_simp
                      all_goals (with_reducible rfl)
                    try simp only [Act.put, List.setIfInBounds_toArray, List.set_cons_zero, List.set_cons_succ]
                    refine wpAnyH_done (by kernel_rfl) ?_ _
                    clear m0 m1 m2 m3 m4 hbl n0 n1 n2 n3 n4 hbn
                    obtain ⟨⟨f0, f1, f2, f3, f4⟩, fbl⟩ := five26 HX_y83.out
                    obtain ⟨⟨x0, x1, x2, x3, x4⟩, xbl⟩ := five26 HXx_y83.out
                    obtain ⟨t0, t1, t2, t3, t4⟩ := thaw5 HXx_y83.out
                    obtain ⟨wz, hwz⟩ : ∃ z, y83.setCell ⟨bx, 3, none⟩ (.int .i64 1) = z := ⟨_, rfl⟩
                    have hxz : wz.heap[bx]? = some (.cells #[.int .i64 s, .int .i64 v, .int .i64 need, .int .i64 1, .slice X n cx] 26 (0, 0)) := hwz ▸ row3 HXx_y83.out
                    have hbz : But [bx] y83 wz := hwz ▸ (But.refl _ _).setCell (by simp) _
                    have hzz := hbz.cells HZ_y83.out (by have := HNE.out.2; simp; omega)
                    have HRz := Lib.hid (HRl_y83.out.but hbz (fun jj hj2 hm => by have h1 := HFR.out jj hj2; have h2 := HBX.out.2; simp at hm; omega))
                    have HBz : Hid (Below w.heap.size w wz) := HB_y83.out.trans (hbz.below (B := w.heap.size) HB_y83.out.size (by intro g hg; simp at hg; have := HNE.out.1; omega))
                    have HZz := Lib.hid hzz
                    obtain ⟨⟨z0, z1, z2, z3, z4⟩, zbl⟩ := five26 hxz
                    obtain ⟨⟨q0, q1, q2, q3, q4⟩, qbl⟩ := five26 hzz
                    obtain ⟨o0, o1, o2, o3, o4⟩ := thaw5 hzz
                    have hnex : bx ≠ b2 := by have := HNE.out.2; omega
                    have hnex' := hnex.symm
                    clear hxz hbz hzz
                    go_wp2
                    (try rw [hwz])
                    obtain ⟨hw, hr9, hb9⟩ := two_end (w := w) (s := s) (v := v) (need := need) (ph := 1) (c := cx) HRz.out (fun jj hj2 => by have h1 := HFR.out jj hj2; have h2 := HBX.out.2; have h3 := HNE.out.2; omega) HZz.out HBz.out (by have := HE.out.2.2.2.2; omega)
                    have hpp := HP0.out
                    rw [hph.out] at hpp
                    rw [hpp]
                    refine bodyPost_ret (v := .tuple #[.agg #[.int .i64 s, .int .i64 v, .int .i64 need, .int .i64 1, .slice X n cx], .int .i64 0]) ?_ rfl ⟨X, cx, ?_, ?_, (fun jj hj2 => .inl (by have h1 := HFR.out jj hj2; have h2 := HB_w4.out.size; omega)), hb9⟩
                    · rw [results_cell_tmp rfl]
                      simp [asAddr, Result.andThen, loadv26 hw]
                    · simp only [HLn.out]
                    · simp only [HLn.out]; exact hr9
                  · have hph : Hid (phaseR 2 need Ls = 2) := by
                      show _ = _
                      unfold phaseR
                      rw [E_1.out, E_2.out, E_3.out, E_4.out, HLn.out]
                      (repeat' split) <;> omega
                    have t1' := decide_eq_false h1
                    clear h1
                    go_wp2
                    obtain ⟨y84, h_y84⟩ : ∃ z, wr.drew = z := ⟨_, rfl⟩
                    have hbd : Below wr.heap.size wr y84 := h_y84 ▸ (Below.refl _ _).drew
                    have HX_y84 := Lib.hid ((hbd.block _ (lt_of_block HX_wr.out)).trans HX_wr.out)
                    have HXx_y84 := Lib.hid ((hbd.block _ (lt_of_block HXx_wr.out)).trans HXx_wr.out)
                    have HZ_y84 := Lib.hid ((hbd.block _ (lt_of_block HZ_wr.out)).trans HZ_wr.out)
                    have HRl_y84 := Lib.hid (HRl_wr.out.below hbd (Nat.le_refl _))
                    have HB_y84 : Hid (Below w.heap.size w y84) := HB_wr.out.trans (hbd.mono HB_wr.out.size)
                    have HS_y84 : Hid (Below y84.heap.size y84 y84) := Below.refl _ _
                    clear hbd
                    obtain ⟨⟨m0, m1, m2, m3, m4⟩, hbl⟩ := five26 HX_y84.out
                    obtain ⟨⟨n0, n1, n2, n3, n4⟩, hbn⟩ := five26 HXx_y84.out
                    refine wp_region_held_drew (S := fun z => Below y84.heap.size y84 z) (by kernel_rfl) (by show Below _ _ _; rw [h_y84]; exact Below.refl _ _) (fun hHeld => ?_)
                    rw [h_y84]
                    clear h_y84
                    refine wpAnyH_take (i := 0) (oi := ⟨some 66, _, _, _, _, _⟩) (v := ?_) rfl (by kernel_rfl) (by kernel_rfl) (by kernel_rfl) (fun _ _ _ h => h) (Or.inl ⟨by rfl, ?_⟩) (by assumption) ?_
                    rotate_left
                    · intro w hSw
                      (try dsimp only at hSw)
                      go_simp
                      all_goals (with_reducible rfl)
                    try simp only [Act.put, List.setIfInBounds_toArray, List.set_cons_zero, List.set_cons_succ]
                    refine wpAnyH_take (i := 1) (oi := ⟨some 67, _, _, _, _, _⟩) (v := ?_) rfl (by kernel_rfl) (by kernel_rfl) (by kernel_rfl) (fun _ _ _ h => h) (Or.inl ⟨by rfl, ?_⟩) (by assumption) ?_
                    rotate_left
                    · intro w hSw
                      have kk0 := (hSw.cell (p := ⟨bx, 0, none⟩) hbn).trans n0
                      have kk1 := (hSw.cell (p := ⟨bx, 1, none⟩) hbn).trans n1
                      have kk2 := (hSw.cell (p := ⟨bx, 2, none⟩) hbn).trans n2
                      have kk3 := (hSw.cell (p := ⟨bx, 3, none⟩) hbn).trans n3
                      have kk4 := (hSw.cell (p := ⟨bx, 4, none⟩) hbn).trans n4
                      clear hSw
                      go_simp
                      all_goals (with_reducible rfl)
                    try simp only [Act.put, List.setIfInBounds_toArray, List.set_cons_zero, List.set_cons_succ]
                    refine wpAnyH_take (i := 2) (oi := ⟨some 68, _, _, _, _, _⟩) (v := ?_) rfl (by kernel_rfl) (by kernel_rfl) (by kernel_rfl) (fun _ _ _ h => h) (Or.inl ⟨by rfl, ?_⟩) (by assumption) ?_
                    rotate_left
                    · intro w hSw
                      (try dsimp only at hSw)
                      go_simp
                      all_goals (with_reducible rfl)
                    try simp only [Act.put, List.setIfInBounds_toArray, List.set_cons_zero, List.set_cons_succ]
                    refine wpAnyH_take (i := 3) (oi := ⟨some 69, _, _, _, _, _⟩) (v := ?_) rfl (by kernel_rfl) (by kernel_rfl) (by kernel_rfl) (fun _ _ _ h => h) (Or.inl ⟨by rfl, ?_⟩) (by assumption) ?_
                    rotate_left
                    · intro w hSw
                      (try dsimp only at hSw)
                      go_simp
                      all_goals (with_reducible rfl)
                    try simp only [Act.put, List.setIfInBounds_toArray, List.set_cons_zero, List.set_cons_succ]
                    refine wpAnyH_take (i := 4) (oi := ⟨some 70, _, _, _, _, _⟩) (v := ?_) rfl (by kernel_rfl) (by kernel_rfl) (by kernel_rfl) (fun _ _ _ h => h) (Or.inl ⟨by rfl, ?_⟩) (by assumption) ?_
                    rotate_left
                    · intro w hSw
                      have kk0 := (hSw.cell (p := ⟨bx, 0, none⟩) hbn).trans n0
                      have kk1 := (hSw.cell (p := ⟨bx, 1, none⟩) hbn).trans n1
                      have kk2 := (hSw.cell (p := ⟨bx, 2, none⟩) hbn).trans n2
                      have kk3 := (hSw.cell (p := ⟨bx, 3, none⟩) hbn).trans n3
                      have kk4 := (hSw.cell (p := ⟨bx, 4, none⟩) hbn).trans n4
                      clear hSw
                      go_simp
                      all_goals (with_reducible rfl)
                    try simp only [Act.put, List.setIfInBounds_toArray, List.set_cons_zero, List.set_cons_succ]
                    refine wpAnyH_take (i := 6) (oi := ⟨some 72, _, _, _, _, _⟩) (v := ?_) rfl (by kernel_rfl) (by kernel_rfl) (by kernel_rfl) (fun _ _ _ h => h) (Or.inl ⟨by rfl, ?_⟩) (by assumption) ?_
                    rotate_left
                    · intro w hSw
                      (try dsimp only at hSw)
                      go_simp
                      all_goals (with_reducible rfl)
                    try simp only [Act.put, List.setIfInBounds_toArray, List.set_cons_zero, List.set_cons_succ]
                    refine wpAnyH_take (i := 7) (oi := ⟨some 73, _, _, _, _, _⟩) (v := ?_) rfl (by kernel_rfl) (by kernel_rfl) (by kernel_rfl) (fun _ _ _ h => h) (Or.inl ⟨by rfl, ?_⟩) (by assumption) ?_
                    rotate_left
                    · intro w hSw
                      have kk0 := (hSw.cell (p := ⟨bx, 0, none⟩) hbn).trans n0
                      have kk1 := (hSw.cell (p := ⟨bx, 1, none⟩) hbn).trans n1
                      have kk2 := (hSw.cell (p := ⟨bx, 2, none⟩) hbn).trans n2
                      have kk3 := (hSw.cell (p := ⟨bx, 3, none⟩) hbn).trans n3
                      have kk4 := (hSw.cell (p := ⟨bx, 4, none⟩) hbn).trans n4
                      clear hSw
                      go_simp
                      all_goals (with_reducible rfl)
                    try simp only [Act.put, List.setIfInBounds_toArray, List.set_cons_zero, List.set_cons_succ]
                    refine wpAnyH_ready (rs := [5]) (by kernel_rfl) (by simp) (AllReadyH.cons (o := ⟨some 71, _, _, _, _, _⟩) rfl (fun K hK => ?_) AllReadyH.nil)
                    go_simp
                    refine (rmany_is _ s v need 2 1 HRl_y84.out hn E_1.out).mono ?_
                    rintro e' y85 ⟨rfl, hbv⟩
                    have HX_y85 := Lib.hid ((hbv.block _ (lt_of_block HX_y84.out)).trans HX_y84.out)
                    have HXx_y85 := Lib.hid ((hbv.block _ (lt_of_block HXx_y84.out)).trans HXx_y84.out)
                    have HZ_y85 := Lib.hid ((hbv.block _ (lt_of_block HZ_y84.out)).trans HZ_y84.out)
                    have HRl_y85 := Lib.hid (HRl_y84.out.below hbv (Nat.le_refl _))
                    have HB_y85 : Hid (Below w.heap.size w y85) := HB_y84.out.trans (hbv.mono HB_y84.out.size)
                    have HS_y85 : Hid (Below y84.heap.size y84 y85) := HS_y84.out.trans (hbv.mono HS_y84.out.size)
                    clear hbv
                    refine hK.out _ _ (HS_y85.out) (fun hHeld => ?_)
                    clear hK K
                    try simp only [Act.put, List.setIfInBounds_toArray, List.set_cons_zero, List.set_cons_succ]
                    refine wpAnyH_take (i := 8) (oi := ⟨some 74, _, _, _, _, _⟩) (v := ?_) rfl (by kernel_rfl) (by kernel_rfl) (by kernel_rfl) (fun _ _ _ h => h) (Or.inl ⟨by rfl, ?_⟩) (by assumption) ?_
                    rotate_left
                    · intro w hSw
                      (try dsimp only at hSw)
                      go_simp
                      all_goals (with_reducible rfl)
                    try simp only [Act.put, List.setIfInBounds_toArray, List.set_cons_zero, List.set_cons_succ]
                    refine wpAnyH_take (i := 9) (oi := ⟨some 75, _, _, _, _, _⟩) (v := ?_) rfl (by kernel_rfl) (by kernel_rfl) (by kernel_rfl) (fun _ _ _ h => h) (Or.inl ⟨by rfl, ?_⟩) (by assumption) ?_
                    rotate_left
                    · intro w hSw
                      (try dsimp only at hSw)
                      go_simp
                      all_goals (with_reducible rfl)
                    try simp only [Act.put, List.setIfInBounds_toArray, List.set_cons_zero, List.set_cons_succ]
                    refine wpAnyH_done (by kernel_rfl) ?_ _
                    clear m0 m1 m2 m3 m4 hbl n0 n1 n2 n3 n4 hbn
                    obtain ⟨⟨f0, f1, f2, f3, f4⟩, fbl⟩ := five26 HX_y85.out
                    obtain ⟨⟨x0, x1, x2, x3, x4⟩, xbl⟩ := five26 HXx_y85.out
                    obtain ⟨t0, t1, t2, t3, t4⟩ := thaw5 HXx_y85.out
                    have hxz := HXx_y85.out
                    have hbz : But [bx] y85 y85 := But.refl _ _
                    have hzz := hbz.cells HZ_y85.out (by have := HNE.out.2; simp; omega)
                    have HRz := Lib.hid (HRl_y85.out.but hbz (fun jj hj2 hm => by have h1 := HFR.out jj hj2; have h2 := HBX.out.2; simp at hm; omega))
                    have HBz : Hid (Below w.heap.size w y85) := HB_y85.out.trans (hbz.below (B := w.heap.size) HB_y85.out.size (by intro g hg; simp at hg; have := HNE.out.1; omega))
                    have HZz := Lib.hid hzz
                    obtain ⟨⟨z0, z1, z2, z3, z4⟩, zbl⟩ := five26 hxz
                    obtain ⟨⟨q0, q1, q2, q3, q4⟩, qbl⟩ := five26 hzz
                    obtain ⟨o0, o1, o2, o3, o4⟩ := thaw5 hzz
                    have hnex : bx ≠ b2 := by have := HNE.out.2; omega
                    have hnex' := hnex.symm
                    clear hxz hbz hzz
                    go_wp2
                    obtain ⟨hw, hr9, hb9⟩ := two_end (w := w) (s := s) (v := v) (need := need) (ph := 2) (c := cx) HRz.out (fun jj hj2 => by have h1 := HFR.out jj hj2; have h2 := HBX.out.2; have h3 := HNE.out.2; omega) HZz.out HBz.out (by have := HE.out.2.2.2.2; omega)
                    have hpp := HP0.out
                    rw [hph.out] at hpp
                    rw [hpp]
                    refine bodyPost_ret (v := .tuple #[.agg #[.int .i64 s, .int .i64 v, .int .i64 need, .int .i64 2, .slice X n cx], .int .i64 0]) ?_ rfl ⟨X, cx, ?_, ?_, (fun jj hj2 => .inl (by have h1 := HFR.out jj hj2; have h2 := HB_w4.out.size; omega)), hb9⟩
                    · rw [results_cell_tmp rfl]
                      simp [asAddr, Result.andThen, loadv26 hw]
                    · simp only [HLn.out]
                    · simp only [HLn.out]; exact hr9
                · subst hp6
                  have hph : Hid (phaseR 3 need Ls = 3) := by
                    show _ = _
                    have h1 := lose_stays HRR.out (.inr (.inl rfl)) HYK.out.1
                    simp only at h1
                    rw [HLs.out] at h1
                    exact h1
                  go_wp2
                  obtain ⟨y80, h_y80⟩ : ∃ z, wr.drew = z := ⟨_, rfl⟩
                  have hbd : Below wr.heap.size wr y80 := h_y80 ▸ (Below.refl _ _).drew
                  have HX_y80 := Lib.hid ((hbd.block _ (lt_of_block HX_wr.out)).trans HX_wr.out)
                  have HXx_y80 := Lib.hid ((hbd.block _ (lt_of_block HXx_wr.out)).trans HXx_wr.out)
                  have HZ_y80 := Lib.hid ((hbd.block _ (lt_of_block HZ_wr.out)).trans HZ_wr.out)
                  have HRl_y80 := Lib.hid (HRl_wr.out.below hbd (Nat.le_refl _))
                  have HB_y80 : Hid (Below w.heap.size w y80) := HB_wr.out.trans (hbd.mono HB_wr.out.size)
                  have HS_y80 : Hid (Below y80.heap.size y80 y80) := Below.refl _ _
                  clear hbd
                  obtain ⟨⟨m0, m1, m2, m3, m4⟩, hbl⟩ := five26 HX_y80.out
                  obtain ⟨⟨n0, n1, n2, n3, n4⟩, hbn⟩ := five26 HXx_y80.out
                  refine wp_region_held_drew (S := fun z => Below y80.heap.size y80 z) (by kernel_rfl) (by show Below _ _ _; rw [h_y80]; exact Below.refl _ _) (fun hHeld => ?_)
                  rw [h_y80]
                  clear h_y80
                  refine wpAnyH_take (i := 0) (oi := ⟨some 66, _, _, _, _, _⟩) (v := ?_) rfl (by kernel_rfl) (by kernel_rfl) (by kernel_rfl) (fun _ _ _ h => h) (Or.inl ⟨by rfl, ?_⟩) (by assumption) ?_
                  rotate_left
                  · intro w hSw
                    (try dsimp only at hSw)
                    go_simp
                    all_goals (with_reducible rfl)
                  try simp only [Act.put, List.setIfInBounds_toArray, List.set_cons_zero, List.set_cons_succ]
                  refine wpAnyH_take (i := 1) (oi := ⟨some 67, _, _, _, _, _⟩) (v := ?_) rfl (by kernel_rfl) (by kernel_rfl) (by kernel_rfl) (fun _ _ _ h => h) (Or.inl ⟨by rfl, ?_⟩) (by assumption) ?_
                  rotate_left
                  · intro w hSw
                    have kk0 := (hSw.cell (p := ⟨bx, 0, none⟩) hbn).trans n0
                    have kk1 := (hSw.cell (p := ⟨bx, 1, none⟩) hbn).trans n1
                    have kk2 := (hSw.cell (p := ⟨bx, 2, none⟩) hbn).trans n2
                    have kk3 := (hSw.cell (p := ⟨bx, 3, none⟩) hbn).trans n3
                    have kk4 := (hSw.cell (p := ⟨bx, 4, none⟩) hbn).trans n4
                    clear hSw
                    go_simp
                    all_goals (with_reducible rfl)
                  try simp only [Act.put, List.setIfInBounds_toArray, List.set_cons_zero, List.set_cons_succ]
                  refine wpAnyH_take (i := 2) (oi := ⟨some 68, _, _, _, _, _⟩) (v := ?_) rfl (by kernel_rfl) (by kernel_rfl) (by kernel_rfl) (fun _ _ _ h => h) (Or.inl ⟨by rfl, ?_⟩) (by assumption) ?_
                  rotate_left
                  · intro w hSw
                    (try dsimp only at hSw)
                    go_simp
                    all_goals (with_reducible rfl)
                  try simp only [Act.put, List.setIfInBounds_toArray, List.set_cons_zero, List.set_cons_succ]
                  refine wpAnyH_take (i := 3) (oi := ⟨some 69, _, _, _, _, _⟩) (v := ?_) rfl (by kernel_rfl) (by kernel_rfl) (by kernel_rfl) (fun _ _ _ h => h) (Or.inl ⟨by rfl, ?_⟩) (by assumption) ?_
                  rotate_left
                  · intro w hSw
                    (try dsimp only at hSw)
                    go_simp
                    all_goals (with_reducible rfl)
                  try simp only [Act.put, List.setIfInBounds_toArray, List.set_cons_zero, List.set_cons_succ]
                  refine wpAnyH_take (i := 4) (oi := ⟨some 70, _, _, _, _, _⟩) (v := undef) rfl (by kernel_rfl) (by kernel_rfl) (by kernel_rfl) (fun _ _ _ h => h) (Or.inr ⟨by rfl, rfl⟩) (by assumption) ?_
                  try simp only [Act.put, List.setIfInBounds_toArray, List.set_cons_zero, List.set_cons_succ]
                  refine wpAnyH_take (i := 5) (oi := ⟨some 71, _, _, _, _, _⟩) (v := undef) rfl (by kernel_rfl) (by kernel_rfl) (by kernel_rfl) (fun _ _ _ h => h) (Or.inr ⟨by rfl, rfl⟩) (by assumption) ?_
                  try simp only [Act.put, List.setIfInBounds_toArray, List.set_cons_zero, List.set_cons_succ]
                  refine wpAnyH_take (i := 6) (oi := ⟨some 72, _, _, _, _, _⟩) (v := undef) rfl (by kernel_rfl) (by kernel_rfl) (by kernel_rfl) (fun _ _ _ h => h) (Or.inr ⟨by rfl, rfl⟩) (by assumption) ?_
                  try simp only [Act.put, List.setIfInBounds_toArray, List.set_cons_zero, List.set_cons_succ]
                  refine wpAnyH_take (i := 7) (oi := ⟨some 73, _, _, _, _, _⟩) (v := undef) rfl (by kernel_rfl) (by kernel_rfl) (by kernel_rfl) (fun _ _ _ h => h) (Or.inr ⟨by rfl, rfl⟩) (by assumption) ?_
                  try simp only [Act.put, List.setIfInBounds_toArray, List.set_cons_zero, List.set_cons_succ]
                  refine wpAnyH_take (i := 8) (oi := ⟨some 74, _, _, _, _, _⟩) (v := undef) rfl (by kernel_rfl) (by kernel_rfl) (by kernel_rfl) (fun _ _ _ h => h) (Or.inr ⟨by rfl, rfl⟩) (by assumption) ?_
                  try simp only [Act.put, List.setIfInBounds_toArray, List.set_cons_zero, List.set_cons_succ]
                  refine wpAnyH_take (i := 9) (oi := ⟨some 75, _, _, _, _, _⟩) (v := ?_) rfl (by kernel_rfl) (by kernel_rfl) (by kernel_rfl) (fun _ _ _ h => h) (Or.inl ⟨by rfl, ?_⟩) (by assumption) ?_
                  rotate_left
                  · intro w hSw
                    (try dsimp only at hSw)
                    go_simp
                    all_goals (with_reducible rfl)
                  try simp only [Act.put, List.setIfInBounds_toArray, List.set_cons_zero, List.set_cons_succ]
                  refine wpAnyH_done (by kernel_rfl) ?_ _
                  clear m0 m1 m2 m3 m4 hbl n0 n1 n2 n3 n4 hbn
                  obtain ⟨⟨f0, f1, f2, f3, f4⟩, fbl⟩ := five26 HX_y80.out
                  obtain ⟨⟨x0, x1, x2, x3, x4⟩, xbl⟩ := five26 HXx_y80.out
                  obtain ⟨t0, t1, t2, t3, t4⟩ := thaw5 HXx_y80.out
                  have hxz := HXx_y80.out
                  have hbz : But [bx] y80 y80 := But.refl _ _
                  have hzz := hbz.cells HZ_y80.out (by have := HNE.out.2; simp; omega)
                  have HRz := Lib.hid (HRl_y80.out.but hbz (fun jj hj2 hm => by have h1 := HFR.out jj hj2; have h2 := HBX.out.2; simp at hm; omega))
                  have HBz : Hid (Below w.heap.size w y80) := HB_y80.out.trans (hbz.below (B := w.heap.size) HB_y80.out.size (by intro g hg; simp at hg; have := HNE.out.1; omega))
                  have HZz := Lib.hid hzz
                  obtain ⟨⟨z0, z1, z2, z3, z4⟩, zbl⟩ := five26 hxz
                  obtain ⟨⟨q0, q1, q2, q3, q4⟩, qbl⟩ := five26 hzz
                  obtain ⟨o0, o1, o2, o3, o4⟩ := thaw5 hzz
                  have hnex : bx ≠ b2 := by have := HNE.out.2; omega
                  have hnex' := hnex.symm
                  clear hxz hbz hzz
                  go_wp2
                  obtain ⟨hw, hr9, hb9⟩ := two_end (w := w) (s := s) (v := v) (need := need) (ph := 3) (c := cx) HRz.out (fun jj hj2 => by have h1 := HFR.out jj hj2; have h2 := HBX.out.2; have h3 := HNE.out.2; omega) HZz.out HBz.out (by have := HE.out.2.2.2.2; omega)
                  have hpp := HP0.out
                  rw [hph.out] at hpp
                  rw [hpp]
                  refine bodyPost_ret (v := .tuple #[.agg #[.int .i64 s, .int .i64 v, .int .i64 need, .int .i64 3, .slice X n cx], .int .i64 0]) ?_ rfl ⟨X, cx, ?_, ?_, (fun jj hj2 => .inl (by have h1 := HFR.out jj hj2; have h2 := HB_w4.out.size; omega)), hb9⟩
                  · rw [results_cell_tmp rfl]
                    simp [asAddr, Result.andThen, loadv26 hw]
                  · simp only [HLn.out]
                  · simp only [HLn.out]; exact hr9
                · subst hp6
                  have hph : Hid (phaseR 5 need Ls = 5) := by
                    show _ = _
                    have h1 := lose_stays HRR.out (.inr (.inr rfl)) HYK.out.1
                    simp only at h1
                    rw [HLs.out] at h1
                    exact h1
                  go_wp2
                  obtain ⟨y81, h_y81⟩ : ∃ z, wr.drew = z := ⟨_, rfl⟩
                  have hbd : Below wr.heap.size wr y81 := h_y81 ▸ (Below.refl _ _).drew
                  have HX_y81 := Lib.hid ((hbd.block _ (lt_of_block HX_wr.out)).trans HX_wr.out)
                  have HXx_y81 := Lib.hid ((hbd.block _ (lt_of_block HXx_wr.out)).trans HXx_wr.out)
                  have HZ_y81 := Lib.hid ((hbd.block _ (lt_of_block HZ_wr.out)).trans HZ_wr.out)
                  have HRl_y81 := Lib.hid (HRl_wr.out.below hbd (Nat.le_refl _))
                  have HB_y81 : Hid (Below w.heap.size w y81) := HB_wr.out.trans (hbd.mono HB_wr.out.size)
                  have HS_y81 : Hid (Below y81.heap.size y81 y81) := Below.refl _ _
                  clear hbd
                  obtain ⟨⟨m0, m1, m2, m3, m4⟩, hbl⟩ := five26 HX_y81.out
                  obtain ⟨⟨n0, n1, n2, n3, n4⟩, hbn⟩ := five26 HXx_y81.out
                  refine wp_region_held_drew (S := fun z => Below y81.heap.size y81 z) (by kernel_rfl) (by show Below _ _ _; rw [h_y81]; exact Below.refl _ _) (fun hHeld => ?_)
                  rw [h_y81]
                  clear h_y81
                  refine wpAnyH_take (i := 0) (oi := ⟨some 66, _, _, _, _, _⟩) (v := ?_) rfl (by kernel_rfl) (by kernel_rfl) (by kernel_rfl) (fun _ _ _ h => h) (Or.inl ⟨by rfl, ?_⟩) (by assumption) ?_
                  rotate_left
                  · intro w hSw
                    (try dsimp only at hSw)
                    go_simp
                    all_goals (with_reducible rfl)
                  try simp only [Act.put, List.setIfInBounds_toArray, List.set_cons_zero, List.set_cons_succ]
                  refine wpAnyH_take (i := 1) (oi := ⟨some 67, _, _, _, _, _⟩) (v := ?_) rfl (by kernel_rfl) (by kernel_rfl) (by kernel_rfl) (fun _ _ _ h => h) (Or.inl ⟨by rfl, ?_⟩) (by assumption) ?_
                  rotate_left
                  · intro w hSw
                    have kk0 := (hSw.cell (p := ⟨bx, 0, none⟩) hbn).trans n0
                    have kk1 := (hSw.cell (p := ⟨bx, 1, none⟩) hbn).trans n1
                    have kk2 := (hSw.cell (p := ⟨bx, 2, none⟩) hbn).trans n2
                    have kk3 := (hSw.cell (p := ⟨bx, 3, none⟩) hbn).trans n3
                    have kk4 := (hSw.cell (p := ⟨bx, 4, none⟩) hbn).trans n4
                    clear hSw
                    go_simp
                    all_goals (with_reducible rfl)
                  try simp only [Act.put, List.setIfInBounds_toArray, List.set_cons_zero, List.set_cons_succ]
                  refine wpAnyH_take (i := 2) (oi := ⟨some 68, _, _, _, _, _⟩) (v := ?_) rfl (by kernel_rfl) (by kernel_rfl) (by kernel_rfl) (fun _ _ _ h => h) (Or.inl ⟨by rfl, ?_⟩) (by assumption) ?_
                  rotate_left
                  · intro w hSw
                    (try dsimp only at hSw)
                    go_simp
                    all_goals (with_reducible rfl)
                  try simp only [Act.put, List.setIfInBounds_toArray, List.set_cons_zero, List.set_cons_succ]
                  refine wpAnyH_take (i := 3) (oi := ⟨some 69, _, _, _, _, _⟩) (v := ?_) rfl (by kernel_rfl) (by kernel_rfl) (by kernel_rfl) (fun _ _ _ h => h) (Or.inl ⟨by rfl, ?_⟩) (by assumption) ?_
                  rotate_left
                  · intro w hSw
                    (try dsimp only at hSw)
                    go_simp
                    all_goals (with_reducible rfl)
                  try simp only [Act.put, List.setIfInBounds_toArray, List.set_cons_zero, List.set_cons_succ]
                  refine wpAnyH_take (i := 4) (oi := ⟨some 70, _, _, _, _, _⟩) (v := undef) rfl (by kernel_rfl) (by kernel_rfl) (by kernel_rfl) (fun _ _ _ h => h) (Or.inr ⟨by rfl, rfl⟩) (by assumption) ?_
                  try simp only [Act.put, List.setIfInBounds_toArray, List.set_cons_zero, List.set_cons_succ]
                  refine wpAnyH_take (i := 5) (oi := ⟨some 71, _, _, _, _, _⟩) (v := undef) rfl (by kernel_rfl) (by kernel_rfl) (by kernel_rfl) (fun _ _ _ h => h) (Or.inr ⟨by rfl, rfl⟩) (by assumption) ?_
                  try simp only [Act.put, List.setIfInBounds_toArray, List.set_cons_zero, List.set_cons_succ]
                  refine wpAnyH_take (i := 6) (oi := ⟨some 72, _, _, _, _, _⟩) (v := undef) rfl (by kernel_rfl) (by kernel_rfl) (by kernel_rfl) (fun _ _ _ h => h) (Or.inr ⟨by rfl, rfl⟩) (by assumption) ?_
                  try simp only [Act.put, List.setIfInBounds_toArray, List.set_cons_zero, List.set_cons_succ]
                  refine wpAnyH_take (i := 7) (oi := ⟨some 73, _, _, _, _, _⟩) (v := undef) rfl (by kernel_rfl) (by kernel_rfl) (by kernel_rfl) (fun _ _ _ h => h) (Or.inr ⟨by rfl, rfl⟩) (by assumption) ?_
                  try simp only [Act.put, List.setIfInBounds_toArray, List.set_cons_zero, List.set_cons_succ]
                  refine wpAnyH_take (i := 8) (oi := ⟨some 74, _, _, _, _, _⟩) (v := undef) rfl (by kernel_rfl) (by kernel_rfl) (by kernel_rfl) (fun _ _ _ h => h) (Or.inr ⟨by rfl, rfl⟩) (by assumption) ?_
                  try simp only [Act.put, List.setIfInBounds_toArray, List.set_cons_zero, List.set_cons_succ]
                  refine wpAnyH_take (i := 9) (oi := ⟨some 75, _, _, _, _, _⟩) (v := ?_) rfl (by kernel_rfl) (by kernel_rfl) (by kernel_rfl) (fun _ _ _ h => h) (Or.inl ⟨by rfl, ?_⟩) (by assumption) ?_
                  rotate_left
                  · intro w hSw
                    (try dsimp only at hSw)
                    go_simp
                    all_goals (with_reducible rfl)
                  try simp only [Act.put, List.setIfInBounds_toArray, List.set_cons_zero, List.set_cons_succ]
                  refine wpAnyH_done (by kernel_rfl) ?_ _
                  clear m0 m1 m2 m3 m4 hbl n0 n1 n2 n3 n4 hbn
                  obtain ⟨⟨f0, f1, f2, f3, f4⟩, fbl⟩ := five26 HX_y81.out
                  obtain ⟨⟨x0, x1, x2, x3, x4⟩, xbl⟩ := five26 HXx_y81.out
                  obtain ⟨t0, t1, t2, t3, t4⟩ := thaw5 HXx_y81.out
                  have hxz := HXx_y81.out
                  have hbz : But [bx] y81 y81 := But.refl _ _
                  have hzz := hbz.cells HZ_y81.out (by have := HNE.out.2; simp; omega)
                  have HRz := Lib.hid (HRl_y81.out.but hbz (fun jj hj2 hm => by have h1 := HFR.out jj hj2; have h2 := HBX.out.2; simp at hm; omega))
                  have HBz : Hid (Below w.heap.size w y81) := HB_y81.out.trans (hbz.below (B := w.heap.size) HB_y81.out.size (by intro g hg; simp at hg; have := HNE.out.1; omega))
                  have HZz := Lib.hid hzz
                  obtain ⟨⟨z0, z1, z2, z3, z4⟩, zbl⟩ := five26 hxz
                  obtain ⟨⟨q0, q1, q2, q3, q4⟩, qbl⟩ := five26 hzz
                  obtain ⟨o0, o1, o2, o3, o4⟩ := thaw5 hzz
                  have hnex : bx ≠ b2 := by have := HNE.out.2; omega
                  have hnex' := hnex.symm
                  clear hxz hbz hzz
                  go_wp2
                  obtain ⟨hw, hr9, hb9⟩ := two_end (w := w) (s := s) (v := v) (need := need) (ph := 5) (c := cx) HRz.out (fun jj hj2 => by have h1 := HFR.out jj hj2; have h2 := HBX.out.2; have h3 := HNE.out.2; omega) HZz.out HBz.out (by have := HE.out.2.2.2.2; omega)
                  have hpp := HP0.out
                  rw [hph.out] at hpp
                  rw [hpp]
                  refine bodyPost_ret (v := .tuple #[.agg #[.int .i64 s, .int .i64 v, .int .i64 need, .int .i64 5, .slice X n cx], .int .i64 0]) ?_ rfl ⟨X, cx, ?_, ?_, (fun jj hj2 => .inl (by have h1 := HFR.out jj hj2; have h2 := HB_w4.out.size; omega)), hb9⟩
                  · rw [results_cell_tmp rfl]
                    simp [asAddr, Result.andThen, loadv26 hw]
                  · simp only [HLn.out]
                  · simp only [HLn.out]; exact hr9
  · have kH := Lib.hid (decide_eq_false hH)
    have HP : Hid (P = (⟨s, v, need, ph, ms⟩, 130)) := by show _ = _; rw [← hP]; unfold Rn.lose; rw [if_neg (fun hh => hH hh.1)]
    clear hP hH
    go_enter Try.func26, Try.ntmps26
    go_wp2_with fail
    (try rw [hw1]); (try rw [hw2]); (try rw [hb]); (try rw [hbb])
    clear hw1 hw2 hb hbb
    refine (rright_is _ s v need ph HR_w2.out hn kH.out).mono ?_
    rintro e' w3 ⟨rfl, hb3⟩
    have HB_w3 := Lib.hid (HB_w2.out.trans (hb3.mono HB_w2.out.size))
    have HX_w3 := Lib.hid ((hb3.block _ (lt_of_block HX_w2.out)).trans HX_w2.out)
    have HZ_w3 := Lib.hid ((hb3.block _ (lt_of_block HZ_w2.out)).trans HZ_w2.out)
    have HR_w3 := Lib.hid (HR_w2.out.below hb3 (Nat.le_refl _))
    clear hb3 m0 m1 m2 m3 m4
    obtain ⟨⟨f0, f1, f2, f3, f4⟩, fbl⟩ := five26 HX_w3.out
    obtain ⟨g0, g1, g2, g3, g4⟩ := thaw5 HX_w3.out
    obtain ⟨⟨r0, r1, r2, r3, r4⟩, rbl⟩ := five26 HZ_w3.out
    obtain ⟨y0, y1, y2, y3, y4⟩ := thaw5 HZ_w3.out
    go_wp2
    obtain ⟨hw, hr9, hb9⟩ := two_end0 (w := w) (s := s) (v := v) (need := need) (ph := ph) (c := c) HR_w3.out (fun h0 j hj => by
      obtain ⟨ad9, e9, h1, _⟩ := HRW.out.cells h0
      rw [e9] at hj
      simp at hj
      have := HE.out.2.2.2.2
      omega) HZ_w3.out HB_w3.out (by have := HE.out.2.2.2.2; omega)
    rw [HP.out]
    refine bodyPost_ret (v := .tuple #[.agg #[.int .i64 s, .int .i64 v, .int .i64 need, .int .i64 ph, .slice A n c], .int .i64 130]) ?_ rfl ⟨A, c, ?_, ?_, fun j hj => .inr hj, hb9⟩
    · rw [results_cell_tmp rfl]
      simp [asAddr, Result.andThen, loadv26 hw]
    · simp only [hln]
    · simp only [hln]; exact hr9
end
end Go.Proofs.Ytciihebaameccaa
