/- The reference's Told. -/
import Derived.Test.YtciihebaameccaaRefD
import Derived.Test.YtciihebaameccaaRndS
import Derived.Test.YtciihebaameccaaRndQ
import Derived.Deep.CutRange
namespace Go.Coop
/-- in a round that is ready an answer takes nothing back -/
theorem ready_stays {r : Rn} (h : RightR r) (hp : r.ph = 2) {i : Nat} {m : Int} (hm : r.ms[i]? = some m) (op e : Int) : r.need ≤ cnt 1 (r.ms.set i (ansR 2 m op e)) := by
  have h3 := h.2.2
  unfold PhOk at h3
  have c1 := cnt_set 1 (x := ansR 2 m op e) hm
  have hx : m = 1 → ansR 2 m op e = 1 := by
    intro h1
    subst h1
    unfold ansR askedR
    simp
  by_cases h1 : m = 1
  · rw [if_pos h1, if_pos (hx h1)] at c1
    omega
  · rw [if_neg h1] at c1
    split at c1 <;> omega
end Go.Coop
namespace Go.Proofs.Ytciihebaameccaa
open Go.RowKit Go.Coop
set_option maxRecDepth 100000
/-- beside one block, and below it -/
theorem but_below {bx : Nat} {w4 wr w7 w8 : World} (h : But [bx] w4 wr) (hb : Below w4.heap.size wr w7) (h8 : But [bx] w7 w8) : But [bx] w4 w8 :=
  ⟨h8.os.trans (hb.os.trans h.os), h8.tape.trans (hb.tape.trans h.tape), h8.output.trans (hb.output.trans h.output), Nat.le_trans h.size (Nat.le_trans hb.size h8.size), fun k hk hg => by
    have h1 := h.block k hk hg
    have h2 := hb.block k hk
    have h3 := h8.block k (Nat.lt_of_lt_of_le hk (Nat.le_trans h.size hb.size)) hg
    exact h3.trans (h2.trans h1)⟩
section
variable (w : World)
set_option maxHeartbeats 4000000 in
theorem rtold_is (s v need ph i op e : Int) {A : Option Addr} {n c : Nat} {ms : List Int} (h : RdV w A n (ms.map IV)) (hn : n ≤ 1000000) {P : Rn × Int} (hP : Rn.told ⟨s, v, need, ph, ms⟩ i op e = P) : Calls Try.prog 23 #[.agg #[.int .i64 s, .int .i64 v, .int .i64 need, .int .i64 ph, .slice A n c], .int .i64 i, .int .u8 op, .int .i64 e] w (TwoA w A P) := by
  have hln : ms.length = n := by simpa using h.len
  obtain ⟨w1, hw1⟩ : ∃ z, w.alloc (.cells #[.int .i64 s, .int .i64 v, .int .i64 need, .int .i64 ph, .slice A n c] 26) = z := ⟨_, rfl⟩
  obtain ⟨w2, hw2⟩ : ∃ z, w1.alloc (.cells #[.int .i64 0, .int .i64 0, .int .i64 0, .int .i64 0, .slice none 0 0] 26) = z := ⟨_, rfl⟩
  obtain ⟨hb1, hx1⟩ := box_new hw1
  obtain ⟨hb2, hx2⟩ := box_new hw2
  obtain ⟨b, hb⟩ : ∃ b, w.heap.size = b := ⟨_, rfl⟩
  obtain ⟨b2, hbb⟩ : ∃ b, w1.heap.size = b := ⟨_, rfl⟩
  have hlt : b < b2 := by rw [← hb, ← hbb]; exact lt_of_block hx1
  have hx12 := (hb2.block _ (lt_of_block hx1)).trans hx1
  rw [hb] at hx12
  rw [hbb] at hx2
  have hB2 := hb1.trans (hb2.mono hb1.size)
  have hR := h.below hB2 (Nat.le_refl _)
  have hne : b2 ≠ b := by omega
  have hne' : b ≠ b2 := by omega
  obtain ⟨⟨m0, m1, m2, m3, m4⟩, hbl⟩ := five26 hx12
  have HE := Lib.hid (And.intro hR (And.intro hB2 (And.intro hx12 (And.intro hx2 (And.intro hb hlt)))))
  have HRW := Lib.hid h
  clear h hR hB2 hx12 hx2 hlt hx1 hb1 hb2 hbl
  have HB_w2 := Lib.hid HE.out.2.1
  have HX_w2 := Lib.hid HE.out.2.2.1
  have HZ_w2 := Lib.hid HE.out.2.2.2.1
  have HR_w2 := Lib.hid HE.out.1
  by_cases hH : RightR ⟨s, v, need, ph, ms⟩
  · by_cases hi0 : i < 0
    · have kH := Lib.hid (decide_eq_true hH)
      have HP : Hid (P = (⟨s, v, need, ph, ms⟩, 130)) := by show _ = _; rw [← hP]; unfold Rn.told; rw [if_neg (fun hh => by have h1 := hh.2; simp only [hln] at h1; omega)]
      have z0 : decide (i < 0) = true := decide_eq_true hi0
      clear hP hH hi0
      go_enter Try.func23, Try.ntmps23
      go_wp2_with fail
      (try rw [hw1]); (try rw [hw2]); (try rw [hb]); (try rw [hbb])
      clear hw1 hw2 hb hbb
      refine (rright_is _ s v need ph HR_w2.out hn kH.out).mono ?_
      rintro e' w3 ⟨rfl, hb3⟩
      have HB_w3 := Lib.hid (HB_w2.out.trans (hb3.mono HB_w2.out.size))
      have HX_w3 := Lib.hid ((hb3.block _ (lt_of_block HX_w2.out)).trans HX_w2.out)
      have HZ_w3 := Lib.hid ((hb3.block _ (lt_of_block HZ_w2.out)).trans HZ_w2.out)
      have HR_w3 := Lib.hid (HR_w2.out.below hb3 (Nat.le_refl _))
      clear hb3 m0 m1 m2 m3 m4
      obtain ⟨⟨f0, f1, f2, f3, f4⟩, fbl⟩ := five26 HX_w3.out
      obtain ⟨g0, g1, g2, g3, g4⟩ := thaw5 HX_w3.out
      obtain ⟨⟨r0, r1, r2, r3, r4⟩, rbl⟩ := five26 HZ_w3.out
      obtain ⟨y0, y1, y2, y3, y4⟩ := thaw5 HZ_w3.out
      go_wp2
      obtain ⟨hw, hr9, hb9⟩ := two_end0 (w := w) (s := s) (v := v) (need := need) (ph := ph) (c := c) HR_w3.out (fun h0 j hj => by
        obtain ⟨ad9, e9, h1, _⟩ := HRW.out.cells h0
        rw [e9] at hj
        simp at hj
        have := HE.out.2.2.2.2
        omega) HZ_w3.out HB_w3.out (by have := HE.out.2.2.2.2; omega)
      rw [HP.out]
      refine bodyPost_ret (v := .tuple #[.agg #[.int .i64 s, .int .i64 v, .int .i64 need, .int .i64 ph, .slice A n c], .int .i64 130]) ?_ rfl ⟨A, c, ?_, ?_, fun j hj => .inr hj, hb9⟩
      · rw [results_cell_tmp rfl]
        simp [asAddr, Result.andThen, loadv26 hw]
      · simp only [hln]
      · simp only [hln]; exact hr9
    · by_cases hin : (n : Int) ≤ i
      · have kH := Lib.hid (decide_eq_true hH)
        have HP : Hid (P = (⟨s, v, need, ph, ms⟩, 130)) := by show _ = _; rw [← hP]; unfold Rn.told; rw [if_neg (fun hh => by have h1 := hh.2; simp only [hln] at h1; omega)]
        have z0 : decide (i < 0) = false := decide_eq_false hi0
        have z1 : decide ((n : Int) ≤ i) = true := decide_eq_true hin
        clear hP hH hi0 hin
        go_enter Try.func23, Try.ntmps23
        go_wp2_with fail
        (try rw [hw1]); (try rw [hw2]); (try rw [hb]); (try rw [hbb])
        clear hw1 hw2 hb hbb
        refine (rright_is _ s v need ph HR_w2.out hn kH.out).mono ?_
        rintro e' w3 ⟨rfl, hb3⟩
        have HB_w3 := Lib.hid (HB_w2.out.trans (hb3.mono HB_w2.out.size))
        have HX_w3 := Lib.hid ((hb3.block _ (lt_of_block HX_w2.out)).trans HX_w2.out)
        have HZ_w3 := Lib.hid ((hb3.block _ (lt_of_block HZ_w2.out)).trans HZ_w2.out)
        have HR_w3 := Lib.hid (HR_w2.out.below hb3 (Nat.le_refl _))
        clear hb3 m0 m1 m2 m3 m4
        obtain ⟨⟨f0, f1, f2, f3, f4⟩, fbl⟩ := five26 HX_w3.out
        obtain ⟨g0, g1, g2, g3, g4⟩ := thaw5 HX_w3.out
        obtain ⟨⟨r0, r1, r2, r3, r4⟩, rbl⟩ := five26 HZ_w3.out
        obtain ⟨y0, y1, y2, y3, y4⟩ := thaw5 HZ_w3.out
        go_wp2
        obtain ⟨hw, hr9, hb9⟩ := two_end0 (w := w) (s := s) (v := v) (need := need) (ph := ph) (c := c) HR_w3.out (fun h0 j hj => by
          obtain ⟨ad9, e9, h1, _⟩ := HRW.out.cells h0
          rw [e9] at hj
          simp at hj
          have := HE.out.2.2.2.2
          omega) HZ_w3.out HB_w3.out (by have := HE.out.2.2.2.2; omega)
        rw [HP.out]
        refine bodyPost_ret (v := .tuple #[.agg #[.int .i64 s, .int .i64 v, .int .i64 need, .int .i64 ph, .slice A n c], .int .i64 130]) ?_ rfl ⟨A, c, ?_, ?_, fun j hj => .inr hj, hb9⟩
        · rw [results_cell_tmp rfl]
          simp [asAddr, Result.andThen, loadv26 hw]
        · simp only [hln]
        · simp only [hln]; exact hr9
      · have kH := Lib.hid (decide_eq_true hH)
        have z0 : decide (i < 0) = false := decide_eq_false hi0
        have z1 : decide ((n : Int) ≤ i) = false := decide_eq_false hin
        obtain ⟨k, rfl⟩ : ∃ k : Nat, i = (k : Int) := ⟨i.toNat, by omega⟩
        have hkn : k < n := by omega
        have z3 : decide (n ≤ k) = false := decide_eq_false (by omega)
        obtain ⟨y, hy⟩ : ∃ y, ms[k]? = some y := ⟨_, List.getElem?_eq_getElem (by omega)⟩
        have hHas : HasR ⟨s, v, need, ph, ms⟩ (k : Int) := ⟨hH, by omega, by simp only [hln]; omega⟩
        obtain ⟨x, hx⟩ : ∃ x, ansR ph y op e = x := ⟨_, rfl⟩
        obtain ⟨Ls, hLs⟩ : ∃ l, ms.set k x = l := ⟨_, rfl⟩
        have HP0 : Hid (P = (⟨s, v, need, phaseR ph need Ls, Ls⟩, 0)) := by
          show _ = _
          rw [← hP, told_eq hHas (m := y) (by rw [Int.toNat_natCast]; exact hy), Int.toNat_natCast]
          simp only
          rw [hx]
          unfold Rn.marked
          simp only [hLs]
        have hLn : Ls.length = n := by rw [← hLs, List.length_set]; exact hln
        have HX := Lib.hid hx
        have HLs := Lib.hid hLs
        have HLn := Lib.hid hLn
        have HYK := Lib.hid (And.intro hy hkn)
        have HRR := Lib.hid hH
        clear hP hH hi0 hin hHas hx hLs hLn hy
        go_enter Try.func23, Try.ntmps23
        go_wp2_with fail
        (try rw [hw1]); (try rw [hw2]); (try rw [hb]); (try rw [hbb])
        clear hw1 hw2 hb hbb
        refine (rright_is _ s v need ph HR_w2.out hn kH.out).mono ?_
        rintro e' w3 ⟨rfl, hb3⟩
        have HB_w3 := Lib.hid (HB_w2.out.trans (hb3.mono HB_w2.out.size))
        have HX_w3 := Lib.hid ((hb3.block _ (lt_of_block HX_w2.out)).trans HX_w2.out)
        have HZ_w3 := Lib.hid ((hb3.block _ (lt_of_block HZ_w2.out)).trans HZ_w2.out)
        have HR_w3 := Lib.hid (HR_w2.out.below hb3 (Nat.le_refl _))
        clear hb3 m0 m1 m2 m3 m4
        obtain ⟨⟨f0, f1, f2, f3, f4⟩, fbl⟩ := five26 HX_w3.out
        obtain ⟨g0, g1, g2, g3, g4⟩ := thaw5 HX_w3.out
        obtain ⟨⟨r0, r1, r2, r3, r4⟩, rbl⟩ := five26 HZ_w3.out
        obtain ⟨y0, y1, y2, y3, y4⟩ := thaw5 HZ_w3.out
        clear hkn
        obtain ⟨bx, hbx⟩ : ∃ z, w3.heap.size = z := ⟨_, rfl⟩
        obtain ⟨w4, hw4⟩ : ∃ z, w3.alloc (.cells #[.int .i64 s, .int .i64 v, .int .i64 need, .int .i64 ph, .slice none 0 0] 26) = z := ⟨_, rfl⟩
        obtain ⟨hb4, hx4⟩ := box_new hw4
        rw [hbx] at hx4
        have hs4 : w4.heap.size = bx + 1 := by rw [← hw4, ← hbx]; simp
        have HBX := Lib.hid (And.intro hbx hs4)
        have HB_w4 := Lib.hid (HB_w3.out.trans (hb4.mono HB_w3.out.size))
        have HX_w4 := Lib.hid ((hb4.block _ (lt_of_block HX_w3.out)).trans HX_w3.out)
        have HZ_w4 := Lib.hid ((hb4.block _ (lt_of_block HZ_w3.out)).trans HZ_w3.out)
        have HR_w4 := Lib.hid (HR_w3.out.below hb4 (Nat.le_refl _))
        have HXX := Lib.hid hx4
        obtain ⟨⟨x0, x1, x2, x3, x4⟩, xbl⟩ := five26 hx4
        have HW4 := Lib.hid hw4
        clear hb4 hx4 hs4 hw4 x0 x1 x2 x3 x4 xbl
        go_wp2
        rw [HW4.out]
        (try rw [hbx])
        clear HW4 hbx z0 z1 z3
        clear f0 f1 f2 f3 f4 fbl g0 g1 g2 g3 g4 r0 r1 r2 r3 r4 rbl y0 y1 y2 y3 y4
        go_loopg [11, 12] n (fun kx s11 _ wr => ∃ (j : Nat) (X : Option Addr) (cx : Nat), j ≤ n ∧ n - j ≤ kx ∧ s11 = .int .i64 j ∧ Hid (OwnV wr w4.heap.size 3 X j cx ((Ls.take j).map IV)) ∧ Hid (wr.heap[bx]? = some (.cells #[.int .i64 s, .int .i64 v, .int .i64 need, .int .i64 ph, .slice X j cx] 26 (0, 0))) ∧ Hid (But [bx] w4 wr))
        case atStart => exact ⟨0, none, 0, Nat.zero_le _, by omega, rfl, (by simpa using OwnV.nil _ _ _ : OwnV w4 w4.heap.size 3 none 0 0 ((Ls.take 0).map IV)), HXX, (But.refl _ _ : But [bx] w4 w4)⟩
        case round =>
          obtain ⟨j, X, cx, hj, hkx, rfl, HO, HXr, HBt⟩ := hrel
          have HXb := Lib.hid (HBt.out.cells HX_w4.out (by have := lt_of_block HX_w3.out; have := HBX.out.1; simp; omega))
          have HZb := Lib.hid (HBt.out.cells HZ_w4.out (by have := lt_of_block HZ_w3.out; have := HBX.out.1; simp; omega))
          have HRb := Lib.hid (HR_w4.out.but0 HBt.out (fun h0 jj hj2 hm => by
            obtain ⟨ad9, e9, h1, _⟩ := HR_w3.out.cells h0
            rw [e9] at hj2
            simp at hj2 hm
            have := HBX.out.1
            omega))
          obtain ⟨⟨f0, f1, f2, f3, f4⟩, fbl⟩ := five26 HXb.out
          obtain ⟨⟨x0, x1, x2, x3, x4⟩, xbl⟩ := five26 HXr.out
          by_cases hlt : j < n
          · obtain ⟨y2, hy2⟩ : ∃ y, ms[j]? = some y := ⟨_, List.getElem?_eq_getElem (by omega)⟩
            obtain ⟨ad, hA, hadl, hxc⟩ := HRb.out.cells (by omega)
            have e0 := hxc j (IV y2) (by rw [List.getElem?_map, hy2]; rfl)
            subst hA
            have hi1 : (0 : Int) ≤ (j : Int) := by omega
            have hi2 : (j : Int) < (n : Int) := by omega
            have hw1 : IntKind.i64.wrap ((j : Int) + 1) = (j : Int) + 1 := IntWalk.i64_in _ (by omega)
            have HY2 := Lib.hid (And.intro hy2 hlt)
            have hne : bx ≠ b := by have := lt_of_block HX_w3.out; have := HBX.out.1; omega
            have hne' := hne.symm
            clear hy2 hlt hadl hxc
            by_cases hjk : j = k
            · subst hjk
              have hyy : y2 = y := by have h1 := HY2.out.1; rw [HYK.out.1] at h1; injection h1 with h1; exact h1.symm
              subst hyy
              have hLj : Ls[j]? = some x := by rw [← HLs.out]; have := HY2.out.2; simp [show j < ms.length by omega]
              have HLJ := Lib.hid hLj
              have HMK : Hid ((0 ≤ y2 ∧ y2 ≤ 4 ∧ (ph = 3 → y2 ≠ 4)) ∧ (1 ≤ ph ∧ ph ≤ 6)) := by
                have hr := HRR.out
                have h1 := hr.2.1 y2 (List.mem_of_getElem? HY2.out.1)
                have h2 := hr.ph6
                have h3 := hr.2.2
                unfold PhOk at h3
                simp only at h1 h2 h3
                refine ⟨⟨h1.1, h1.2, fun hp hm4 => ?_⟩, by omega⟩
                have := cnt_mem (hm4 ▸ List.mem_of_getElem? HY2.out.1)
                omega
              clear hLj
              go_wp2_with fail
              refine (rmark_is _ ph y2 op e HMK.out.2 HMK.out.1 HX.out).mono ?_
              rintro e' w' ⟨rfl, rfl⟩
              have HS : Hid ((Ls.take (j + 1)).map IV = (Ls.take j).map IV ++ [IV x]) := by
                show _ = _
                rw [take_snoc (x := x) HLJ.out, List.map_append]
                rfl
              go_wp2_with (at_builtin; refine wpList_appV _ rfl (.tmp 60) (.tmp 62) _ rfl w4.heap.size 3 (.int .i64 0) 8 Try.underlying24 info3 rfl rfl (HO.out.below ((Below.refl _ _).alloc (Nat.le_refl _) _) (Nat.le_refl _)) rfl (m := 1) (RdV.new _ [IV x] 3 (0, 0)) (ivs_one [x]) (by omega) (by omega) (Nat.le_trans HBt.out.size (by simp)) (j + 1) rfl ?_; intro A' c' w7 ho hg hat; have hb7 : Below w4.heap.size wr w7 := ((Below.refl w4.heap.size wr).alloc HBt.out.size _).grown hg (by have := HBt.out.size; simp; omega) (fun kk hk => (HO.out.block kk hk).1); obtain ⟨w8, hw8⟩ : ∃ z, w7.setCell ⟨bx, 4, none⟩ (.slice A' (j + 1) c') = z := ⟨_, rfl⟩; have hx7 := (hb7.block bx (by have := HBX.out.2; omega)).trans HXr.out; obtain ⟨⟨g0, g1, g2, g3, g4⟩, gbl⟩ := five26 hx7; obtain ⟨t0, t1, t2, t3, t4⟩ := thaw5 hx7)
              have hx8 := row1 (v4 := .slice A' (j + 1) c') hx7
              have hbt8 : But [bx] w7 w8 := hw8 ▸ (But.refl _ _).setCell (by simp) _
              rw [hw8] at hx8
              have HX8 := Lib.hid hx8
              have HO8 : Hid (OwnV w8 w4.heap.size 3 A' (j + 1) c' ((Ls.take (j + 1)).map IV)) := by
                show OwnV _ _ _ _ _ _ _
                rw [HS.out]
                exact ho.but hbt8 (fun jj hj2 hm => by have := (ho.block jj hj2).1; have := HBX.out.2; simp at hm; omega)
              have HB8 : Hid (But [bx] w4 w8) := but_below HBt.out hb7 hbt8
              clear ho hg hat hx7 hx8 hbt8 hb7
              skip
              (try rw [hw8])
              go_roundg (n - (j + 1))
              case measure => omega
              case rel => exact ⟨j + 1, A', c', by have := HY2.out.2; omega, by omega, by go_num, HO8, HX8, HB8⟩
            · have hjk2 : ((j : Int) == (k : Int)) = false := by simp; omega
              have hLj : Ls[j]? = some y2 := by rw [← HLs.out, List.getElem?_set_ne (fun h => hjk h.symm)]; exact HY2.out.1
              have HLJ := Lib.hid hLj
              clear hLj hjk
              have HS : Hid ((Ls.take (j + 1)).map IV = (Ls.take j).map IV ++ [IV y2]) := by
                show _ = _
                rw [take_snoc (x := y2) HLJ.out, List.map_append]
                rfl
              go_wp2_with (at_builtin; refine wpList_appV _ rfl (.tmp 60) (.tmp 62) _ rfl w4.heap.size 3 (.int .i64 0) 8 Try.underlying24 info3 rfl rfl (HO.out.below ((Below.refl _ _).alloc (Nat.le_refl _) _) (Nat.le_refl _)) rfl (m := 1) (RdV.new _ [IV y2] 3 (0, 0)) (ivs_one [y2]) (by omega) (by omega) (Nat.le_trans HBt.out.size (by simp)) (j + 1) rfl ?_; intro A' c' w7 ho hg hat; have hb7 : Below w4.heap.size wr w7 := ((Below.refl w4.heap.size wr).alloc HBt.out.size _).grown hg (by have := HBt.out.size; simp; omega) (fun kk hk => (HO.out.block kk hk).1); obtain ⟨w8, hw8⟩ : ∃ z, w7.setCell ⟨bx, 4, none⟩ (.slice A' (j + 1) c') = z := ⟨_, rfl⟩; have hx7 := (hb7.block bx (by have := HBX.out.2; omega)).trans HXr.out; obtain ⟨⟨g0, g1, g2, g3, g4⟩, gbl⟩ := five26 hx7; obtain ⟨t0, t1, t2, t3, t4⟩ := thaw5 hx7)
              have hx8 := row1 (v4 := .slice A' (j + 1) c') hx7
              have hbt8 : But [bx] w7 w8 := hw8 ▸ (But.refl _ _).setCell (by simp) _
              rw [hw8] at hx8
              have HX8 := Lib.hid hx8
              have HO8 : Hid (OwnV w8 w4.heap.size 3 A' (j + 1) c' ((Ls.take (j + 1)).map IV)) := by
                show OwnV _ _ _ _ _ _ _
                rw [HS.out]
                exact ho.but hbt8 (fun jj hj2 hm => by have := (ho.block jj hj2).1; have := HBX.out.2; simp at hm; omega)
              have HB8 : Hid (But [bx] w4 w8) := but_below HBt.out hb7 hbt8
              clear ho hg hat hx7 hx8 hbt8 hb7
              skip
              (try rw [hw8])
              go_roundg (n - (j + 1))
              case measure => omega
              case rel => exact ⟨j + 1, A', c', by have := HY2.out.2; omega, by omega, by go_num, HO8, HX8, HB8⟩
          · have hjn : j = n := by omega
            have hi2 : ¬ (j : Int) < (n : Int) := by omega
            have hft : Ls.take j = Ls := List.take_of_length_le (by rw [HLn.out]; omega)
            have hrl := HO.out.rd
            rw [hft, hjn] at hrl
            have HRl_wr := Lib.hid hrl
            have hxx := HXr.out
            rw [hjn] at hxx
            have HXx_wr := Lib.hid hxx
            have HX_wr := HXb
            have HZ_wr := HZb
            have HFR : Hid (∀ jj, X.map (·.block) = some jj → w4.heap.size ≤ jj) := fun jj hj2 => (HO.out.block jj hj2).1
            have HNE : Hid (w.heap.size ≤ bx ∧ b2 < bx) := by show _ ∧ _; have h1 := HB_w3.out.size; have h2 := lt_of_block HZ_w3.out; have h3 := HBX.out.1; omega
            have HB_wr : Hid (Below w.heap.size w wr) := HB_w4.out.trans (HBt.out.below (B := w.heap.size) HB_w4.out.size (by intro g hg; simp at hg; have := HNE.out.1; omega))
            obtain ⟨d1, e1⟩ : ∃ k, cnt 1 Ls = k := ⟨_, rfl⟩
            obtain ⟨d2, e2⟩ : ∃ k, cnt 2 Ls = k := ⟨_, rfl⟩
            obtain ⟨d3, e3⟩ : ∃ k, cnt 3 Ls = k := ⟨_, rfl⟩
            obtain ⟨d4, e4⟩ : ∃ k, cnt 4 Ls = k := ⟨_, rfl⟩
            have E_1 := Lib.hid e1
            have E_2 := Lib.hid e2
            have E_3 := Lib.hid e3
            have E_4 := Lib.hid e4
            have HND : Hid (1 ≤ need ∧ need ≤ (n : Int) ∧ (n : Int) ≤ 255) := by
              show _ ∧ _
              have h1 := HRR.out.1
              unfold MayR at h1
              simp only [hln] at h1
              omega
            have hx4 := HXr.out
            rw [hjn] at x4
            have hp6 := HRR.out.ph6
            simp only at hp6
            clear hrl hft hxx hx4 e1 e2 e3 e4 HO HXr HXb HZb hlt
            rcases hp6 with hp6 | hp6 | hp6 | hp6 | hp6 | hp6
            · subst hp6
              by_cases h1 : need ≤ d1
              · have hph : Hid (phaseR 1 need Ls = 2) := by
                  show _ = _
                  unfold phaseR
                  rw [E_1.out, E_2.out, E_3.out, E_4.out, HLn.out]
                  (repeat' split) <;> omega
                have t1' := decide_eq_true h1
                clear h1
                go_wp2
                obtain ⟨y51, h_y51⟩ : ∃ z, wr.drew = z := ⟨_, rfl⟩
                have hbd : Below wr.heap.size wr y51 := h_y51 ▸ (Below.refl _ _).drew
                have HX_y51 := Lib.hid ((hbd.block _ (lt_of_block HX_wr.out)).trans HX_wr.out)
                have HXx_y51 := Lib.hid ((hbd.block _ (lt_of_block HXx_wr.out)).trans HXx_wr.out)
                have HZ_y51 := Lib.hid ((hbd.block _ (lt_of_block HZ_wr.out)).trans HZ_wr.out)
                have HRl_y51 := Lib.hid (HRl_wr.out.below hbd (Nat.le_refl _))
                have HB_y51 : Hid (Below w.heap.size w y51) := HB_wr.out.trans (hbd.mono HB_wr.out.size)
                have HS_y51 : Hid (Below y51.heap.size y51 y51) := Below.refl _ _
                clear hbd
                obtain ⟨⟨m0, m1, m2, m3, m4⟩, hbl⟩ := five26 HX_y51.out
                obtain ⟨⟨n0, n1, n2, n3, n4⟩, hbn⟩ := five26 HXx_y51.out
                refine wp_region_held_drew (S := fun z => Below y51.heap.size y51 z) (by kernel_rfl) (by show Below _ _ _; rw [h_y51]; exact Below.refl _ _) (fun hHeld => ?_)
                rw [h_y51]
                clear h_y51
                refine wpAnyH_take (i := 0) (oi := ⟨some 68, _, _, _, _, _⟩) (v := ?_) rfl (by kernel_rfl) (by kernel_rfl) (by kernel_rfl) (fun _ _ _ h => h) (Or.inl ⟨by rfl, ?_⟩) (by assumption) ?_
                rotate_left
                · intro w hSw
                  (try dsimp only at hSw)
                  go_simp
                  all_goals (with_reducible rfl)
                try simp only [Act.put, List.setIfInBounds_toArray, List.set_cons_zero, List.set_cons_succ]
                refine wpAnyH_take (i := 1) (oi := ⟨some 69, _, _, _, _, _⟩) (v := ?_) rfl (by kernel_rfl) (by kernel_rfl) (by kernel_rfl) (fun _ _ _ h => h) (Or.inl ⟨by rfl, ?_⟩) (by assumption) ?_
                rotate_left
                · intro w hSw
                  have kk3 := (hSw.cell (p := ⟨b, 3, none⟩) hbl).trans m3
                  clear hSw
                  go_simp
                  all_goals (with_reducible rfl)
                try simp only [Act.put, List.setIfInBounds_toArray, List.set_cons_zero, List.set_cons_succ]
                refine wpAnyH_take (i := 2) (oi := ⟨some 70, _, _, _, _, _⟩) (v := ?_) rfl (by kernel_rfl) (by kernel_rfl) (by kernel_rfl) (fun _ _ _ h => h) (Or.inl ⟨by rfl, ?_⟩) (by assumption) ?_
                rotate_left
                · intro w hSw
                  (try dsimp only at hSw)
                  go_simp
                  all_goals (with_reducible rfl)
                try simp only [Act.put, List.setIfInBounds_toArray, List.set_cons_zero, List.set_cons_succ]
                refine wpAnyH_take (i := 3) (oi := ⟨some 71, _, _, _, _, _⟩) (v := ?_) rfl (by kernel_rfl) (by kernel_rfl) (by kernel_rfl) (fun _ _ _ h => h) (Or.inl ⟨by rfl, ?_⟩) (by assumption) ?_
                rotate_left
                · intro w hSw
                  (try dsimp only at hSw)
                  go_simp
                  all_goals (with_reducible rfl)
                try simp only [Act.put, List.setIfInBounds_toArray, List.set_cons_zero, List.set_cons_succ]
                refine wpAnyH_take (i := 4) (oi := ⟨some 72, _, _, _, _, _⟩) (v := ?_) rfl (by kernel_rfl) (by kernel_rfl) (by kernel_rfl) (fun _ _ _ h => h) (Or.inl ⟨by rfl, ?_⟩) (by assumption) ?_
                rotate_left
                · intro w hSw
                  have kk0 := (hSw.cell (p := ⟨bx, 0, none⟩) hbn).trans n0
                  have kk1 := (hSw.cell (p := ⟨bx, 1, none⟩) hbn).trans n1
                  have kk2 := (hSw.cell (p := ⟨bx, 2, none⟩) hbn).trans n2
                  have kk3 := (hSw.cell (p := ⟨bx, 3, none⟩) hbn).trans n3
                  have kk4 := (hSw.cell (p := ⟨bx, 4, none⟩) hbn).trans n4
                  clear hSw
                  go_simp
                  all_goals (with_reducible rfl)
                try simp only [Act.put, List.setIfInBounds_toArray, List.set_cons_zero, List.set_cons_succ]
                refine wpAnyH_take (i := 6) (oi := ⟨some 74, _, _, _, _, _⟩) (v := ?_) rfl (by kernel_rfl) (by kernel_rfl) (by kernel_rfl) (fun _ _ _ h => h) (Or.inl ⟨by rfl, ?_⟩) (by assumption) ?_
                rotate_left
                · intro w hSw
                  (try dsimp only at hSw)
                  go_simp
                  all_goals (with_reducible rfl)
                try simp only [Act.put, List.setIfInBounds_toArray, List.set_cons_zero, List.set_cons_succ]
                refine wpAnyH_take (i := 7) (oi := ⟨some 75, _, _, _, _, _⟩) (v := ?_) rfl (by kernel_rfl) (by kernel_rfl) (by kernel_rfl) (fun _ _ _ h => h) (Or.inl ⟨by rfl, ?_⟩) (by assumption) ?_
                rotate_left
                · intro w hSw
                  have kk0 := (hSw.cell (p := ⟨bx, 0, none⟩) hbn).trans n0
                  have kk1 := (hSw.cell (p := ⟨bx, 1, none⟩) hbn).trans n1
                  have kk2 := (hSw.cell (p := ⟨bx, 2, none⟩) hbn).trans n2
                  have kk3 := (hSw.cell (p := ⟨bx, 3, none⟩) hbn).trans n3
                  have kk4 := (hSw.cell (p := ⟨bx, 4, none⟩) hbn).trans n4
                  clear hSw
                  go_simp
                  all_goals (with_reducible rfl)
                try simp only [Act.put, List.setIfInBounds_toArray, List.set_cons_zero, List.set_cons_succ]
                refine wpAnyH_ready (rs := [5]) (by kernel_rfl) (by simp) (AllReadyH.cons (o := ⟨some 73, _, _, _, _, _⟩) rfl (fun K hK => ?_) AllReadyH.nil)
                go_simp
                refine (rmany_is _ s v need 1 1 HRl_y51.out hn E_1.out).mono ?_
                rintro e' y52 ⟨rfl, hbv⟩
                have HX_y52 := Lib.hid ((hbv.block _ (lt_of_block HX_y51.out)).trans HX_y51.out)
                have HXx_y52 := Lib.hid ((hbv.block _ (lt_of_block HXx_y51.out)).trans HXx_y51.out)
                have HZ_y52 := Lib.hid ((hbv.block _ (lt_of_block HZ_y51.out)).trans HZ_y51.out)
                have HRl_y52 := Lib.hid (HRl_y51.out.below hbv (Nat.le_refl _))
                have HB_y52 : Hid (Below w.heap.size w y52) := HB_y51.out.trans (hbv.mono HB_y51.out.size)
                have HS_y52 : Hid (Below y51.heap.size y51 y52) := HS_y51.out.trans (hbv.mono HS_y51.out.size)
                clear hbv
                refine hK.out _ _ (HS_y52.out) (fun hHeld => ?_)
                clear hK K
                try simp only [Act.put, List.setIfInBounds_toArray, List.set_cons_zero, List.set_cons_succ]
                refine wpAnyH_take (i := 8) (oi := ⟨some 76, _, _, _, _, _⟩) (v := ?_) rfl (by kernel_rfl) (by kernel_rfl) (by kernel_rfl) (fun _ _ _ h => h) (Or.inl ⟨by rfl, ?_⟩) (by assumption) ?_
                rotate_left
                · intro w hSw
                  (try dsimp only at hSw)
                  go_simp
                  all_goals (with_reducible rfl)
                try simp only [Act.put, List.setIfInBounds_toArray, List.set_cons_zero, List.set_cons_succ]
                refine wpAnyH_take (i := 9) (oi := ⟨some 77, _, _, _, _, _⟩) (v := ?_) rfl (by kernel_rfl) (by kernel_rfl) (by kernel_rfl) (fun _ _ _ h => h) (Or.inl ⟨by rfl, ?_⟩) (by assumption) ?_
                rotate_left
                · intro w hSw
                  (try dsimp only at hSw)
                  go_simp
                  all_goals (with_reducible rfl)
                try simp only [Act.put, List.setIfInBounds_toArray, List.set_cons_zero, List.set_cons_succ]
                refine wpAnyH_done (by kernel_rfl) ?_ _
                clear m0 m1 m2 m3 m4 hbl n0 n1 n2 n3 n4 hbn
                obtain ⟨⟨f0, f1, f2, f3, f4⟩, fbl⟩ := five26 HX_y52.out
                obtain ⟨⟨x0, x1, x2, x3, x4⟩, xbl⟩ := five26 HXx_y52.out
                obtain ⟨t0, t1, t2, t3, t4⟩ := thaw5 HXx_y52.out
                obtain ⟨wz, hwz⟩ : ∃ z, y52.setCell ⟨bx, 3, none⟩ (.int .i64 2) = z := ⟨_, rfl⟩
                have hxz : wz.heap[bx]? = some (.cells #[.int .i64 s, .int .i64 v, .int .i64 need, .int .i64 2, .slice X n cx] 26 (0, 0)) := hwz ▸ row3 HXx_y52.out
                have hbz : But [bx] y52 wz := hwz ▸ (But.refl _ _).setCell (by simp) _
                have hzz := hbz.cells HZ_y52.out (by have := HNE.out.2; simp; omega)
                have HRz := Lib.hid (HRl_y52.out.but hbz (fun jj hj2 hm => by have h1 := HFR.out jj hj2; have h2 := HBX.out.2; simp at hm; omega))
                have HBz : Hid (Below w.heap.size w wz) := HB_y52.out.trans (hbz.below (B := w.heap.size) HB_y52.out.size (by intro g hg; simp at hg; have := HNE.out.1; omega))
                have HZz := Lib.hid hzz
                obtain ⟨⟨z0, z1, z2, z3, z4⟩, zbl⟩ := five26 hxz
                obtain ⟨⟨q0, q1, q2, q3, q4⟩, qbl⟩ := five26 hzz
                obtain ⟨o0, o1, o2, o3, o4⟩ := thaw5 hzz
                have hnex : bx ≠ b2 := by have := HNE.out.2; omega
                have hnex' := hnex.symm
                clear hxz hbz hzz
                go_wp2
                (try rw [hwz])
                obtain ⟨hw, hr9, hb9⟩ := two_end (w := w) (s := s) (v := v) (need := need) (ph := 2) (c := cx) HRz.out (fun jj hj2 => by have h1 := HFR.out jj hj2; have h2 := HBX.out.2; have h3 := HNE.out.2; omega) HZz.out HBz.out (by have := HE.out.2.2.2.2; omega)
                have hpp := HP0.out
                rw [hph.out] at hpp
                rw [hpp]
                refine bodyPost_ret (v := .tuple #[.agg #[.int .i64 s, .int .i64 v, .int .i64 need, .int .i64 2, .slice X n cx], .int .i64 0]) ?_ rfl ⟨X, cx, ?_, ?_, (fun jj hj2 => .inl (by have h1 := HFR.out jj hj2; have h2 := HB_w4.out.size; omega)), hb9⟩
                · rw [results_cell_tmp rfl]
                  simp [asAddr, Result.andThen, loadv26 hw]
                · simp only [HLn.out]
                · simp only [HLn.out]; exact hr9
              · by_cases h3 : (n : Int) - need < d3
                · have hph : Hid (phaseR 1 need Ls = 5) := by
                    show _ = _
                    unfold phaseR
                    rw [E_1.out, E_2.out, E_3.out, E_4.out, HLn.out]
                    (repeat' split) <;> omega
                  have t1' := decide_eq_false h1
                  have t3' := decide_eq_true h3
                  have hwr : IntKind.i64.wrap ((n : Int) - need) = (n : Int) - need := IntWalk.i64_in _ (by have := HND.out; omega)
                  clear h1 h3
                  go_wp2
                  obtain ⟨y53, h_y53⟩ : ∃ z, wr.drew = z := ⟨_, rfl⟩
                  have hbd : Below wr.heap.size wr y53 := h_y53 ▸ (Below.refl _ _).drew
                  have HX_y53 := Lib.hid ((hbd.block _ (lt_of_block HX_wr.out)).trans HX_wr.out)
                  have HXx_y53 := Lib.hid ((hbd.block _ (lt_of_block HXx_wr.out)).trans HXx_wr.out)
                  have HZ_y53 := Lib.hid ((hbd.block _ (lt_of_block HZ_wr.out)).trans HZ_wr.out)
                  have HRl_y53 := Lib.hid (HRl_wr.out.below hbd (Nat.le_refl _))
                  have HB_y53 : Hid (Below w.heap.size w y53) := HB_wr.out.trans (hbd.mono HB_wr.out.size)
                  have HS_y53 : Hid (Below y53.heap.size y53 y53) := Below.refl _ _
                  clear hbd
                  obtain ⟨⟨m0, m1, m2, m3, m4⟩, hbl⟩ := five26 HX_y53.out
                  obtain ⟨⟨n0, n1, n2, n3, n4⟩, hbn⟩ := five26 HXx_y53.out
                  refine wp_region_held_drew (S := fun z => Below y53.heap.size y53 z) (by kernel_rfl) (by show Below _ _ _; rw [h_y53]; exact Below.refl _ _) (fun hHeld => ?_)
                  rw [h_y53]
                  clear h_y53
                  refine wpAnyH_take (i := 0) (oi := ⟨some 68, _, _, _, _, _⟩) (v := ?_) rfl (by kernel_rfl) (by kernel_rfl) (by kernel_rfl) (fun _ _ _ h => h) (Or.inl ⟨by rfl, ?_⟩) (by assumption) ?_
                  rotate_left
                  · intro w hSw
                    (try dsimp only at hSw)
                    go_simp
                    all_goals (with_reducible rfl)
                  try simp only [Act.put, List.setIfInBounds_toArray, List.set_cons_zero, List.set_cons_succ]
                  refine wpAnyH_take (i := 1) (oi := ⟨some 69, _, _, _, _, _⟩) (v := ?_) rfl (by kernel_rfl) (by kernel_rfl) (by kernel_rfl) (fun _ _ _ h => h) (Or.inl ⟨by rfl, ?_⟩) (by assumption) ?_
                  rotate_left
                  · intro w hSw
                    have kk3 := (hSw.cell (p := ⟨b, 3, none⟩) hbl).trans m3
                    clear hSw
                    go_simp
                    all_goals (with_reducible rfl)
                  try simp only [Act.put, List.setIfInBounds_toArray, List.set_cons_zero, List.set_cons_succ]
                  refine wpAnyH_take (i := 2) (oi := ⟨some 70, _, _, _, _, _⟩) (v := ?_) rfl (by kernel_rfl) (by kernel_rfl) (by kernel_rfl) (fun _ _ _ h => h) (Or.inl ⟨by rfl, ?_⟩) (by assumption) ?_
                  rotate_left
                  · intro w hSw
                    (try dsimp only at hSw)
                    go_simp
                    all_goals (with_reducible rfl)
                  try simp only [Act.put, List.setIfInBounds_toArray, List.set_cons_zero, List.set_cons_succ]
                  refine wpAnyH_take (i := 3) (oi := ⟨some 71, _, _, _, _, _⟩) (v := ?_) rfl (by kernel_rfl) (by kernel_rfl) (by kernel_rfl) (fun _ _ _ h => h) (Or.inl ⟨by rfl, ?_⟩) (by assumption) ?_
                  rotate_left
                  · intro w hSw
                    (try dsimp only at hSw)
                    go_simp
                    all_goals (with_reducible rfl)
                  try simp only [Act.put, List.setIfInBounds_toArray, List.set_cons_zero, List.set_cons_succ]
                  refine wpAnyH_take (i := 4) (oi := ⟨some 72, _, _, _, _, _⟩) (v := ?_) rfl (by kernel_rfl) (by kernel_rfl) (by kernel_rfl) (fun _ _ _ h => h) (Or.inl ⟨by rfl, ?_⟩) (by assumption) ?_
                  rotate_left
                  · intro w hSw
                    have kk0 := (hSw.cell (p := ⟨bx, 0, none⟩) hbn).trans n0
                    have kk1 := (hSw.cell (p := ⟨bx, 1, none⟩) hbn).trans n1
                    have kk2 := (hSw.cell (p := ⟨bx, 2, none⟩) hbn).trans n2
                    have kk3 := (hSw.cell (p := ⟨bx, 3, none⟩) hbn).trans n3
                    have kk4 := (hSw.cell (p := ⟨bx, 4, none⟩) hbn).trans n4
                    clear hSw
                    go_simp
                    all_goals (with_reducible rfl)
                  try simp only [Act.put, List.setIfInBounds_toArray, List.set_cons_zero, List.set_cons_succ]
                  refine wpAnyH_take (i := 6) (oi := ⟨some 74, _, _, _, _, _⟩) (v := ?_) rfl (by kernel_rfl) (by kernel_rfl) (by kernel_rfl) (fun _ _ _ h => h) (Or.inl ⟨by rfl, ?_⟩) (by assumption) ?_
                  rotate_left
                  · intro w hSw
                    (try dsimp only at hSw)
                    go_simp
                    all_goals (with_reducible rfl)
                  try simp only [Act.put, List.setIfInBounds_toArray, List.set_cons_zero, List.set_cons_succ]
                  refine wpAnyH_take (i := 7) (oi := ⟨some 75, _, _, _, _, _⟩) (v := ?_) rfl (by kernel_rfl) (by kernel_rfl) (by kernel_rfl) (fun _ _ _ h => h) (Or.inl ⟨by rfl, ?_⟩) (by assumption) ?_
                  rotate_left
                  · intro w hSw
                    have kk0 := (hSw.cell (p := ⟨bx, 0, none⟩) hbn).trans n0
                    have kk1 := (hSw.cell (p := ⟨bx, 1, none⟩) hbn).trans n1
                    have kk2 := (hSw.cell (p := ⟨bx, 2, none⟩) hbn).trans n2
                    have kk3 := (hSw.cell (p := ⟨bx, 3, none⟩) hbn).trans n3
                    have kk4 := (hSw.cell (p := ⟨bx, 4, none⟩) hbn).trans n4
                    clear hSw
                    go_simp
                    all_goals (with_reducible rfl)
                  try simp only [Act.put, List.setIfInBounds_toArray, List.set_cons_zero, List.set_cons_succ]
                  refine wpAnyH_ready (rs := [5]) (by kernel_rfl) (by simp) (AllReadyH.cons (o := ⟨some 73, _, _, _, _, _⟩) rfl (fun K hK => ?_) AllReadyH.nil)
                  go_simp
                  refine (rmany_is _ s v need 1 1 HRl_y53.out hn E_1.out).mono ?_
                  rintro e' y54 ⟨rfl, hbv⟩
                  have HX_y54 := Lib.hid ((hbv.block _ (lt_of_block HX_y53.out)).trans HX_y53.out)
                  have HXx_y54 := Lib.hid ((hbv.block _ (lt_of_block HXx_y53.out)).trans HXx_y53.out)
                  have HZ_y54 := Lib.hid ((hbv.block _ (lt_of_block HZ_y53.out)).trans HZ_y53.out)
                  have HRl_y54 := Lib.hid (HRl_y53.out.below hbv (Nat.le_refl _))
                  have HB_y54 : Hid (Below w.heap.size w y54) := HB_y53.out.trans (hbv.mono HB_y53.out.size)
                  have HS_y54 : Hid (Below y53.heap.size y53 y54) := HS_y53.out.trans (hbv.mono HS_y53.out.size)
                  clear hbv
                  refine hK.out _ _ (HS_y54.out) (fun hHeld => ?_)
                  clear hK K
                  try simp only [Act.put, List.setIfInBounds_toArray, List.set_cons_zero, List.set_cons_succ]
                  refine wpAnyH_take (i := 8) (oi := ⟨some 76, _, _, _, _, _⟩) (v := ?_) rfl (by kernel_rfl) (by kernel_rfl) (by kernel_rfl) (fun _ _ _ h => h) (Or.inl ⟨by rfl, ?_⟩) (by assumption) ?_
                  rotate_left
                  · intro w hSw
                    (try dsimp only at hSw)
                    go_simp
                    all_goals (with_reducible rfl)
                  try simp only [Act.put, List.setIfInBounds_toArray, List.set_cons_zero, List.set_cons_succ]
                  refine wpAnyH_take (i := 9) (oi := ⟨some 77, _, _, _, _, _⟩) (v := ?_) rfl (by kernel_rfl) (by kernel_rfl) (by kernel_rfl) (fun _ _ _ h => h) (Or.inl ⟨by rfl, ?_⟩) (by assumption) ?_
                  rotate_left
                  · intro w hSw
                    (try dsimp only at hSw)
                    go_simp
                    all_goals (with_reducible rfl)
                  try simp only [Act.put, List.setIfInBounds_toArray, List.set_cons_zero, List.set_cons_succ]
                  refine wpAnyH_done (by kernel_rfl) ?_ _
                  clear m0 m1 m2 m3 m4 hbl n0 n1 n2 n3 n4 hbn
                  go_wp2
                  obtain ⟨y55, h_y55⟩ : ∃ z, y54.drew = z := ⟨_, rfl⟩
                  have hbd : Below y54.heap.size y54 y55 := h_y55 ▸ (Below.refl _ _).drew
                  have HX_y55 := Lib.hid ((hbd.block _ (lt_of_block HX_y54.out)).trans HX_y54.out)
                  have HXx_y55 := Lib.hid ((hbd.block _ (lt_of_block HXx_y54.out)).trans HXx_y54.out)
                  have HZ_y55 := Lib.hid ((hbd.block _ (lt_of_block HZ_y54.out)).trans HZ_y54.out)
                  have HRl_y55 := Lib.hid (HRl_y54.out.below hbd (Nat.le_refl _))
                  have HB_y55 : Hid (Below w.heap.size w y55) := HB_y54.out.trans (hbd.mono HB_y54.out.size)
                  have HS_y55 : Hid (Below y55.heap.size y55 y55) := Below.refl _ _
                  clear hbd
                  obtain ⟨⟨m0, m1, m2, m3, m4⟩, hbl⟩ := five26 HX_y55.out
                  obtain ⟨⟨n0, n1, n2, n3, n4⟩, hbn⟩ := five26 HXx_y55.out
                  refine wp_region_held_drew (S := fun z => Below y55.heap.size y55 z) (by kernel_rfl) (by show Below _ _ _; rw [h_y55]; exact Below.refl _ _) (fun hHeld => ?_)
                  rw [h_y55]
                  clear h_y55
                  refine wpAnyH_take (i := 0) (oi := ⟨some 79, _, _, _, _, _⟩) (v := ?_) rfl (by kernel_rfl) (by kernel_rfl) (by kernel_rfl) (fun _ _ _ h => h) (Or.inl ⟨by rfl, ?_⟩) (by assumption) ?_
                  rotate_left
                  · intro w hSw
                    (try dsimp only at hSw)
                    go_simp
                    all_goals (with_reducible rfl)
                  try simp only [Act.put, List.setIfInBounds_toArray, List.set_cons_zero, List.set_cons_succ]
                  refine wpAnyH_take (i := 1) (oi := ⟨some 80, _, _, _, _, _⟩) (v := ?_) rfl (by kernel_rfl) (by kernel_rfl) (by kernel_rfl) (fun _ _ _ h => h) (Or.inl ⟨by rfl, ?_⟩) (by assumption) ?_
                  rotate_left
                  · intro w hSw
                    have kk3 := (hSw.cell (p := ⟨b, 3, none⟩) hbl).trans m3
                    clear hSw
                    go_simp
                    all_goals (with_reducible rfl)
                  try simp only [Act.put, List.setIfInBounds_toArray, List.set_cons_zero, List.set_cons_succ]
                  refine wpAnyH_take (i := 2) (oi := ⟨some 81, _, _, _, _, _⟩) (v := ?_) rfl (by kernel_rfl) (by kernel_rfl) (by kernel_rfl) (fun _ _ _ h => h) (Or.inl ⟨by rfl, ?_⟩) (by assumption) ?_
                  rotate_left
                  · intro w hSw
                    (try dsimp only at hSw)
                    go_simp
                    all_goals (with_reducible rfl)
                  try simp only [Act.put, List.setIfInBounds_toArray, List.set_cons_zero, List.set_cons_succ]
                  refine wpAnyH_take (i := 3) (oi := ⟨some 82, _, _, _, _, _⟩) (v := ?_) rfl (by kernel_rfl) (by kernel_rfl) (by kernel_rfl) (fun _ _ _ h => h) (Or.inl ⟨by rfl, ?_⟩) (by assumption) ?_
                  rotate_left
                  · intro w hSw
                    (try dsimp only at hSw)
                    go_simp
                    all_goals (with_reducible rfl)
                  try simp only [Act.put, List.setIfInBounds_toArray, List.set_cons_zero, List.set_cons_succ]
                  refine wpAnyH_take (i := 4) (oi := ⟨some 83, _, _, _, _, _⟩) (v := ?_) rfl (by kernel_rfl) (by kernel_rfl) (by kernel_rfl) (fun _ _ _ h => h) (Or.inl ⟨by rfl, ?_⟩) (by assumption) ?_
                  rotate_left
                  · intro w hSw
                    have kk0 := (hSw.cell (p := ⟨bx, 0, none⟩) hbn).trans n0
                    have kk1 := (hSw.cell (p := ⟨bx, 1, none⟩) hbn).trans n1
                    have kk2 := (hSw.cell (p := ⟨bx, 2, none⟩) hbn).trans n2
                    have kk3 := (hSw.cell (p := ⟨bx, 3, none⟩) hbn).trans n3
                    have kk4 := (hSw.cell (p := ⟨bx, 4, none⟩) hbn).trans n4
                    clear hSw
                    go_simp
                    all_goals (with_reducible rfl)
                  try simp only [Act.put, List.setIfInBounds_toArray, List.set_cons_zero, List.set_cons_succ]
                  refine wpAnyH_take (i := 6) (oi := ⟨some 85, _, _, _, _, _⟩) (v := ?_) rfl (by kernel_rfl) (by kernel_rfl) (by kernel_rfl) (fun _ _ _ h => h) (Or.inl ⟨by rfl, ?_⟩) (by assumption) ?_
                  rotate_left
                  · intro w hSw
                    (try dsimp only at hSw)
                    go_simp
                    all_goals (with_reducible rfl)
                  try simp only [Act.put, List.setIfInBounds_toArray, List.set_cons_zero, List.set_cons_succ]
                  refine wpAnyH_take (i := 7) (oi := ⟨some 86, _, _, _, _, _⟩) (v := ?_) rfl (by kernel_rfl) (by kernel_rfl) (by kernel_rfl) (fun _ _ _ h => h) (Or.inl ⟨by rfl, ?_⟩) (by assumption) ?_
                  rotate_left
                  · intro w hSw
                    (try dsimp only at hSw)
                    go_simp
                    all_goals (with_reducible rfl)
                  try simp only [Act.put, List.setIfInBounds_toArray, List.set_cons_zero, List.set_cons_succ]
                  refine wpAnyH_take (i := 8) (oi := ⟨some 87, _, _, _, _, _⟩) (v := ?_) rfl (by kernel_rfl) (by kernel_rfl) (by kernel_rfl) (fun _ _ _ h => h) (Or.inl ⟨by rfl, ?_⟩) (by assumption) ?_
                  rotate_left
                  · intro w hSw
                    have kk0 := (hSw.cell (p := ⟨bx, 0, none⟩) hbn).trans n0
                    have kk1 := (hSw.cell (p := ⟨bx, 1, none⟩) hbn).trans n1
                    have kk2 := (hSw.cell (p := ⟨bx, 2, none⟩) hbn).trans n2
                    have kk3 := (hSw.cell (p := ⟨bx, 3, none⟩) hbn).trans n3
                    have kk4 := (hSw.cell (p := ⟨bx, 4, none⟩) hbn).trans n4
                    clear hSw
                    go_simp
                    all_goals (with_reducible rfl)
                  try simp only [Act.put, List.setIfInBounds_toArray, List.set_cons_zero, List.set_cons_succ]
                  refine wpAnyH_take (i := 9) (oi := ⟨some 88, _, _, _, _, _⟩) (v := ?_) rfl (by kernel_rfl) (by kernel_rfl) (by kernel_rfl) (fun _ _ _ h => h) (Or.inl ⟨by rfl, ?_⟩) (by assumption) ?_
                  rotate_left
                  · intro w hSw
                    (try dsimp only at hSw)
                    go_simp
                    all_goals (with_reducible rfl)
                  try simp only [Act.put, List.setIfInBounds_toArray, List.set_cons_zero, List.set_cons_succ]
                  refine wpAnyH_ready (rs := [5]) (by kernel_rfl) (by simp) (AllReadyH.cons (o := ⟨some 84, _, _, _, _, _⟩) rfl (fun K hK => ?_) AllReadyH.nil)
                  go_simp
                  refine (rmany_is _ s v need 1 3 HRl_y55.out hn E_3.out).mono ?_
                  rintro e' y56 ⟨rfl, hbv⟩
                  have HX_y56 := Lib.hid ((hbv.block _ (lt_of_block HX_y55.out)).trans HX_y55.out)
                  have HXx_y56 := Lib.hid ((hbv.block _ (lt_of_block HXx_y55.out)).trans HXx_y55.out)
                  have HZ_y56 := Lib.hid ((hbv.block _ (lt_of_block HZ_y55.out)).trans HZ_y55.out)
                  have HRl_y56 := Lib.hid (HRl_y55.out.below hbv (Nat.le_refl _))
                  have HB_y56 : Hid (Below w.heap.size w y56) := HB_y55.out.trans (hbv.mono HB_y55.out.size)
                  have HS_y56 : Hid (Below y55.heap.size y55 y56) := HS_y55.out.trans (hbv.mono HS_y55.out.size)
                  clear hbv
                  refine hK.out _ _ (HS_y56.out) (fun hHeld => ?_)
                  clear hK K
                  try simp only [Act.put, List.setIfInBounds_toArray, List.set_cons_zero, List.set_cons_succ]
                  refine wpAnyH_take (i := 10) (oi := ⟨some 89, _, _, _, _, _⟩) (v := ?_) rfl (by kernel_rfl) (by kernel_rfl) (by kernel_rfl) (fun _ _ _ h => h) (Or.inl ⟨by rfl, ?_⟩) (by assumption) ?_
                  rotate_left
                  · intro w hSw
                    (try dsimp only at hSw)
                    go_simp
                    all_goals (with_reducible rfl)
                  try simp only [Act.put, List.setIfInBounds_toArray, List.set_cons_zero, List.set_cons_succ]
                  refine wpAnyH_take (i := 11) (oi := ⟨some 90, _, _, _, _, _⟩) (v := ?_) rfl (by kernel_rfl) (by kernel_rfl) (by kernel_rfl) (fun _ _ _ h => h) (Or.inl ⟨by rfl, ?_⟩) (by assumption) ?_
                  rotate_left
                  · intro w hSw
                    (try dsimp only at hSw)
                    go_simp
                    all_goals (with_reducible rfl)
                  try simp only [Act.put, List.setIfInBounds_toArray, List.set_cons_zero, List.set_cons_succ]
                  refine wpAnyH_done (by kernel_rfl) ?_ _
                  clear m0 m1 m2 m3 m4 hbl n0 n1 n2 n3 n4 hbn
                  obtain ⟨⟨f0, f1, f2, f3, f4⟩, fbl⟩ := five26 HX_y56.out
                  obtain ⟨⟨x0, x1, x2, x3, x4⟩, xbl⟩ := five26 HXx_y56.out
                  obtain ⟨t0, t1, t2, t3, t4⟩ := thaw5 HXx_y56.out
                  obtain ⟨wz, hwz⟩ : ∃ z, y56.setCell ⟨bx, 3, none⟩ (.int .i64 5) = z := ⟨_, rfl⟩
                  have hxz : wz.heap[bx]? = some (.cells #[.int .i64 s, .int .i64 v, .int .i64 need, .int .i64 5, .slice X n cx] 26 (0, 0)) := hwz ▸ row3 HXx_y56.out
                  have hbz : But [bx] y56 wz := hwz ▸ (But.refl _ _).setCell (by simp) _
                  have hzz := hbz.cells HZ_y56.out (by have := HNE.out.2; simp; omega)
                  have HRz := Lib.hid (HRl_y56.out.but hbz (fun jj hj2 hm => by have h1 := HFR.out jj hj2; have h2 := HBX.out.2; simp at hm; omega))
                  have HBz : Hid (Below w.heap.size w wz) := HB_y56.out.trans (hbz.below (B := w.heap.size) HB_y56.out.size (by intro g hg; simp at hg; have := HNE.out.1; omega))
                  have HZz := Lib.hid hzz
                  obtain ⟨⟨z0, z1, z2, z3, z4⟩, zbl⟩ := five26 hxz
                  obtain ⟨⟨q0, q1, q2, q3, q4⟩, qbl⟩ := five26 hzz
                  obtain ⟨o0, o1, o2, o3, o4⟩ := thaw5 hzz
                  have hnex : bx ≠ b2 := by have := HNE.out.2; omega
                  have hnex' := hnex.symm
                  clear hxz hbz hzz
                  go_wp2
                  (try rw [hwz])
                  obtain ⟨hw, hr9, hb9⟩ := two_end (w := w) (s := s) (v := v) (need := need) (ph := 5) (c := cx) HRz.out (fun jj hj2 => by have h1 := HFR.out jj hj2; have h2 := HBX.out.2; have h3 := HNE.out.2; omega) HZz.out HBz.out (by have := HE.out.2.2.2.2; omega)
                  have hpp := HP0.out
                  rw [hph.out] at hpp
                  rw [hpp]
                  refine bodyPost_ret (v := .tuple #[.agg #[.int .i64 s, .int .i64 v, .int .i64 need, .int .i64 5, .slice X n cx], .int .i64 0]) ?_ rfl ⟨X, cx, ?_, ?_, (fun jj hj2 => .inl (by have h1 := HFR.out jj hj2; have h2 := HB_w4.out.size; omega)), hb9⟩
                  · rw [results_cell_tmp rfl]
                    simp [asAddr, Result.andThen, loadv26 hw]
                  · simp only [HLn.out]
                  · simp only [HLn.out]; exact hr9
                · have hph : Hid (phaseR 1 need Ls = 1) := by
                    show _ = _
                    unfold phaseR
                    rw [E_1.out, E_2.out, E_3.out, E_4.out, HLn.out]
                    (repeat' split) <;> omega
                  have t1' := decide_eq_false h1
                  have t3' := decide_eq_false h3
                  have hwr : IntKind.i64.wrap ((n : Int) - need) = (n : Int) - need := IntWalk.i64_in _ (by have := HND.out; omega)
                  clear h1 h3
                  go_wp2
                  obtain ⟨y57, h_y57⟩ : ∃ z, wr.drew = z := ⟨_, rfl⟩
                  have hbd : Below wr.heap.size wr y57 := h_y57 ▸ (Below.refl _ _).drew
                  have HX_y57 := Lib.hid ((hbd.block _ (lt_of_block HX_wr.out)).trans HX_wr.out)
                  have HXx_y57 := Lib.hid ((hbd.block _ (lt_of_block HXx_wr.out)).trans HXx_wr.out)
                  have HZ_y57 := Lib.hid ((hbd.block _ (lt_of_block HZ_wr.out)).trans HZ_wr.out)
                  have HRl_y57 := Lib.hid (HRl_wr.out.below hbd (Nat.le_refl _))
                  have HB_y57 : Hid (Below w.heap.size w y57) := HB_wr.out.trans (hbd.mono HB_wr.out.size)
                  have HS_y57 : Hid (Below y57.heap.size y57 y57) := Below.refl _ _
                  clear hbd
                  obtain ⟨⟨m0, m1, m2, m3, m4⟩, hbl⟩ := five26 HX_y57.out
                  obtain ⟨⟨n0, n1, n2, n3, n4⟩, hbn⟩ := five26 HXx_y57.out
                  refine wp_region_held_drew (S := fun z => Below y57.heap.size y57 z) (by kernel_rfl) (by show Below _ _ _; rw [h_y57]; exact Below.refl _ _) (fun hHeld => ?_)
                  rw [h_y57]
                  clear h_y57
                  refine wpAnyH_take (i := 0) (oi := ⟨some 68, _, _, _, _, _⟩) (v := ?_) rfl (by kernel_rfl) (by kernel_rfl) (by kernel_rfl) (fun _ _ _ h => h) (Or.inl ⟨by rfl, ?_⟩) (by assumption) ?_
                  rotate_left
                  · intro w hSw
                    (try dsimp only at hSw)
                    go_simp
                    all_goals (with_reducible rfl)
                  try simp only [Act.put, List.setIfInBounds_toArray, List.set_cons_zero, List.set_cons_succ]
                  refine wpAnyH_take (i := 1) (oi := ⟨some 69, _, _, _, _, _⟩) (v := ?_) rfl (by kernel_rfl) (by kernel_rfl) (by kernel_rfl) (fun _ _ _ h => h) (Or.inl ⟨by rfl, ?_⟩) (by assumption) ?_
                  rotate_left
                  · intro w hSw
                    have kk3 := (hSw.cell (p := ⟨b, 3, none⟩) hbl).trans m3
                    clear hSw
                    go_simp
                    all_goals (with_reducible rfl)
                  try simp only [Act.put, List.setIfInBounds_toArray, List.set_cons_zero, List.set_cons_succ]
                  refine wpAnyH_take (i := 2) (oi := ⟨some 70, _, _, _, _, _⟩) (v := ?_) rfl (by kernel_rfl) (by kernel_rfl) (by kernel_rfl) (fun _ _ _ h => h) (Or.inl ⟨by rfl, ?_⟩) (by assumption) ?_
                  rotate_left
                  · intro w hSw
                    (try dsimp only at hSw)
                    go_simp
                    all_goals (with_reducible rfl)
                  try simp only [Act.put, List.setIfInBounds_toArray, List.set_cons_zero, List.set_cons_succ]
                  refine wpAnyH_take (i := 3) (oi := ⟨some 71, _, _, _, _, _⟩) (v := ?_) rfl (by kernel_rfl) (by kernel_rfl) (by kernel_rfl) (fun _ _ _ h => h) (Or.inl ⟨by rfl, ?_⟩) (by assumption) ?_
                  rotate_left
                  · intro w hSw
                    (try dsimp only at hSw)
                    go_simp
                    all_goals (with_reducible rfl)
                  try simp only [Act.put, List.setIfInBounds_toArray, List.set_cons_zero, List.set_cons_succ]
                  refine wpAnyH_take (i := 4) (oi := ⟨some 72, _, _, _, _, _⟩) (v := ?_) rfl (by kernel_rfl) (by kernel_rfl) (by kernel_rfl) (fun _ _ _ h => h) (Or.inl ⟨by rfl, ?_⟩) (by assumption) ?_
                  rotate_left
                  · intro w hSw
                    have kk0 := (hSw.cell (p := ⟨bx, 0, none⟩) hbn).trans n0
                    have kk1 := (hSw.cell (p := ⟨bx, 1, none⟩) hbn).trans n1
                    have kk2 := (hSw.cell (p := ⟨bx, 2, none⟩) hbn).trans n2
                    have kk3 := (hSw.cell (p := ⟨bx, 3, none⟩) hbn).trans n3
                    have kk4 := (hSw.cell (p := ⟨bx, 4, none⟩) hbn).trans n4
                    clear hSw
                    go_simp
                    all_goals (with_reducible rfl)
                  try simp only [Act.put, List.setIfInBounds_toArray, List.set_cons_zero, List.set_cons_succ]
                  refine wpAnyH_take (i := 6) (oi := ⟨some 74, _, _, _, _, _⟩) (v := ?_) rfl (by kernel_rfl) (by kernel_rfl) (by kernel_rfl) (fun _ _ _ h => h) (Or.inl ⟨by rfl, ?_⟩) (by assumption) ?_
                  rotate_left
                  · intro w hSw
                    (try dsimp only at hSw)
                    go_simp
                    all_goals (with_reducible rfl)
                  try simp only [Act.put, List.setIfInBounds_toArray, List.set_cons_zero, List.set_cons_succ]
                  refine wpAnyH_take (i := 7) (oi := ⟨some 75, _, _, _, _, _⟩) (v := ?_) rfl (by kernel_rfl) (by kernel_rfl) (by kernel_rfl) (fun _ _ _ h => h) (Or.inl ⟨by rfl, ?_⟩) (by assumption) ?_
                  rotate_left
                  · intro w hSw
                    have kk0 := (hSw.cell (p := ⟨bx, 0, none⟩) hbn).trans n0
                    have kk1 := (hSw.cell (p := ⟨bx, 1, none⟩) hbn).trans n1
                    have kk2 := (hSw.cell (p := ⟨bx, 2, none⟩) hbn).trans n2
                    have kk3 := (hSw.cell (p := ⟨bx, 3, none⟩) hbn).trans n3
                    have kk4 := (hSw.cell (p := ⟨bx, 4, none⟩) hbn).trans n4
                    clear hSw
                    go_simp
                    all_goals (with_reducible rfl)
                  try simp only [Act.put, List.setIfInBounds_toArray, List.set_cons_zero, List.set_cons_succ]
                  refine wpAnyH_ready (rs := [5]) (by kernel_rfl) (by simp) (AllReadyH.cons (o := ⟨some 73, _, _, _, _, _⟩) rfl (fun K hK => ?_) AllReadyH.nil)
                  go_simp
                  refine (rmany_is _ s v need 1 1 HRl_y57.out hn E_1.out).mono ?_
                  rintro e' y58 ⟨rfl, hbv⟩
                  have HX_y58 := Lib.hid ((hbv.block _ (lt_of_block HX_y57.out)).trans HX_y57.out)
                  have HXx_y58 := Lib.hid ((hbv.block _ (lt_of_block HXx_y57.out)).trans HXx_y57.out)
                  have HZ_y58 := Lib.hid ((hbv.block _ (lt_of_block HZ_y57.out)).trans HZ_y57.out)
                  have HRl_y58 := Lib.hid (HRl_y57.out.below hbv (Nat.le_refl _))
                  have HB_y58 : Hid (Below w.heap.size w y58) := HB_y57.out.trans (hbv.mono HB_y57.out.size)
                  have HS_y58 : Hid (Below y57.heap.size y57 y58) := HS_y57.out.trans (hbv.mono HS_y57.out.size)
                  clear hbv
                  refine hK.out _ _ (HS_y58.out) (fun hHeld => ?_)
                  clear hK K
                  try simp only [Act.put, List.setIfInBounds_toArray, List.set_cons_zero, List.set_cons_succ]
                  refine wpAnyH_take (i := 8) (oi := ⟨some 76, _, _, _, _, _⟩) (v := ?_) rfl (by kernel_rfl) (by kernel_rfl) (by kernel_rfl) (fun _ _ _ h => h) (Or.inl ⟨by rfl, ?_⟩) (by assumption) ?_
                  rotate_left
                  · intro w hSw
                    (try dsimp only at hSw)
                    go_simp
                    all_goals (with_reducible rfl)
                  try simp only [Act.put, List.setIfInBounds_toArray, List.set_cons_zero, List.set_cons_succ]
                  refine wpAnyH_take (i := 9) (oi := ⟨some 77, _, _, _, _, _⟩) (v := ?_) rfl (by kernel_rfl) (by kernel_rfl) (by kernel_rfl) (fun _ _ _ h => h) (Or.inl ⟨by rfl, ?_⟩) (by assumption) ?_
                  rotate_left
                  · intro w hSw
                    (try dsimp only at hSw)
                    go_simp
                    all_goals (with_reducible rfl)
                  try simp only [Act.put, List.setIfInBounds_toArray, List.set_cons_zero, List.set_cons_succ]
                  refine wpAnyH_done (by kernel_rfl) ?_ _
                  clear m0 m1 m2 m3 m4 hbl n0 n1 n2 n3 n4 hbn
                  go_wp2
                  obtain ⟨y59, h_y59⟩ : ∃ z, y58.drew = z := ⟨_, rfl⟩
                  have hbd : Below y58.heap.size y58 y59 := h_y59 ▸ (Below.refl _ _).drew
                  have HX_y59 := Lib.hid ((hbd.block _ (lt_of_block HX_y58.out)).trans HX_y58.out)
                  have HXx_y59 := Lib.hid ((hbd.block _ (lt_of_block HXx_y58.out)).trans HXx_y58.out)
                  have HZ_y59 := Lib.hid ((hbd.block _ (lt_of_block HZ_y58.out)).trans HZ_y58.out)
                  have HRl_y59 := Lib.hid (HRl_y58.out.below hbd (Nat.le_refl _))
                  have HB_y59 : Hid (Below w.heap.size w y59) := HB_y58.out.trans (hbd.mono HB_y58.out.size)
                  have HS_y59 : Hid (Below y59.heap.size y59 y59) := Below.refl _ _
                  clear hbd
                  obtain ⟨⟨m0, m1, m2, m3, m4⟩, hbl⟩ := five26 HX_y59.out
                  obtain ⟨⟨n0, n1, n2, n3, n4⟩, hbn⟩ := five26 HXx_y59.out
                  refine wp_region_held_drew (S := fun z => Below y59.heap.size y59 z) (by kernel_rfl) (by show Below _ _ _; rw [h_y59]; exact Below.refl _ _) (fun hHeld => ?_)
                  rw [h_y59]
                  clear h_y59
                  refine wpAnyH_take (i := 0) (oi := ⟨some 79, _, _, _, _, _⟩) (v := ?_) rfl (by kernel_rfl) (by kernel_rfl) (by kernel_rfl) (fun _ _ _ h => h) (Or.inl ⟨by rfl, ?_⟩) (by assumption) ?_
                  rotate_left
                  · intro w hSw
                    (try dsimp only at hSw)
                    go_simp
                    all_goals (with_reducible rfl)
                  try simp only [Act.put, List.setIfInBounds_toArray, List.set_cons_zero, List.set_cons_succ]
                  refine wpAnyH_take (i := 1) (oi := ⟨some 80, _, _, _, _, _⟩) (v := ?_) rfl (by kernel_rfl) (by kernel_rfl) (by kernel_rfl) (fun _ _ _ h => h) (Or.inl ⟨by rfl, ?_⟩) (by assumption) ?_
                  rotate_left
                  · intro w hSw
                    have kk3 := (hSw.cell (p := ⟨b, 3, none⟩) hbl).trans m3
                    clear hSw
                    go_simp
                    all_goals (with_reducible rfl)
                  try simp only [Act.put, List.setIfInBounds_toArray, List.set_cons_zero, List.set_cons_succ]
                  refine wpAnyH_take (i := 2) (oi := ⟨some 81, _, _, _, _, _⟩) (v := ?_) rfl (by kernel_rfl) (by kernel_rfl) (by kernel_rfl) (fun _ _ _ h => h) (Or.inl ⟨by rfl, ?_⟩) (by assumption) ?_
                  rotate_left
                  · intro w hSw
                    (try dsimp only at hSw)
                    go_simp
                    all_goals (with_reducible rfl)
                  try simp only [Act.put, List.setIfInBounds_toArray, List.set_cons_zero, List.set_cons_succ]
                  refine wpAnyH_take (i := 3) (oi := ⟨some 82, _, _, _, _, _⟩) (v := ?_) rfl (by kernel_rfl) (by kernel_rfl) (by kernel_rfl) (fun _ _ _ h => h) (Or.inl ⟨by rfl, ?_⟩) (by assumption) ?_
                  rotate_left
                  · intro w hSw
                    (try dsimp only at hSw)
                    go_simp
                    all_goals (with_reducible rfl)
                  try simp only [Act.put, List.setIfInBounds_toArray, List.set_cons_zero, List.set_cons_succ]
                  refine wpAnyH_take (i := 4) (oi := ⟨some 83, _, _, _, _, _⟩) (v := ?_) rfl (by kernel_rfl) (by kernel_rfl) (by kernel_rfl) (fun _ _ _ h => h) (Or.inl ⟨by rfl, ?_⟩) (by assumption) ?_
                  rotate_left
                  · intro w hSw
                    have kk0 := (hSw.cell (p := ⟨bx, 0, none⟩) hbn).trans n0
                    have kk1 := (hSw.cell (p := ⟨bx, 1, none⟩) hbn).trans n1
                    have kk2 := (hSw.cell (p := ⟨bx, 2, none⟩) hbn).trans n2
                    have kk3 := (hSw.cell (p := ⟨bx, 3, none⟩) hbn).trans n3
                    have kk4 := (hSw.cell (p := ⟨bx, 4, none⟩) hbn).trans n4
                    clear hSw
                    go_simp
                    all_goals (with_reducible rfl)
                  try simp only [Act.put, List.setIfInBounds_toArray, List.set_cons_zero, List.set_cons_succ]
                  refine wpAnyH_take (i := 6) (oi := ⟨some 85, _, _, _, _, _⟩) (v := ?_) rfl (by kernel_rfl) (by kernel_rfl) (by kernel_rfl) (fun _ _ _ h => h) (Or.inl ⟨by rfl, ?_⟩) (by assumption) ?_
                  rotate_left
                  · intro w hSw
                    (try dsimp only at hSw)
                    go_simp
                    all_goals (with_reducible rfl)
                  try simp only [Act.put, List.setIfInBounds_toArray, List.set_cons_zero, List.set_cons_succ]
                  refine wpAnyH_take (i := 7) (oi := ⟨some 86, _, _, _, _, _⟩) (v := ?_) rfl (by kernel_rfl) (by kernel_rfl) (by kernel_rfl) (fun _ _ _ h => h) (Or.inl ⟨by rfl, ?_⟩) (by assumption) ?_
                  rotate_left
                  · intro w hSw
                    (try dsimp only at hSw)
                    go_simp
                    all_goals (with_reducible rfl)
                  try simp only [Act.put, List.setIfInBounds_toArray, List.set_cons_zero, List.set_cons_succ]
                  refine wpAnyH_take (i := 8) (oi := ⟨some 87, _, _, _, _, _⟩) (v := ?_) rfl (by kernel_rfl) (by kernel_rfl) (by kernel_rfl) (fun _ _ _ h => h) (Or.inl ⟨by rfl, ?_⟩) (by assumption) ?_
                  rotate_left
                  · intro w hSw
                    have kk0 := (hSw.cell (p := ⟨bx, 0, none⟩) hbn).trans n0
                    have kk1 := (hSw.cell (p := ⟨bx, 1, none⟩) hbn).trans n1
                    have kk2 := (hSw.cell (p := ⟨bx, 2, none⟩) hbn).trans n2
                    have kk3 := (hSw.cell (p := ⟨bx, 3, none⟩) hbn).trans n3
                    have kk4 := (hSw.cell (p := ⟨bx, 4, none⟩) hbn).trans n4
                    clear hSw
                    go_simp
                    all_goals (with_reducible rfl)
                  try simp only [Act.put, List.setIfInBounds_toArray, List.set_cons_zero, List.set_cons_succ]
                  refine wpAnyH_take (i := 9) (oi := ⟨some 88, _, _, _, _, _⟩) (v := ?_) rfl (by kernel_rfl) (by kernel_rfl) (by kernel_rfl) (fun _ _ _ h => h) (Or.inl ⟨by rfl, ?_⟩) (by assumption) ?_
                  rotate_left
                  · intro w hSw
                    (try dsimp only at hSw)
                    go_simp
                    all_goals (with_reducible rfl)
                  try simp only [Act.put, List.setIfInBounds_toArray, List.set_cons_zero, List.set_cons_succ]
                  refine wpAnyH_ready (rs := [5]) (by kernel_rfl) (by simp) (AllReadyH.cons (o := ⟨some 84, _, _, _, _, _⟩) rfl (fun K hK => ?_) AllReadyH.nil)
                  go_simp
                  refine (rmany_is _ s v need 1 3 HRl_y59.out hn E_3.out).mono ?_
                  rintro e' y60 ⟨rfl, hbv⟩
                  have HX_y60 := Lib.hid ((hbv.block _ (lt_of_block HX_y59.out)).trans HX_y59.out)
                  have HXx_y60 := Lib.hid ((hbv.block _ (lt_of_block HXx_y59.out)).trans HXx_y59.out)
                  have HZ_y60 := Lib.hid ((hbv.block _ (lt_of_block HZ_y59.out)).trans HZ_y59.out)
                  have HRl_y60 := Lib.hid (HRl_y59.out.below hbv (Nat.le_refl _))
                  have HB_y60 : Hid (Below w.heap.size w y60) := HB_y59.out.trans (hbv.mono HB_y59.out.size)
                  have HS_y60 : Hid (Below y59.heap.size y59 y60) := HS_y59.out.trans (hbv.mono HS_y59.out.size)
                  clear hbv
                  refine hK.out _ _ (HS_y60.out) (fun hHeld => ?_)
                  clear hK K
                  try simp only [Act.put, List.setIfInBounds_toArray, List.set_cons_zero, List.set_cons_succ]
                  refine wpAnyH_take (i := 10) (oi := ⟨some 89, _, _, _, _, _⟩) (v := ?_) rfl (by kernel_rfl) (by kernel_rfl) (by kernel_rfl) (fun _ _ _ h => h) (Or.inl ⟨by rfl, ?_⟩) (by assumption) ?_
                  rotate_left
                  · intro w hSw
                    (try dsimp only at hSw)
                    go_simp
                    all_goals (with_reducible rfl)
                  try simp only [Act.put, List.setIfInBounds_toArray, List.set_cons_zero, List.set_cons_succ]
                  refine wpAnyH_take (i := 11) (oi := ⟨some 90, _, _, _, _, _⟩) (v := ?_) rfl (by kernel_rfl) (by kernel_rfl) (by kernel_rfl) (fun _ _ _ h => h) (Or.inl ⟨by rfl, ?_⟩) (by assumption) ?_
                  rotate_left
                  · intro w hSw
                    (try dsimp only at hSw)
                    go_simp
                    all_goals (with_reducible rfl)
                  try simp only [Act.put, List.setIfInBounds_toArray, List.set_cons_zero, List.set_cons_succ]
                  refine wpAnyH_done (by kernel_rfl) ?_ _
                  clear m0 m1 m2 m3 m4 hbl n0 n1 n2 n3 n4 hbn
                  obtain ⟨⟨f0, f1, f2, f3, f4⟩, fbl⟩ := five26 HX_y60.out
                  obtain ⟨⟨x0, x1, x2, x3, x4⟩, xbl⟩ := five26 HXx_y60.out
                  obtain ⟨t0, t1, t2, t3, t4⟩ := thaw5 HXx_y60.out
                  have hxz := HXx_y60.out
                  have hbz : But [bx] y60 y60 := But.refl _ _
                  have hzz := hbz.cells HZ_y60.out (by have := HNE.out.2; simp; omega)
                  have HRz := Lib.hid (HRl_y60.out.but hbz (fun jj hj2 hm => by have h1 := HFR.out jj hj2; have h2 := HBX.out.2; simp at hm; omega))
                  have HBz : Hid (Below w.heap.size w y60) := HB_y60.out.trans (hbz.below (B := w.heap.size) HB_y60.out.size (by intro g hg; simp at hg; have := HNE.out.1; omega))
                  have HZz := Lib.hid hzz
                  obtain ⟨⟨z0, z1, z2, z3, z4⟩, zbl⟩ := five26 hxz
                  obtain ⟨⟨q0, q1, q2, q3, q4⟩, qbl⟩ := five26 hzz
                  obtain ⟨o0, o1, o2, o3, o4⟩ := thaw5 hzz
                  have hnex : bx ≠ b2 := by have := HNE.out.2; omega
                  have hnex' := hnex.symm
                  clear hxz hbz hzz
                  go_wp2
                  obtain ⟨hw, hr9, hb9⟩ := two_end (w := w) (s := s) (v := v) (need := need) (ph := 1) (c := cx) HRz.out (fun jj hj2 => by have h1 := HFR.out jj hj2; have h2 := HBX.out.2; have h3 := HNE.out.2; omega) HZz.out HBz.out (by have := HE.out.2.2.2.2; omega)
                  have hpp := HP0.out
                  rw [hph.out] at hpp
                  rw [hpp]
                  refine bodyPost_ret (v := .tuple #[.agg #[.int .i64 s, .int .i64 v, .int .i64 need, .int .i64 1, .slice X n cx], .int .i64 0]) ?_ rfl ⟨X, cx, ?_, ?_, (fun jj hj2 => .inl (by have h1 := HFR.out jj hj2; have h2 := HB_w4.out.size; omega)), hb9⟩
                  · rw [results_cell_tmp rfl]
                    simp [asAddr, Result.andThen, loadv26 hw]
                  · simp only [HLn.out]
                  · simp only [HLn.out]; exact hr9
            · subst hp6
              have hst : need ≤ d1 := by
                have h1 := ready_stays HRR.out rfl HYK.out.1 op e
                simp only at h1
                rw [HX.out, HLs.out, E_1.out] at h1
                exact h1
              have hph : Hid (phaseR 2 need Ls = 2) := by
                show _ = _
                unfold phaseR
                rw [E_1.out, E_2.out, E_3.out, E_4.out, HLn.out]
                (repeat' split) <;> omega
              clear hst
              go_wp2
              obtain ⟨y61, h_y61⟩ : ∃ z, wr.drew = z := ⟨_, rfl⟩
              have hbd : Below wr.heap.size wr y61 := h_y61 ▸ (Below.refl _ _).drew
              have HX_y61 := Lib.hid ((hbd.block _ (lt_of_block HX_wr.out)).trans HX_wr.out)
              have HXx_y61 := Lib.hid ((hbd.block _ (lt_of_block HXx_wr.out)).trans HXx_wr.out)
              have HZ_y61 := Lib.hid ((hbd.block _ (lt_of_block HZ_wr.out)).trans HZ_wr.out)
              have HRl_y61 := Lib.hid (HRl_wr.out.below hbd (Nat.le_refl _))
              have HB_y61 : Hid (Below w.heap.size w y61) := HB_wr.out.trans (hbd.mono HB_wr.out.size)
              have HS_y61 : Hid (Below y61.heap.size y61 y61) := Below.refl _ _
              clear hbd
              obtain ⟨⟨m0, m1, m2, m3, m4⟩, hbl⟩ := five26 HX_y61.out
              obtain ⟨⟨n0, n1, n2, n3, n4⟩, hbn⟩ := five26 HXx_y61.out
              refine wp_region_held_drew (S := fun z => Below y61.heap.size y61 z) (by kernel_rfl) (by show Below _ _ _; rw [h_y61]; exact Below.refl _ _) (fun hHeld => ?_)
              rw [h_y61]
              clear h_y61
              refine wpAnyH_take (i := 0) (oi := ⟨some 68, _, _, _, _, _⟩) (v := ?_) rfl (by kernel_rfl) (by kernel_rfl) (by kernel_rfl) (fun _ _ _ h => h) (Or.inl ⟨by rfl, ?_⟩) (by assumption) ?_
              rotate_left
              · intro w hSw
                (try dsimp only at hSw)
                go_simp
                all_goals (with_reducible rfl)
              try simp only [Act.put, List.setIfInBounds_toArray, List.set_cons_zero, List.set_cons_succ]
              refine wpAnyH_take (i := 1) (oi := ⟨some 69, _, _, _, _, _⟩) (v := ?_) rfl (by kernel_rfl) (by kernel_rfl) (by kernel_rfl) (fun _ _ _ h => h) (Or.inl ⟨by rfl, ?_⟩) (by assumption) ?_
              rotate_left
              · intro w hSw
                have kk3 := (hSw.cell (p := ⟨b, 3, none⟩) hbl).trans m3
                clear hSw
                go_simp
                all_goals (with_reducible rfl)
              try simp only [Act.put, List.setIfInBounds_toArray, List.set_cons_zero, List.set_cons_succ]
              refine wpAnyH_take (i := 2) (oi := ⟨some 70, _, _, _, _, _⟩) (v := ?_) rfl (by kernel_rfl) (by kernel_rfl) (by kernel_rfl) (fun _ _ _ h => h) (Or.inl ⟨by rfl, ?_⟩) (by assumption) ?_
              rotate_left
              · intro w hSw
                (try dsimp only at hSw)
                go_simp
                all_goals (with_reducible rfl)
              try simp only [Act.put, List.setIfInBounds_toArray, List.set_cons_zero, List.set_cons_succ]
              refine wpAnyH_take (i := 3) (oi := ⟨some 71, _, _, _, _, _⟩) (v := ?_) rfl (by kernel_rfl) (by kernel_rfl) (by kernel_rfl) (fun _ _ _ h => h) (Or.inl ⟨by rfl, ?_⟩) (by assumption) ?_
              rotate_left
              · intro w hSw
                (try dsimp only at hSw)
                go_simp
                all_goals (with_reducible rfl)
              try simp only [Act.put, List.setIfInBounds_toArray, List.set_cons_zero, List.set_cons_succ]
              refine wpAnyH_take (i := 4) (oi := ⟨some 72, _, _, _, _, _⟩) (v := undef) rfl (by kernel_rfl) (by kernel_rfl) (by kernel_rfl) (fun _ _ _ h => h) (Or.inr ⟨by rfl, rfl⟩) (by assumption) ?_
              try simp only [Act.put, List.setIfInBounds_toArray, List.set_cons_zero, List.set_cons_succ]
              refine wpAnyH_take (i := 5) (oi := ⟨some 73, _, _, _, _, _⟩) (v := undef) rfl (by kernel_rfl) (by kernel_rfl) (by kernel_rfl) (fun _ _ _ h => h) (Or.inr ⟨by rfl, rfl⟩) (by assumption) ?_
              try simp only [Act.put, List.setIfInBounds_toArray, List.set_cons_zero, List.set_cons_succ]
              refine wpAnyH_take (i := 6) (oi := ⟨some 74, _, _, _, _, _⟩) (v := undef) rfl (by kernel_rfl) (by kernel_rfl) (by kernel_rfl) (fun _ _ _ h => h) (Or.inr ⟨by rfl, rfl⟩) (by assumption) ?_
              try simp only [Act.put, List.setIfInBounds_toArray, List.set_cons_zero, List.set_cons_succ]
              refine wpAnyH_take (i := 7) (oi := ⟨some 75, _, _, _, _, _⟩) (v := undef) rfl (by kernel_rfl) (by kernel_rfl) (by kernel_rfl) (fun _ _ _ h => h) (Or.inr ⟨by rfl, rfl⟩) (by assumption) ?_
              try simp only [Act.put, List.setIfInBounds_toArray, List.set_cons_zero, List.set_cons_succ]
              refine wpAnyH_take (i := 8) (oi := ⟨some 76, _, _, _, _, _⟩) (v := undef) rfl (by kernel_rfl) (by kernel_rfl) (by kernel_rfl) (fun _ _ _ h => h) (Or.inr ⟨by rfl, rfl⟩) (by assumption) ?_
              try simp only [Act.put, List.setIfInBounds_toArray, List.set_cons_zero, List.set_cons_succ]
              refine wpAnyH_take (i := 9) (oi := ⟨some 77, _, _, _, _, _⟩) (v := ?_) rfl (by kernel_rfl) (by kernel_rfl) (by kernel_rfl) (fun _ _ _ h => h) (Or.inl ⟨by rfl, ?_⟩) (by assumption) ?_
              rotate_left
              · intro w hSw
                (try dsimp only at hSw)
                go_simp
                all_goals (with_reducible rfl)
              try simp only [Act.put, List.setIfInBounds_toArray, List.set_cons_zero, List.set_cons_succ]
              refine wpAnyH_done (by kernel_rfl) ?_ _
              clear m0 m1 m2 m3 m4 hbl n0 n1 n2 n3 n4 hbn
              go_wp2
              obtain ⟨y62, h_y62⟩ : ∃ z, y61.drew = z := ⟨_, rfl⟩
              have hbd : Below y61.heap.size y61 y62 := h_y62 ▸ (Below.refl _ _).drew
              have HX_y62 := Lib.hid ((hbd.block _ (lt_of_block HX_y61.out)).trans HX_y61.out)
              have HXx_y62 := Lib.hid ((hbd.block _ (lt_of_block HXx_y61.out)).trans HXx_y61.out)
              have HZ_y62 := Lib.hid ((hbd.block _ (lt_of_block HZ_y61.out)).trans HZ_y61.out)
              have HRl_y62 := Lib.hid (HRl_y61.out.below hbd (Nat.le_refl _))
              have HB_y62 : Hid (Below w.heap.size w y62) := HB_y61.out.trans (hbd.mono HB_y61.out.size)
              have HS_y62 : Hid (Below y62.heap.size y62 y62) := Below.refl _ _
              clear hbd
              obtain ⟨⟨m0, m1, m2, m3, m4⟩, hbl⟩ := five26 HX_y62.out
              obtain ⟨⟨n0, n1, n2, n3, n4⟩, hbn⟩ := five26 HXx_y62.out
              refine wp_region_held_drew (S := fun z => Below y62.heap.size y62 z) (by kernel_rfl) (by show Below _ _ _; rw [h_y62]; exact Below.refl _ _) (fun hHeld => ?_)
              rw [h_y62]
              clear h_y62
              refine wpAnyH_take (i := 0) (oi := ⟨some 79, _, _, _, _, _⟩) (v := ?_) rfl (by kernel_rfl) (by kernel_rfl) (by kernel_rfl) (fun _ _ _ h => h) (Or.inl ⟨by rfl, ?_⟩) (by assumption) ?_
              rotate_left
              · intro w hSw
                (try dsimp only at hSw)
                go_simp
                all_goals (with_reducible rfl)
              try simp only [Act.put, List.setIfInBounds_toArray, List.set_cons_zero, List.set_cons_succ]
              refine wpAnyH_take (i := 1) (oi := ⟨some 80, _, _, _, _, _⟩) (v := ?_) rfl (by kernel_rfl) (by kernel_rfl) (by kernel_rfl) (fun _ _ _ h => h) (Or.inl ⟨by rfl, ?_⟩) (by assumption) ?_
              rotate_left
              · intro w hSw
                have kk3 := (hSw.cell (p := ⟨b, 3, none⟩) hbl).trans m3
                clear hSw
                go_simp
                all_goals (with_reducible rfl)
              try simp only [Act.put, List.setIfInBounds_toArray, List.set_cons_zero, List.set_cons_succ]
              refine wpAnyH_take (i := 2) (oi := ⟨some 81, _, _, _, _, _⟩) (v := ?_) rfl (by kernel_rfl) (by kernel_rfl) (by kernel_rfl) (fun _ _ _ h => h) (Or.inl ⟨by rfl, ?_⟩) (by assumption) ?_
              rotate_left
              · intro w hSw
                (try dsimp only at hSw)
                go_simp
                all_goals (with_reducible rfl)
              try simp only [Act.put, List.setIfInBounds_toArray, List.set_cons_zero, List.set_cons_succ]
              refine wpAnyH_take (i := 3) (oi := ⟨some 82, _, _, _, _, _⟩) (v := ?_) rfl (by kernel_rfl) (by kernel_rfl) (by kernel_rfl) (fun _ _ _ h => h) (Or.inl ⟨by rfl, ?_⟩) (by assumption) ?_
              rotate_left
              · intro w hSw
                (try dsimp only at hSw)
                go_simp
                all_goals (with_reducible rfl)
              try simp only [Act.put, List.setIfInBounds_toArray, List.set_cons_zero, List.set_cons_succ]
              refine wpAnyH_take (i := 4) (oi := ⟨some 83, _, _, _, _, _⟩) (v := undef) rfl (by kernel_rfl) (by kernel_rfl) (by kernel_rfl) (fun _ _ _ h => h) (Or.inr ⟨by rfl, rfl⟩) (by assumption) ?_
              try simp only [Act.put, List.setIfInBounds_toArray, List.set_cons_zero, List.set_cons_succ]
              refine wpAnyH_take (i := 5) (oi := ⟨some 84, _, _, _, _, _⟩) (v := undef) rfl (by kernel_rfl) (by kernel_rfl) (by kernel_rfl) (fun _ _ _ h => h) (Or.inr ⟨by rfl, rfl⟩) (by assumption) ?_
              try simp only [Act.put, List.setIfInBounds_toArray, List.set_cons_zero, List.set_cons_succ]
              refine wpAnyH_take (i := 6) (oi := ⟨some 85, _, _, _, _, _⟩) (v := undef) rfl (by kernel_rfl) (by kernel_rfl) (by kernel_rfl) (fun _ _ _ h => h) (Or.inr ⟨by rfl, rfl⟩) (by assumption) ?_
              try simp only [Act.put, List.setIfInBounds_toArray, List.set_cons_zero, List.set_cons_succ]
              refine wpAnyH_take (i := 7) (oi := ⟨some 86, _, _, _, _, _⟩) (v := undef) rfl (by kernel_rfl) (by kernel_rfl) (by kernel_rfl) (fun _ _ _ h => h) (Or.inr ⟨by rfl, rfl⟩) (by assumption) ?_
              try simp only [Act.put, List.setIfInBounds_toArray, List.set_cons_zero, List.set_cons_succ]
              refine wpAnyH_take (i := 8) (oi := ⟨some 87, _, _, _, _, _⟩) (v := undef) rfl (by kernel_rfl) (by kernel_rfl) (by kernel_rfl) (fun _ _ _ h => h) (Or.inr ⟨by rfl, rfl⟩) (by assumption) ?_
              try simp only [Act.put, List.setIfInBounds_toArray, List.set_cons_zero, List.set_cons_succ]
              refine wpAnyH_take (i := 9) (oi := ⟨some 88, _, _, _, _, _⟩) (v := undef) rfl (by kernel_rfl) (by kernel_rfl) (by kernel_rfl) (fun _ _ _ h => h) (Or.inr ⟨by rfl, rfl⟩) (by assumption) ?_
              try simp only [Act.put, List.setIfInBounds_toArray, List.set_cons_zero, List.set_cons_succ]
              refine wpAnyH_take (i := 10) (oi := ⟨some 89, _, _, _, _, _⟩) (v := undef) rfl (by kernel_rfl) (by kernel_rfl) (by kernel_rfl) (fun _ _ _ h => h) (Or.inr ⟨by rfl, rfl⟩) (by assumption) ?_
              try simp only [Act.put, List.setIfInBounds_toArray, List.set_cons_zero, List.set_cons_succ]
              refine wpAnyH_take (i := 11) (oi := ⟨some 90, _, _, _, _, _⟩) (v := ?_) rfl (by kernel_rfl) (by kernel_rfl) (by kernel_rfl) (fun _ _ _ h => h) (Or.inl ⟨by rfl, ?_⟩) (by assumption) ?_
              rotate_left
              · intro w hSw
                (try dsimp only at hSw)
                go_simp
                all_goals (with_reducible rfl)
              try simp only [Act.put, List.setIfInBounds_toArray, List.set_cons_zero, List.set_cons_succ]
              refine wpAnyH_done (by kernel_rfl) ?_ _
              clear m0 m1 m2 m3 m4 hbl n0 n1 n2 n3 n4 hbn
              obtain ⟨⟨f0, f1, f2, f3, f4⟩, fbl⟩ := five26 HX_y62.out
              obtain ⟨⟨x0, x1, x2, x3, x4⟩, xbl⟩ := five26 HXx_y62.out
              obtain ⟨t0, t1, t2, t3, t4⟩ := thaw5 HXx_y62.out
              have hxz := HXx_y62.out
              have hbz : But [bx] y62 y62 := But.refl _ _
              have hzz := hbz.cells HZ_y62.out (by have := HNE.out.2; simp; omega)
              have HRz := Lib.hid (HRl_y62.out.but hbz (fun jj hj2 hm => by have h1 := HFR.out jj hj2; have h2 := HBX.out.2; simp at hm; omega))
              have HBz : Hid (Below w.heap.size w y62) := HB_y62.out.trans (hbz.below (B := w.heap.size) HB_y62.out.size (by intro g hg; simp at hg; have := HNE.out.1; omega))
              have HZz := Lib.hid hzz
              obtain ⟨⟨z0, z1, z2, z3, z4⟩, zbl⟩ := five26 hxz
              obtain ⟨⟨q0, q1, q2, q3, q4⟩, qbl⟩ := five26 hzz
              obtain ⟨o0, o1, o2, o3, o4⟩ := thaw5 hzz
              have hnex : bx ≠ b2 := by have := HNE.out.2; omega
              have hnex' := hnex.symm
              clear hxz hbz hzz
              go_wp2
              obtain ⟨hw, hr9, hb9⟩ := two_end (w := w) (s := s) (v := v) (need := need) (ph := 2) (c := cx) HRz.out (fun jj hj2 => by have h1 := HFR.out jj hj2; have h2 := HBX.out.2; have h3 := HNE.out.2; omega) HZz.out HBz.out (by have := HE.out.2.2.2.2; omega)
              have hpp := HP0.out
              rw [hph.out] at hpp
              rw [hpp]
              refine bodyPost_ret (v := .tuple #[.agg #[.int .i64 s, .int .i64 v, .int .i64 need, .int .i64 2, .slice X n cx], .int .i64 0]) ?_ rfl ⟨X, cx, ?_, ?_, (fun jj hj2 => .inl (by have h1 := HFR.out jj hj2; have h2 := HB_w4.out.size; omega)), hb9⟩
              · rw [results_cell_tmp rfl]
                simp [asAddr, Result.andThen, loadv26 hw]
              · simp only [HLn.out]
              · simp only [HLn.out]; exact hr9
            · subst hp6
              by_cases h1 : d2 = (n : Int)
              · have hph : Hid (phaseR 3 need Ls = 4) := by
                  show _ = _
                  unfold phaseR
                  rw [E_1.out, E_2.out, E_3.out, E_4.out, HLn.out]
                  (repeat' split) <;> omega
                have t1' : (d2 == (n : Int)) = true := by simpa using h1
                have HK1 := Lib.hid h1
                clear h1
                go_wp2
                obtain ⟨y63, h_y63⟩ : ∃ z, wr.drew = z := ⟨_, rfl⟩
                have hbd : Below wr.heap.size wr y63 := h_y63 ▸ (Below.refl _ _).drew
                have HX_y63 := Lib.hid ((hbd.block _ (lt_of_block HX_wr.out)).trans HX_wr.out)
                have HXx_y63 := Lib.hid ((hbd.block _ (lt_of_block HXx_wr.out)).trans HXx_wr.out)
                have HZ_y63 := Lib.hid ((hbd.block _ (lt_of_block HZ_wr.out)).trans HZ_wr.out)
                have HRl_y63 := Lib.hid (HRl_wr.out.below hbd (Nat.le_refl _))
                have HB_y63 : Hid (Below w.heap.size w y63) := HB_wr.out.trans (hbd.mono HB_wr.out.size)
                have HS_y63 : Hid (Below y63.heap.size y63 y63) := Below.refl _ _
                clear hbd
                obtain ⟨⟨m0, m1, m2, m3, m4⟩, hbl⟩ := five26 HX_y63.out
                obtain ⟨⟨n0, n1, n2, n3, n4⟩, hbn⟩ := five26 HXx_y63.out
                refine wp_region_held_drew (S := fun z => Below y63.heap.size y63 z) (by kernel_rfl) (by show Below _ _ _; rw [h_y63]; exact Below.refl _ _) (fun hHeld => ?_)
                rw [h_y63]
                clear h_y63
                refine wpAnyH_take (i := 0) (oi := ⟨some 68, _, _, _, _, _⟩) (v := ?_) rfl (by kernel_rfl) (by kernel_rfl) (by kernel_rfl) (fun _ _ _ h => h) (Or.inl ⟨by rfl, ?_⟩) (by assumption) ?_
                rotate_left
                · intro w hSw
                  (try dsimp only at hSw)
                  go_simp
                  all_goals (with_reducible rfl)
                try simp only [Act.put, List.setIfInBounds_toArray, List.set_cons_zero, List.set_cons_succ]
                refine wpAnyH_take (i := 1) (oi := ⟨some 69, _, _, _, _, _⟩) (v := ?_) rfl (by kernel_rfl) (by kernel_rfl) (by kernel_rfl) (fun _ _ _ h => h) (Or.inl ⟨by rfl, ?_⟩) (by assumption) ?_
                rotate_left
                · intro w hSw
                  have kk3 := (hSw.cell (p := ⟨b, 3, none⟩) hbl).trans m3
                  clear hSw
                  go_simp
                  all_goals (with_reducible rfl)
                try simp only [Act.put, List.setIfInBounds_toArray, List.set_cons_zero, List.set_cons_succ]
                refine wpAnyH_take (i := 2) (oi := ⟨some 70, _, _, _, _, _⟩) (v := ?_) rfl (by kernel_rfl) (by kernel_rfl) (by kernel_rfl) (fun _ _ _ h => h) (Or.inl ⟨by rfl, ?_⟩) (by assumption) ?_
                rotate_left
                · intro w hSw
                  (try dsimp only at hSw)
                  go_simp
                  all_goals (with_reducible rfl)
                try simp only [Act.put, List.setIfInBounds_toArray, List.set_cons_zero, List.set_cons_succ]
                refine wpAnyH_take (i := 3) (oi := ⟨some 71, _, _, _, _, _⟩) (v := ?_) rfl (by kernel_rfl) (by kernel_rfl) (by kernel_rfl) (fun _ _ _ h => h) (Or.inl ⟨by rfl, ?_⟩) (by assumption) ?_
                rotate_left
                · intro w hSw
                  (try dsimp only at hSw)
                  go_simp
                  all_goals (with_reducible rfl)
                try simp only [Act.put, List.setIfInBounds_toArray, List.set_cons_zero, List.set_cons_succ]
                refine wpAnyH_take (i := 4) (oi := ⟨some 72, _, _, _, _, _⟩) (v := undef) rfl (by kernel_rfl) (by kernel_rfl) (by kernel_rfl) (fun _ _ _ h => h) (Or.inr ⟨by rfl, rfl⟩) (by assumption) ?_
                try simp only [Act.put, List.setIfInBounds_toArray, List.set_cons_zero, List.set_cons_succ]
                refine wpAnyH_take (i := 5) (oi := ⟨some 73, _, _, _, _, _⟩) (v := undef) rfl (by kernel_rfl) (by kernel_rfl) (by kernel_rfl) (fun _ _ _ h => h) (Or.inr ⟨by rfl, rfl⟩) (by assumption) ?_
                try simp only [Act.put, List.setIfInBounds_toArray, List.set_cons_zero, List.set_cons_succ]
                refine wpAnyH_take (i := 6) (oi := ⟨some 74, _, _, _, _, _⟩) (v := undef) rfl (by kernel_rfl) (by kernel_rfl) (by kernel_rfl) (fun _ _ _ h => h) (Or.inr ⟨by rfl, rfl⟩) (by assumption) ?_
                try simp only [Act.put, List.setIfInBounds_toArray, List.set_cons_zero, List.set_cons_succ]
                refine wpAnyH_take (i := 7) (oi := ⟨some 75, _, _, _, _, _⟩) (v := undef) rfl (by kernel_rfl) (by kernel_rfl) (by kernel_rfl) (fun _ _ _ h => h) (Or.inr ⟨by rfl, rfl⟩) (by assumption) ?_
                try simp only [Act.put, List.setIfInBounds_toArray, List.set_cons_zero, List.set_cons_succ]
                refine wpAnyH_take (i := 8) (oi := ⟨some 76, _, _, _, _, _⟩) (v := undef) rfl (by kernel_rfl) (by kernel_rfl) (by kernel_rfl) (fun _ _ _ h => h) (Or.inr ⟨by rfl, rfl⟩) (by assumption) ?_
                try simp only [Act.put, List.setIfInBounds_toArray, List.set_cons_zero, List.set_cons_succ]
                refine wpAnyH_take (i := 9) (oi := ⟨some 77, _, _, _, _, _⟩) (v := ?_) rfl (by kernel_rfl) (by kernel_rfl) (by kernel_rfl) (fun _ _ _ h => h) (Or.inl ⟨by rfl, ?_⟩) (by assumption) ?_
                rotate_left
                · intro w hSw
                  (try dsimp only at hSw)
                  go_simp
                  all_goals (with_reducible rfl)
                try simp only [Act.put, List.setIfInBounds_toArray, List.set_cons_zero, List.set_cons_succ]
                refine wpAnyH_done (by kernel_rfl) ?_ _
                clear m0 m1 m2 m3 m4 hbl n0 n1 n2 n3 n4 hbn
                go_wp2
                obtain ⟨y64, h_y64⟩ : ∃ z, y63.drew = z := ⟨_, rfl⟩
                have hbd : Below y63.heap.size y63 y64 := h_y64 ▸ (Below.refl _ _).drew
                have HX_y64 := Lib.hid ((hbd.block _ (lt_of_block HX_y63.out)).trans HX_y63.out)
                have HXx_y64 := Lib.hid ((hbd.block _ (lt_of_block HXx_y63.out)).trans HXx_y63.out)
                have HZ_y64 := Lib.hid ((hbd.block _ (lt_of_block HZ_y63.out)).trans HZ_y63.out)
                have HRl_y64 := Lib.hid (HRl_y63.out.below hbd (Nat.le_refl _))
                have HB_y64 : Hid (Below w.heap.size w y64) := HB_y63.out.trans (hbd.mono HB_y63.out.size)
                have HS_y64 : Hid (Below y64.heap.size y64 y64) := Below.refl _ _
                clear hbd
                obtain ⟨⟨m0, m1, m2, m3, m4⟩, hbl⟩ := five26 HX_y64.out
                obtain ⟨⟨n0, n1, n2, n3, n4⟩, hbn⟩ := five26 HXx_y64.out
                refine wp_region_held_drew (S := fun z => Below y64.heap.size y64 z) (by kernel_rfl) (by show Below _ _ _; rw [h_y64]; exact Below.refl _ _) (fun hHeld => ?_)
                rw [h_y64]
                clear h_y64
                refine wpAnyH_take (i := 0) (oi := ⟨some 79, _, _, _, _, _⟩) (v := ?_) rfl (by kernel_rfl) (by kernel_rfl) (by kernel_rfl) (fun _ _ _ h => h) (Or.inl ⟨by rfl, ?_⟩) (by assumption) ?_
                rotate_left
                · intro w hSw
                  (try dsimp only at hSw)
                  go_simp
                  all_goals (with_reducible rfl)
                try simp only [Act.put, List.setIfInBounds_toArray, List.set_cons_zero, List.set_cons_succ]
                refine wpAnyH_take (i := 1) (oi := ⟨some 80, _, _, _, _, _⟩) (v := ?_) rfl (by kernel_rfl) (by kernel_rfl) (by kernel_rfl) (fun _ _ _ h => h) (Or.inl ⟨by rfl, ?_⟩) (by assumption) ?_
                rotate_left
                · intro w hSw
                  have kk3 := (hSw.cell (p := ⟨b, 3, none⟩) hbl).trans m3
                  clear hSw
                  go_simp
                  all_goals (with_reducible rfl)
                try simp only [Act.put, List.setIfInBounds_toArray, List.set_cons_zero, List.set_cons_succ]
                refine wpAnyH_take (i := 2) (oi := ⟨some 81, _, _, _, _, _⟩) (v := ?_) rfl (by kernel_rfl) (by kernel_rfl) (by kernel_rfl) (fun _ _ _ h => h) (Or.inl ⟨by rfl, ?_⟩) (by assumption) ?_
                rotate_left
                · intro w hSw
                  (try dsimp only at hSw)
                  go_simp
                  all_goals (with_reducible rfl)
                try simp only [Act.put, List.setIfInBounds_toArray, List.set_cons_zero, List.set_cons_succ]
                refine wpAnyH_take (i := 3) (oi := ⟨some 82, _, _, _, _, _⟩) (v := ?_) rfl (by kernel_rfl) (by kernel_rfl) (by kernel_rfl) (fun _ _ _ h => h) (Or.inl ⟨by rfl, ?_⟩) (by assumption) ?_
                rotate_left
                · intro w hSw
                  (try dsimp only at hSw)
                  go_simp
                  all_goals (with_reducible rfl)
                try simp only [Act.put, List.setIfInBounds_toArray, List.set_cons_zero, List.set_cons_succ]
                refine wpAnyH_take (i := 4) (oi := ⟨some 83, _, _, _, _, _⟩) (v := undef) rfl (by kernel_rfl) (by kernel_rfl) (by kernel_rfl) (fun _ _ _ h => h) (Or.inr ⟨by rfl, rfl⟩) (by assumption) ?_
                try simp only [Act.put, List.setIfInBounds_toArray, List.set_cons_zero, List.set_cons_succ]
                refine wpAnyH_take (i := 5) (oi := ⟨some 84, _, _, _, _, _⟩) (v := undef) rfl (by kernel_rfl) (by kernel_rfl) (by kernel_rfl) (fun _ _ _ h => h) (Or.inr ⟨by rfl, rfl⟩) (by assumption) ?_
                try simp only [Act.put, List.setIfInBounds_toArray, List.set_cons_zero, List.set_cons_succ]
                refine wpAnyH_take (i := 6) (oi := ⟨some 85, _, _, _, _, _⟩) (v := undef) rfl (by kernel_rfl) (by kernel_rfl) (by kernel_rfl) (fun _ _ _ h => h) (Or.inr ⟨by rfl, rfl⟩) (by assumption) ?_
                try simp only [Act.put, List.setIfInBounds_toArray, List.set_cons_zero, List.set_cons_succ]
                refine wpAnyH_take (i := 7) (oi := ⟨some 86, _, _, _, _, _⟩) (v := undef) rfl (by kernel_rfl) (by kernel_rfl) (by kernel_rfl) (fun _ _ _ h => h) (Or.inr ⟨by rfl, rfl⟩) (by assumption) ?_
                try simp only [Act.put, List.setIfInBounds_toArray, List.set_cons_zero, List.set_cons_succ]
                refine wpAnyH_take (i := 8) (oi := ⟨some 87, _, _, _, _, _⟩) (v := undef) rfl (by kernel_rfl) (by kernel_rfl) (by kernel_rfl) (fun _ _ _ h => h) (Or.inr ⟨by rfl, rfl⟩) (by assumption) ?_
                try simp only [Act.put, List.setIfInBounds_toArray, List.set_cons_zero, List.set_cons_succ]
                refine wpAnyH_take (i := 9) (oi := ⟨some 88, _, _, _, _, _⟩) (v := undef) rfl (by kernel_rfl) (by kernel_rfl) (by kernel_rfl) (fun _ _ _ h => h) (Or.inr ⟨by rfl, rfl⟩) (by assumption) ?_
                try simp only [Act.put, List.setIfInBounds_toArray, List.set_cons_zero, List.set_cons_succ]
                refine wpAnyH_take (i := 10) (oi := ⟨some 89, _, _, _, _, _⟩) (v := undef) rfl (by kernel_rfl) (by kernel_rfl) (by kernel_rfl) (fun _ _ _ h => h) (Or.inr ⟨by rfl, rfl⟩) (by assumption) ?_
                try simp only [Act.put, List.setIfInBounds_toArray, List.set_cons_zero, List.set_cons_succ]
                refine wpAnyH_take (i := 11) (oi := ⟨some 90, _, _, _, _, _⟩) (v := ?_) rfl (by kernel_rfl) (by kernel_rfl) (by kernel_rfl) (fun _ _ _ h => h) (Or.inl ⟨by rfl, ?_⟩) (by assumption) ?_
                rotate_left
                · intro w hSw
                  (try dsimp only at hSw)
                  go_simp
                  all_goals (with_reducible rfl)
                try simp only [Act.put, List.setIfInBounds_toArray, List.set_cons_zero, List.set_cons_succ]
                refine wpAnyH_done (by kernel_rfl) ?_ _
                clear m0 m1 m2 m3 m4 hbl n0 n1 n2 n3 n4 hbn
                obtain ⟨⟨f0, f1, f2, f3, f4⟩, fbl⟩ := five26 HX_y64.out
                obtain ⟨⟨x0, x1, x2, x3, x4⟩, xbl⟩ := five26 HXx_y64.out
                go_wp2_with fail
                refine (rmany_is _ s v need 3 2 HRl_y64.out hn E_2.out).mono ?_
                rintro e' y65 ⟨rfl, hbv⟩
                have HX_y65 := Lib.hid ((hbv.block _ (lt_of_block HX_y64.out)).trans HX_y64.out)
                have HXx_y65 := Lib.hid ((hbv.block _ (lt_of_block HXx_y64.out)).trans HXx_y64.out)
                have HZ_y65 := Lib.hid ((hbv.block _ (lt_of_block HZ_y64.out)).trans HZ_y64.out)
                have HRl_y65 := Lib.hid (HRl_y64.out.below hbv (Nat.le_refl _))
                have HB_y65 : Hid (Below w.heap.size w y65) := HB_y64.out.trans (hbv.mono HB_y64.out.size)
                clear hbv
                clear f0 f1 f2 f3 f4 fbl x0 x1 x2 x3 x4 xbl
                obtain ⟨⟨f0, f1, f2, f3, f4⟩, fbl⟩ := five26 HX_y65.out
                obtain ⟨⟨x0, x1, x2, x3, x4⟩, xbl⟩ := five26 HXx_y65.out
                obtain ⟨t0, t1, t2, t3, t4⟩ := thaw5 HXx_y65.out
                obtain ⟨wz, hwz⟩ : ∃ z, y65.setCell ⟨bx, 3, none⟩ (.int .i64 4) = z := ⟨_, rfl⟩
                have hxz : wz.heap[bx]? = some (.cells #[.int .i64 s, .int .i64 v, .int .i64 need, .int .i64 4, .slice X n cx] 26 (0, 0)) := hwz ▸ row3 HXx_y65.out
                have hbz : But [bx] y65 wz := hwz ▸ (But.refl _ _).setCell (by simp) _
                have hzz := hbz.cells HZ_y65.out (by have := HNE.out.2; simp; omega)
                have HRz := Lib.hid (HRl_y65.out.but hbz (fun jj hj2 hm => by have h1 := HFR.out jj hj2; have h2 := HBX.out.2; simp at hm; omega))
                have HBz : Hid (Below w.heap.size w wz) := HB_y65.out.trans (hbz.below (B := w.heap.size) HB_y65.out.size (by intro g hg; simp at hg; have := HNE.out.1; omega))
                have HZz := Lib.hid hzz
                obtain ⟨⟨z0, z1, z2, z3, z4⟩, zbl⟩ := five26 hxz
                obtain ⟨⟨q0, q1, q2, q3, q4⟩, qbl⟩ := five26 hzz
                obtain ⟨o0, o1, o2, o3, o4⟩ := thaw5 hzz
                have hnex : bx ≠ b2 := by have := HNE.out.2; omega
                have hnex' := hnex.symm
                clear hxz hbz hzz
                go_wp2
                (try rw [hwz])
                obtain ⟨hw, hr9, hb9⟩ := two_end (w := w) (s := s) (v := v) (need := need) (ph := 4) (c := cx) HRz.out (fun jj hj2 => by have h1 := HFR.out jj hj2; have h2 := HBX.out.2; have h3 := HNE.out.2; omega) HZz.out HBz.out (by have := HE.out.2.2.2.2; omega)
                have hpp := HP0.out
                rw [hph.out] at hpp
                rw [hpp]
                refine bodyPost_ret (v := .tuple #[.agg #[.int .i64 s, .int .i64 v, .int .i64 need, .int .i64 4, .slice X n cx], .int .i64 0]) ?_ rfl ⟨X, cx, ?_, ?_, (fun jj hj2 => .inl (by have h1 := HFR.out jj hj2; have h2 := HB_w4.out.size; omega)), hb9⟩
                · rw [results_cell_tmp rfl]
                  simp [asAddr, Result.andThen, loadv26 hw]
                · simp only [HLn.out]
                · simp only [HLn.out]; exact hr9
              · have hph : Hid (phaseR 3 need Ls = 3) := by
                  show _ = _
                  unfold phaseR
                  rw [E_1.out, E_2.out, E_3.out, E_4.out, HLn.out]
                  (repeat' split) <;> omega
                have t1' : (d2 == (n : Int)) = false := by simpa using h1
                clear h1
                go_wp2
                obtain ⟨y66, h_y66⟩ : ∃ z, wr.drew = z := ⟨_, rfl⟩
                have hbd : Below wr.heap.size wr y66 := h_y66 ▸ (Below.refl _ _).drew
                have HX_y66 := Lib.hid ((hbd.block _ (lt_of_block HX_wr.out)).trans HX_wr.out)
                have HXx_y66 := Lib.hid ((hbd.block _ (lt_of_block HXx_wr.out)).trans HXx_wr.out)
                have HZ_y66 := Lib.hid ((hbd.block _ (lt_of_block HZ_wr.out)).trans HZ_wr.out)
                have HRl_y66 := Lib.hid (HRl_wr.out.below hbd (Nat.le_refl _))
                have HB_y66 : Hid (Below w.heap.size w y66) := HB_wr.out.trans (hbd.mono HB_wr.out.size)
                have HS_y66 : Hid (Below y66.heap.size y66 y66) := Below.refl _ _
                clear hbd
                obtain ⟨⟨m0, m1, m2, m3, m4⟩, hbl⟩ := five26 HX_y66.out
                obtain ⟨⟨n0, n1, n2, n3, n4⟩, hbn⟩ := five26 HXx_y66.out
                refine wp_region_held_drew (S := fun z => Below y66.heap.size y66 z) (by kernel_rfl) (by show Below _ _ _; rw [h_y66]; exact Below.refl _ _) (fun hHeld => ?_)
                rw [h_y66]
                clear h_y66
                refine wpAnyH_take (i := 0) (oi := ⟨some 68, _, _, _, _, _⟩) (v := ?_) rfl (by kernel_rfl) (by kernel_rfl) (by kernel_rfl) (fun _ _ _ h => h) (Or.inl ⟨by rfl, ?_⟩) (by assumption) ?_
                rotate_left
                · intro w hSw
                  (try dsimp only at hSw)
                  go_simp
                  all_goals (with_reducible rfl)
                try simp only [Act.put, List.setIfInBounds_toArray, List.set_cons_zero, List.set_cons_succ]
                refine wpAnyH_take (i := 1) (oi := ⟨some 69, _, _, _, _, _⟩) (v := ?_) rfl (by kernel_rfl) (by kernel_rfl) (by kernel_rfl) (fun _ _ _ h => h) (Or.inl ⟨by rfl, ?_⟩) (by assumption) ?_
                rotate_left
                · intro w hSw
                  have kk3 := (hSw.cell (p := ⟨b, 3, none⟩) hbl).trans m3
                  clear hSw
                  go_simp
                  all_goals (with_reducible rfl)
                try simp only [Act.put, List.setIfInBounds_toArray, List.set_cons_zero, List.set_cons_succ]
                refine wpAnyH_take (i := 2) (oi := ⟨some 70, _, _, _, _, _⟩) (v := ?_) rfl (by kernel_rfl) (by kernel_rfl) (by kernel_rfl) (fun _ _ _ h => h) (Or.inl ⟨by rfl, ?_⟩) (by assumption) ?_
                rotate_left
                · intro w hSw
                  (try dsimp only at hSw)
                  go_simp
                  all_goals (with_reducible rfl)
                try simp only [Act.put, List.setIfInBounds_toArray, List.set_cons_zero, List.set_cons_succ]
                refine wpAnyH_take (i := 3) (oi := ⟨some 71, _, _, _, _, _⟩) (v := ?_) rfl (by kernel_rfl) (by kernel_rfl) (by kernel_rfl) (fun _ _ _ h => h) (Or.inl ⟨by rfl, ?_⟩) (by assumption) ?_
                rotate_left
                · intro w hSw
                  (try dsimp only at hSw)
                  go_simp
                  all_goals (with_reducible rfl)
                try simp only [Act.put, List.setIfInBounds_toArray, List.set_cons_zero, List.set_cons_succ]
                refine wpAnyH_take (i := 4) (oi := ⟨some 72, _, _, _, _, _⟩) (v := undef) rfl (by kernel_rfl) (by kernel_rfl) (by kernel_rfl) (fun _ _ _ h => h) (Or.inr ⟨by rfl, rfl⟩) (by assumption) ?_
                try simp only [Act.put, List.setIfInBounds_toArray, List.set_cons_zero, List.set_cons_succ]
                refine wpAnyH_take (i := 5) (oi := ⟨some 73, _, _, _, _, _⟩) (v := undef) rfl (by kernel_rfl) (by kernel_rfl) (by kernel_rfl) (fun _ _ _ h => h) (Or.inr ⟨by rfl, rfl⟩) (by assumption) ?_
                try simp only [Act.put, List.setIfInBounds_toArray, List.set_cons_zero, List.set_cons_succ]
                refine wpAnyH_take (i := 6) (oi := ⟨some 74, _, _, _, _, _⟩) (v := undef) rfl (by kernel_rfl) (by kernel_rfl) (by kernel_rfl) (fun _ _ _ h => h) (Or.inr ⟨by rfl, rfl⟩) (by assumption) ?_
                try simp only [Act.put, List.setIfInBounds_toArray, List.set_cons_zero, List.set_cons_succ]
                refine wpAnyH_take (i := 7) (oi := ⟨some 75, _, _, _, _, _⟩) (v := undef) rfl (by kernel_rfl) (by kernel_rfl) (by kernel_rfl) (fun _ _ _ h => h) (Or.inr ⟨by rfl, rfl⟩) (by assumption) ?_
                try simp only [Act.put, List.setIfInBounds_toArray, List.set_cons_zero, List.set_cons_succ]
                refine wpAnyH_take (i := 8) (oi := ⟨some 76, _, _, _, _, _⟩) (v := undef) rfl (by kernel_rfl) (by kernel_rfl) (by kernel_rfl) (fun _ _ _ h => h) (Or.inr ⟨by rfl, rfl⟩) (by assumption) ?_
                try simp only [Act.put, List.setIfInBounds_toArray, List.set_cons_zero, List.set_cons_succ]
                refine wpAnyH_take (i := 9) (oi := ⟨some 77, _, _, _, _, _⟩) (v := ?_) rfl (by kernel_rfl) (by kernel_rfl) (by kernel_rfl) (fun _ _ _ h => h) (Or.inl ⟨by rfl, ?_⟩) (by assumption) ?_
                rotate_left
                · intro w hSw
                  (try dsimp only at hSw)
                  go_simp
                  all_goals (with_reducible rfl)
                try simp only [Act.put, List.setIfInBounds_toArray, List.set_cons_zero, List.set_cons_succ]
                refine wpAnyH_done (by kernel_rfl) ?_ _
                clear m0 m1 m2 m3 m4 hbl n0 n1 n2 n3 n4 hbn
                go_wp2
                obtain ⟨y67, h_y67⟩ : ∃ z, y66.drew = z := ⟨_, rfl⟩
                have hbd : Below y66.heap.size y66 y67 := h_y67 ▸ (Below.refl _ _).drew
                have HX_y67 := Lib.hid ((hbd.block _ (lt_of_block HX_y66.out)).trans HX_y66.out)
                have HXx_y67 := Lib.hid ((hbd.block _ (lt_of_block HXx_y66.out)).trans HXx_y66.out)
                have HZ_y67 := Lib.hid ((hbd.block _ (lt_of_block HZ_y66.out)).trans HZ_y66.out)
                have HRl_y67 := Lib.hid (HRl_y66.out.below hbd (Nat.le_refl _))
                have HB_y67 : Hid (Below w.heap.size w y67) := HB_y66.out.trans (hbd.mono HB_y66.out.size)
                have HS_y67 : Hid (Below y67.heap.size y67 y67) := Below.refl _ _
                clear hbd
                obtain ⟨⟨m0, m1, m2, m3, m4⟩, hbl⟩ := five26 HX_y67.out
                obtain ⟨⟨n0, n1, n2, n3, n4⟩, hbn⟩ := five26 HXx_y67.out
                refine wp_region_held_drew (S := fun z => Below y67.heap.size y67 z) (by kernel_rfl) (by show Below _ _ _; rw [h_y67]; exact Below.refl _ _) (fun hHeld => ?_)
                rw [h_y67]
                clear h_y67
                refine wpAnyH_take (i := 0) (oi := ⟨some 79, _, _, _, _, _⟩) (v := ?_) rfl (by kernel_rfl) (by kernel_rfl) (by kernel_rfl) (fun _ _ _ h => h) (Or.inl ⟨by rfl, ?_⟩) (by assumption) ?_
                rotate_left
                · intro w hSw
                  (try dsimp only at hSw)
                  go_simp
                  all_goals (with_reducible rfl)
                try simp only [Act.put, List.setIfInBounds_toArray, List.set_cons_zero, List.set_cons_succ]
                refine wpAnyH_take (i := 1) (oi := ⟨some 80, _, _, _, _, _⟩) (v := ?_) rfl (by kernel_rfl) (by kernel_rfl) (by kernel_rfl) (fun _ _ _ h => h) (Or.inl ⟨by rfl, ?_⟩) (by assumption) ?_
                rotate_left
                · intro w hSw
                  have kk3 := (hSw.cell (p := ⟨b, 3, none⟩) hbl).trans m3
                  clear hSw
                  go_simp
                  all_goals (with_reducible rfl)
                try simp only [Act.put, List.setIfInBounds_toArray, List.set_cons_zero, List.set_cons_succ]
                refine wpAnyH_take (i := 2) (oi := ⟨some 81, _, _, _, _, _⟩) (v := ?_) rfl (by kernel_rfl) (by kernel_rfl) (by kernel_rfl) (fun _ _ _ h => h) (Or.inl ⟨by rfl, ?_⟩) (by assumption) ?_
                rotate_left
                · intro w hSw
                  (try dsimp only at hSw)
                  go_simp
                  all_goals (with_reducible rfl)
                try simp only [Act.put, List.setIfInBounds_toArray, List.set_cons_zero, List.set_cons_succ]
                refine wpAnyH_take (i := 3) (oi := ⟨some 82, _, _, _, _, _⟩) (v := ?_) rfl (by kernel_rfl) (by kernel_rfl) (by kernel_rfl) (fun _ _ _ h => h) (Or.inl ⟨by rfl, ?_⟩) (by assumption) ?_
                rotate_left
                · intro w hSw
                  (try dsimp only at hSw)
                  go_simp
                  all_goals (with_reducible rfl)
                try simp only [Act.put, List.setIfInBounds_toArray, List.set_cons_zero, List.set_cons_succ]
                refine wpAnyH_take (i := 4) (oi := ⟨some 83, _, _, _, _, _⟩) (v := undef) rfl (by kernel_rfl) (by kernel_rfl) (by kernel_rfl) (fun _ _ _ h => h) (Or.inr ⟨by rfl, rfl⟩) (by assumption) ?_
                try simp only [Act.put, List.setIfInBounds_toArray, List.set_cons_zero, List.set_cons_succ]
                refine wpAnyH_take (i := 5) (oi := ⟨some 84, _, _, _, _, _⟩) (v := undef) rfl (by kernel_rfl) (by kernel_rfl) (by kernel_rfl) (fun _ _ _ h => h) (Or.inr ⟨by rfl, rfl⟩) (by assumption) ?_
                try simp only [Act.put, List.setIfInBounds_toArray, List.set_cons_zero, List.set_cons_succ]
                refine wpAnyH_take (i := 6) (oi := ⟨some 85, _, _, _, _, _⟩) (v := undef) rfl (by kernel_rfl) (by kernel_rfl) (by kernel_rfl) (fun _ _ _ h => h) (Or.inr ⟨by rfl, rfl⟩) (by assumption) ?_
                try simp only [Act.put, List.setIfInBounds_toArray, List.set_cons_zero, List.set_cons_succ]
                refine wpAnyH_take (i := 7) (oi := ⟨some 86, _, _, _, _, _⟩) (v := undef) rfl (by kernel_rfl) (by kernel_rfl) (by kernel_rfl) (fun _ _ _ h => h) (Or.inr ⟨by rfl, rfl⟩) (by assumption) ?_
                try simp only [Act.put, List.setIfInBounds_toArray, List.set_cons_zero, List.set_cons_succ]
                refine wpAnyH_take (i := 8) (oi := ⟨some 87, _, _, _, _, _⟩) (v := undef) rfl (by kernel_rfl) (by kernel_rfl) (by kernel_rfl) (fun _ _ _ h => h) (Or.inr ⟨by rfl, rfl⟩) (by assumption) ?_
                try simp only [Act.put, List.setIfInBounds_toArray, List.set_cons_zero, List.set_cons_succ]
                refine wpAnyH_take (i := 9) (oi := ⟨some 88, _, _, _, _, _⟩) (v := undef) rfl (by kernel_rfl) (by kernel_rfl) (by kernel_rfl) (fun _ _ _ h => h) (Or.inr ⟨by rfl, rfl⟩) (by assumption) ?_
                try simp only [Act.put, List.setIfInBounds_toArray, List.set_cons_zero, List.set_cons_succ]
                refine wpAnyH_take (i := 10) (oi := ⟨some 89, _, _, _, _, _⟩) (v := undef) rfl (by kernel_rfl) (by kernel_rfl) (by kernel_rfl) (fun _ _ _ h => h) (Or.inr ⟨by rfl, rfl⟩) (by assumption) ?_
                try simp only [Act.put, List.setIfInBounds_toArray, List.set_cons_zero, List.set_cons_succ]
                refine wpAnyH_take (i := 11) (oi := ⟨some 90, _, _, _, _, _⟩) (v := ?_) rfl (by kernel_rfl) (by kernel_rfl) (by kernel_rfl) (fun _ _ _ h => h) (Or.inl ⟨by rfl, ?_⟩) (by assumption) ?_
                rotate_left
                · intro w hSw
                  (try dsimp only at hSw)
                  go_simp
                  all_goals (with_reducible rfl)
                try simp only [Act.put, List.setIfInBounds_toArray, List.set_cons_zero, List.set_cons_succ]
                refine wpAnyH_done (by kernel_rfl) ?_ _
                clear m0 m1 m2 m3 m4 hbl n0 n1 n2 n3 n4 hbn
                obtain ⟨⟨f0, f1, f2, f3, f4⟩, fbl⟩ := five26 HX_y67.out
                obtain ⟨⟨x0, x1, x2, x3, x4⟩, xbl⟩ := five26 HXx_y67.out
                go_wp2_with fail
                refine (rmany_is _ s v need 3 2 HRl_y67.out hn E_2.out).mono ?_
                rintro e' y68 ⟨rfl, hbv⟩
                have HX_y68 := Lib.hid ((hbv.block _ (lt_of_block HX_y67.out)).trans HX_y67.out)
                have HXx_y68 := Lib.hid ((hbv.block _ (lt_of_block HXx_y67.out)).trans HXx_y67.out)
                have HZ_y68 := Lib.hid ((hbv.block _ (lt_of_block HZ_y67.out)).trans HZ_y67.out)
                have HRl_y68 := Lib.hid (HRl_y67.out.below hbv (Nat.le_refl _))
                have HB_y68 : Hid (Below w.heap.size w y68) := HB_y67.out.trans (hbv.mono HB_y67.out.size)
                clear hbv
                clear f0 f1 f2 f3 f4 fbl x0 x1 x2 x3 x4 xbl
                obtain ⟨⟨f0, f1, f2, f3, f4⟩, fbl⟩ := five26 HX_y68.out
                obtain ⟨⟨x0, x1, x2, x3, x4⟩, xbl⟩ := five26 HXx_y68.out
                obtain ⟨t0, t1, t2, t3, t4⟩ := thaw5 HXx_y68.out
                have hxz := HXx_y68.out
                have hbz : But [bx] y68 y68 := But.refl _ _
                have hzz := hbz.cells HZ_y68.out (by have := HNE.out.2; simp; omega)
                have HRz := Lib.hid (HRl_y68.out.but hbz (fun jj hj2 hm => by have h1 := HFR.out jj hj2; have h2 := HBX.out.2; simp at hm; omega))
                have HBz : Hid (Below w.heap.size w y68) := HB_y68.out.trans (hbz.below (B := w.heap.size) HB_y68.out.size (by intro g hg; simp at hg; have := HNE.out.1; omega))
                have HZz := Lib.hid hzz
                obtain ⟨⟨z0, z1, z2, z3, z4⟩, zbl⟩ := five26 hxz
                obtain ⟨⟨q0, q1, q2, q3, q4⟩, qbl⟩ := five26 hzz
                obtain ⟨o0, o1, o2, o3, o4⟩ := thaw5 hzz
                have hnex : bx ≠ b2 := by have := HNE.out.2; omega
                have hnex' := hnex.symm
                clear hxz hbz hzz
                go_wp2
                obtain ⟨hw, hr9, hb9⟩ := two_end (w := w) (s := s) (v := v) (need := need) (ph := 3) (c := cx) HRz.out (fun jj hj2 => by have h1 := HFR.out jj hj2; have h2 := HBX.out.2; have h3 := HNE.out.2; omega) HZz.out HBz.out (by have := HE.out.2.2.2.2; omega)
                have hpp := HP0.out
                rw [hph.out] at hpp
                rw [hpp]
                refine bodyPost_ret (v := .tuple #[.agg #[.int .i64 s, .int .i64 v, .int .i64 need, .int .i64 3, .slice X n cx], .int .i64 0]) ?_ rfl ⟨X, cx, ?_, ?_, (fun jj hj2 => .inl (by have h1 := HFR.out jj hj2; have h2 := HB_w4.out.size; omega)), hb9⟩
                · rw [results_cell_tmp rfl]
                  simp [asAddr, Result.andThen, loadv26 hw]
                · simp only [HLn.out]
                · simp only [HLn.out]; exact hr9
            · subst hp6
              have hph : Hid (phaseR 4 need Ls = 4) := by
                show _ = _
                unfold phaseR
                rw [E_1.out, E_2.out, E_3.out, E_4.out, HLn.out]
                (repeat' split) <;> omega
              go_wp2
              obtain ⟨y75, h_y75⟩ : ∃ z, wr.drew = z := ⟨_, rfl⟩
              have hbd : Below wr.heap.size wr y75 := h_y75 ▸ (Below.refl _ _).drew
              have HX_y75 := Lib.hid ((hbd.block _ (lt_of_block HX_wr.out)).trans HX_wr.out)
              have HXx_y75 := Lib.hid ((hbd.block _ (lt_of_block HXx_wr.out)).trans HXx_wr.out)
              have HZ_y75 := Lib.hid ((hbd.block _ (lt_of_block HZ_wr.out)).trans HZ_wr.out)
              have HRl_y75 := Lib.hid (HRl_wr.out.below hbd (Nat.le_refl _))
              have HB_y75 : Hid (Below w.heap.size w y75) := HB_wr.out.trans (hbd.mono HB_wr.out.size)
              have HS_y75 : Hid (Below y75.heap.size y75 y75) := Below.refl _ _
              clear hbd
              obtain ⟨⟨m0, m1, m2, m3, m4⟩, hbl⟩ := five26 HX_y75.out
              obtain ⟨⟨n0, n1, n2, n3, n4⟩, hbn⟩ := five26 HXx_y75.out
              refine wp_region_held_drew (S := fun z => Below y75.heap.size y75 z) (by kernel_rfl) (by show Below _ _ _; rw [h_y75]; exact Below.refl _ _) (fun hHeld => ?_)
              rw [h_y75]
              clear h_y75
              refine wpAnyH_take (i := 0) (oi := ⟨some 68, _, _, _, _, _⟩) (v := ?_) rfl (by kernel_rfl) (by kernel_rfl) (by kernel_rfl) (fun _ _ _ h => h) (Or.inl ⟨by rfl, ?_⟩) (by assumption) ?_
              rotate_left
              · intro w hSw
                (try dsimp only at hSw)
                go_simp
                all_goals (with_reducible rfl)
              try simp only [Act.put, List.setIfInBounds_toArray, List.set_cons_zero, List.set_cons_succ]
              refine wpAnyH_take (i := 1) (oi := ⟨some 69, _, _, _, _, _⟩) (v := ?_) rfl (by kernel_rfl) (by kernel_rfl) (by kernel_rfl) (fun _ _ _ h => h) (Or.inl ⟨by rfl, ?_⟩) (by assumption) ?_
              rotate_left
              · intro w hSw
                have kk3 := (hSw.cell (p := ⟨b, 3, none⟩) hbl).trans m3
                clear hSw
                go_simp
                all_goals (with_reducible rfl)
              try simp only [Act.put, List.setIfInBounds_toArray, List.set_cons_zero, List.set_cons_succ]
              refine wpAnyH_take (i := 2) (oi := ⟨some 70, _, _, _, _, _⟩) (v := ?_) rfl (by kernel_rfl) (by kernel_rfl) (by kernel_rfl) (fun _ _ _ h => h) (Or.inl ⟨by rfl, ?_⟩) (by assumption) ?_
              rotate_left
              · intro w hSw
                (try dsimp only at hSw)
                go_simp
                all_goals (with_reducible rfl)
              try simp only [Act.put, List.setIfInBounds_toArray, List.set_cons_zero, List.set_cons_succ]
              refine wpAnyH_take (i := 3) (oi := ⟨some 71, _, _, _, _, _⟩) (v := ?_) rfl (by kernel_rfl) (by kernel_rfl) (by kernel_rfl) (fun _ _ _ h => h) (Or.inl ⟨by rfl, ?_⟩) (by assumption) ?_
              rotate_left
              · intro w hSw
                (try dsimp only at hSw)
                go_simp
                all_goals (with_reducible rfl)
              try simp only [Act.put, List.setIfInBounds_toArray, List.set_cons_zero, List.set_cons_succ]
              refine wpAnyH_take (i := 4) (oi := ⟨some 72, _, _, _, _, _⟩) (v := undef) rfl (by kernel_rfl) (by kernel_rfl) (by kernel_rfl) (fun _ _ _ h => h) (Or.inr ⟨by rfl, rfl⟩) (by assumption) ?_
              try simp only [Act.put, List.setIfInBounds_toArray, List.set_cons_zero, List.set_cons_succ]
              refine wpAnyH_take (i := 5) (oi := ⟨some 73, _, _, _, _, _⟩) (v := undef) rfl (by kernel_rfl) (by kernel_rfl) (by kernel_rfl) (fun _ _ _ h => h) (Or.inr ⟨by rfl, rfl⟩) (by assumption) ?_
              try simp only [Act.put, List.setIfInBounds_toArray, List.set_cons_zero, List.set_cons_succ]
              refine wpAnyH_take (i := 6) (oi := ⟨some 74, _, _, _, _, _⟩) (v := undef) rfl (by kernel_rfl) (by kernel_rfl) (by kernel_rfl) (fun _ _ _ h => h) (Or.inr ⟨by rfl, rfl⟩) (by assumption) ?_
              try simp only [Act.put, List.setIfInBounds_toArray, List.set_cons_zero, List.set_cons_succ]
              refine wpAnyH_take (i := 7) (oi := ⟨some 75, _, _, _, _, _⟩) (v := undef) rfl (by kernel_rfl) (by kernel_rfl) (by kernel_rfl) (fun _ _ _ h => h) (Or.inr ⟨by rfl, rfl⟩) (by assumption) ?_
              try simp only [Act.put, List.setIfInBounds_toArray, List.set_cons_zero, List.set_cons_succ]
              refine wpAnyH_take (i := 8) (oi := ⟨some 76, _, _, _, _, _⟩) (v := undef) rfl (by kernel_rfl) (by kernel_rfl) (by kernel_rfl) (fun _ _ _ h => h) (Or.inr ⟨by rfl, rfl⟩) (by assumption) ?_
              try simp only [Act.put, List.setIfInBounds_toArray, List.set_cons_zero, List.set_cons_succ]
              refine wpAnyH_take (i := 9) (oi := ⟨some 77, _, _, _, _, _⟩) (v := ?_) rfl (by kernel_rfl) (by kernel_rfl) (by kernel_rfl) (fun _ _ _ h => h) (Or.inl ⟨by rfl, ?_⟩) (by assumption) ?_
              rotate_left
              · intro w hSw
                (try dsimp only at hSw)
                go_simp
                all_goals (with_reducible rfl)
              try simp only [Act.put, List.setIfInBounds_toArray, List.set_cons_zero, List.set_cons_succ]
              refine wpAnyH_done (by kernel_rfl) ?_ _
              clear m0 m1 m2 m3 m4 hbl n0 n1 n2 n3 n4 hbn
              go_wp2
              obtain ⟨y76, h_y76⟩ : ∃ z, y75.drew = z := ⟨_, rfl⟩
              have hbd : Below y75.heap.size y75 y76 := h_y76 ▸ (Below.refl _ _).drew
              have HX_y76 := Lib.hid ((hbd.block _ (lt_of_block HX_y75.out)).trans HX_y75.out)
              have HXx_y76 := Lib.hid ((hbd.block _ (lt_of_block HXx_y75.out)).trans HXx_y75.out)
              have HZ_y76 := Lib.hid ((hbd.block _ (lt_of_block HZ_y75.out)).trans HZ_y75.out)
              have HRl_y76 := Lib.hid (HRl_y75.out.below hbd (Nat.le_refl _))
              have HB_y76 : Hid (Below w.heap.size w y76) := HB_y75.out.trans (hbd.mono HB_y75.out.size)
              have HS_y76 : Hid (Below y76.heap.size y76 y76) := Below.refl _ _
              clear hbd
              obtain ⟨⟨m0, m1, m2, m3, m4⟩, hbl⟩ := five26 HX_y76.out
              obtain ⟨⟨n0, n1, n2, n3, n4⟩, hbn⟩ := five26 HXx_y76.out
              refine wp_region_held_drew (S := fun z => Below y76.heap.size y76 z) (by kernel_rfl) (by show Below _ _ _; rw [h_y76]; exact Below.refl _ _) (fun hHeld => ?_)
              rw [h_y76]
              clear h_y76
              refine wpAnyH_take (i := 0) (oi := ⟨some 79, _, _, _, _, _⟩) (v := ?_) rfl (by kernel_rfl) (by kernel_rfl) (by kernel_rfl) (fun _ _ _ h => h) (Or.inl ⟨by rfl, ?_⟩) (by assumption) ?_
              rotate_left
              · intro w hSw
                (try dsimp only at hSw)
                go_simp
                all_goals (with_reducible rfl)
              try simp only [Act.put, List.setIfInBounds_toArray, List.set_cons_zero, List.set_cons_succ]
              refine wpAnyH_take (i := 1) (oi := ⟨some 80, _, _, _, _, _⟩) (v := ?_) rfl (by kernel_rfl) (by kernel_rfl) (by kernel_rfl) (fun _ _ _ h => h) (Or.inl ⟨by rfl, ?_⟩) (by assumption) ?_
              rotate_left
              · intro w hSw
                have kk3 := (hSw.cell (p := ⟨b, 3, none⟩) hbl).trans m3
                clear hSw
                go_simp
                all_goals (with_reducible rfl)
              try simp only [Act.put, List.setIfInBounds_toArray, List.set_cons_zero, List.set_cons_succ]
              refine wpAnyH_take (i := 2) (oi := ⟨some 81, _, _, _, _, _⟩) (v := ?_) rfl (by kernel_rfl) (by kernel_rfl) (by kernel_rfl) (fun _ _ _ h => h) (Or.inl ⟨by rfl, ?_⟩) (by assumption) ?_
              rotate_left
              · intro w hSw
                (try dsimp only at hSw)
                go_simp
                all_goals (with_reducible rfl)
              try simp only [Act.put, List.setIfInBounds_toArray, List.set_cons_zero, List.set_cons_succ]
              refine wpAnyH_take (i := 3) (oi := ⟨some 82, _, _, _, _, _⟩) (v := ?_) rfl (by kernel_rfl) (by kernel_rfl) (by kernel_rfl) (fun _ _ _ h => h) (Or.inl ⟨by rfl, ?_⟩) (by assumption) ?_
              rotate_left
              · intro w hSw
                (try dsimp only at hSw)
                go_simp
                all_goals (with_reducible rfl)
              try simp only [Act.put, List.setIfInBounds_toArray, List.set_cons_zero, List.set_cons_succ]
              refine wpAnyH_take (i := 4) (oi := ⟨some 83, _, _, _, _, _⟩) (v := undef) rfl (by kernel_rfl) (by kernel_rfl) (by kernel_rfl) (fun _ _ _ h => h) (Or.inr ⟨by rfl, rfl⟩) (by assumption) ?_
              try simp only [Act.put, List.setIfInBounds_toArray, List.set_cons_zero, List.set_cons_succ]
              refine wpAnyH_take (i := 5) (oi := ⟨some 84, _, _, _, _, _⟩) (v := undef) rfl (by kernel_rfl) (by kernel_rfl) (by kernel_rfl) (fun _ _ _ h => h) (Or.inr ⟨by rfl, rfl⟩) (by assumption) ?_
              try simp only [Act.put, List.setIfInBounds_toArray, List.set_cons_zero, List.set_cons_succ]
              refine wpAnyH_take (i := 6) (oi := ⟨some 85, _, _, _, _, _⟩) (v := undef) rfl (by kernel_rfl) (by kernel_rfl) (by kernel_rfl) (fun _ _ _ h => h) (Or.inr ⟨by rfl, rfl⟩) (by assumption) ?_
              try simp only [Act.put, List.setIfInBounds_toArray, List.set_cons_zero, List.set_cons_succ]
              refine wpAnyH_take (i := 7) (oi := ⟨some 86, _, _, _, _, _⟩) (v := undef) rfl (by kernel_rfl) (by kernel_rfl) (by kernel_rfl) (fun _ _ _ h => h) (Or.inr ⟨by rfl, rfl⟩) (by assumption) ?_
              try simp only [Act.put, List.setIfInBounds_toArray, List.set_cons_zero, List.set_cons_succ]
              refine wpAnyH_take (i := 8) (oi := ⟨some 87, _, _, _, _, _⟩) (v := undef) rfl (by kernel_rfl) (by kernel_rfl) (by kernel_rfl) (fun _ _ _ h => h) (Or.inr ⟨by rfl, rfl⟩) (by assumption) ?_
              try simp only [Act.put, List.setIfInBounds_toArray, List.set_cons_zero, List.set_cons_succ]
              refine wpAnyH_take (i := 9) (oi := ⟨some 88, _, _, _, _, _⟩) (v := undef) rfl (by kernel_rfl) (by kernel_rfl) (by kernel_rfl) (fun _ _ _ h => h) (Or.inr ⟨by rfl, rfl⟩) (by assumption) ?_
              try simp only [Act.put, List.setIfInBounds_toArray, List.set_cons_zero, List.set_cons_succ]
              refine wpAnyH_take (i := 10) (oi := ⟨some 89, _, _, _, _, _⟩) (v := undef) rfl (by kernel_rfl) (by kernel_rfl) (by kernel_rfl) (fun _ _ _ h => h) (Or.inr ⟨by rfl, rfl⟩) (by assumption) ?_
              try simp only [Act.put, List.setIfInBounds_toArray, List.set_cons_zero, List.set_cons_succ]
              refine wpAnyH_take (i := 11) (oi := ⟨some 90, _, _, _, _, _⟩) (v := ?_) rfl (by kernel_rfl) (by kernel_rfl) (by kernel_rfl) (fun _ _ _ h => h) (Or.inl ⟨by rfl, ?_⟩) (by assumption) ?_
              rotate_left
              · intro w hSw
                (try dsimp only at hSw)
                go_simp
                all_goals (with_reducible rfl)
              try simp only [Act.put, List.setIfInBounds_toArray, List.set_cons_zero, List.set_cons_succ]
              refine wpAnyH_done (by kernel_rfl) ?_ _
              clear m0 m1 m2 m3 m4 hbl n0 n1 n2 n3 n4 hbn
              obtain ⟨⟨f0, f1, f2, f3, f4⟩, fbl⟩ := five26 HX_y76.out
              obtain ⟨⟨x0, x1, x2, x3, x4⟩, xbl⟩ := five26 HXx_y76.out
              obtain ⟨t0, t1, t2, t3, t4⟩ := thaw5 HXx_y76.out
              have hxz := HXx_y76.out
              have hbz : But [bx] y76 y76 := But.refl _ _
              have hzz := hbz.cells HZ_y76.out (by have := HNE.out.2; simp; omega)
              have HRz := Lib.hid (HRl_y76.out.but hbz (fun jj hj2 hm => by have h1 := HFR.out jj hj2; have h2 := HBX.out.2; simp at hm; omega))
              have HBz : Hid (Below w.heap.size w y76) := HB_y76.out.trans (hbz.below (B := w.heap.size) HB_y76.out.size (by intro g hg; simp at hg; have := HNE.out.1; omega))
              have HZz := Lib.hid hzz
              obtain ⟨⟨z0, z1, z2, z3, z4⟩, zbl⟩ := five26 hxz
              obtain ⟨⟨q0, q1, q2, q3, q4⟩, qbl⟩ := five26 hzz
              obtain ⟨o0, o1, o2, o3, o4⟩ := thaw5 hzz
              have hnex : bx ≠ b2 := by have := HNE.out.2; omega
              have hnex' := hnex.symm
              clear hxz hbz hzz
              go_wp2
              obtain ⟨hw, hr9, hb9⟩ := two_end (w := w) (s := s) (v := v) (need := need) (ph := 4) (c := cx) HRz.out (fun jj hj2 => by have h1 := HFR.out jj hj2; have h2 := HBX.out.2; have h3 := HNE.out.2; omega) HZz.out HBz.out (by have := HE.out.2.2.2.2; omega)
              have hpp := HP0.out
              rw [hph.out] at hpp
              rw [hpp]
              refine bodyPost_ret (v := .tuple #[.agg #[.int .i64 s, .int .i64 v, .int .i64 need, .int .i64 4, .slice X n cx], .int .i64 0]) ?_ rfl ⟨X, cx, ?_, ?_, (fun jj hj2 => .inl (by have h1 := HFR.out jj hj2; have h2 := HB_w4.out.size; omega)), hb9⟩
              · rw [results_cell_tmp rfl]
                simp [asAddr, Result.andThen, loadv26 hw]
              · simp only [HLn.out]
              · simp only [HLn.out]; exact hr9
            · subst hp6
              by_cases h1 : d4 = (n : Int)
              · have hph : Hid (phaseR 5 need Ls = 6) := by
                  show _ = _
                  unfold phaseR
                  rw [E_1.out, E_2.out, E_3.out, E_4.out, HLn.out]
                  (repeat' split) <;> omega
                have t1' : (d4 == (n : Int)) = true := by simpa using h1
                have HK1 := Lib.hid h1
                clear h1
                go_wp2
                obtain ⟨y69, h_y69⟩ : ∃ z, wr.drew = z := ⟨_, rfl⟩
                have hbd : Below wr.heap.size wr y69 := h_y69 ▸ (Below.refl _ _).drew
                have HX_y69 := Lib.hid ((hbd.block _ (lt_of_block HX_wr.out)).trans HX_wr.out)
                have HXx_y69 := Lib.hid ((hbd.block _ (lt_of_block HXx_wr.out)).trans HXx_wr.out)
                have HZ_y69 := Lib.hid ((hbd.block _ (lt_of_block HZ_wr.out)).trans HZ_wr.out)
                have HRl_y69 := Lib.hid (HRl_wr.out.below hbd (Nat.le_refl _))
                have HB_y69 : Hid (Below w.heap.size w y69) := HB_wr.out.trans (hbd.mono HB_wr.out.size)
                have HS_y69 : Hid (Below y69.heap.size y69 y69) := Below.refl _ _
                clear hbd
                obtain ⟨⟨m0, m1, m2, m3, m4⟩, hbl⟩ := five26 HX_y69.out
                obtain ⟨⟨n0, n1, n2, n3, n4⟩, hbn⟩ := five26 HXx_y69.out
                refine wp_region_held_drew (S := fun z => Below y69.heap.size y69 z) (by kernel_rfl) (by show Below _ _ _; rw [h_y69]; exact Below.refl _ _) (fun hHeld => ?_)
                rw [h_y69]
                clear h_y69
                refine wpAnyH_take (i := 0) (oi := ⟨some 68, _, _, _, _, _⟩) (v := ?_) rfl (by kernel_rfl) (by kernel_rfl) (by kernel_rfl) (fun _ _ _ h => h) (Or.inl ⟨by rfl, ?_⟩) (by assumption) ?_
                rotate_left
                · intro w hSw
                  (try dsimp only at hSw)
                  go_simp
                  all_goals (with_reducible rfl)
                try simp only [Act.put, List.setIfInBounds_toArray, List.set_cons_zero, List.set_cons_succ]
                refine wpAnyH_take (i := 1) (oi := ⟨some 69, _, _, _, _, _⟩) (v := ?_) rfl (by kernel_rfl) (by kernel_rfl) (by kernel_rfl) (fun _ _ _ h => h) (Or.inl ⟨by rfl, ?_⟩) (by assumption) ?_
                rotate_left
                · intro w hSw
                  have kk3 := (hSw.cell (p := ⟨b, 3, none⟩) hbl).trans m3
                  clear hSw
                  go_simp
                  all_goals (with_reducible rfl)
                try simp only [Act.put, List.setIfInBounds_toArray, List.set_cons_zero, List.set_cons_succ]
                refine wpAnyH_take (i := 2) (oi := ⟨some 70, _, _, _, _, _⟩) (v := ?_) rfl (by kernel_rfl) (by kernel_rfl) (by kernel_rfl) (fun _ _ _ h => h) (Or.inl ⟨by rfl, ?_⟩) (by assumption) ?_
                rotate_left
                · intro w hSw
                  (try dsimp only at hSw)
                  go_simp
                  all_goals (with_reducible rfl)
                try simp only [Act.put, List.setIfInBounds_toArray, List.set_cons_zero, List.set_cons_succ]
                refine wpAnyH_take (i := 3) (oi := ⟨some 71, _, _, _, _, _⟩) (v := ?_) rfl (by kernel_rfl) (by kernel_rfl) (by kernel_rfl) (fun _ _ _ h => h) (Or.inl ⟨by rfl, ?_⟩) (by assumption) ?_
                rotate_left
                · intro w hSw
                  (try dsimp only at hSw)
                  go_simp
                  all_goals (with_reducible rfl)
                try simp only [Act.put, List.setIfInBounds_toArray, List.set_cons_zero, List.set_cons_succ]
                refine wpAnyH_take (i := 4) (oi := ⟨some 72, _, _, _, _, _⟩) (v := undef) rfl (by kernel_rfl) (by kernel_rfl) (by kernel_rfl) (fun _ _ _ h => h) (Or.inr ⟨by rfl, rfl⟩) (by assumption) ?_
                try simp only [Act.put, List.setIfInBounds_toArray, List.set_cons_zero, List.set_cons_succ]
                refine wpAnyH_take (i := 5) (oi := ⟨some 73, _, _, _, _, _⟩) (v := undef) rfl (by kernel_rfl) (by kernel_rfl) (by kernel_rfl) (fun _ _ _ h => h) (Or.inr ⟨by rfl, rfl⟩) (by assumption) ?_
                try simp only [Act.put, List.setIfInBounds_toArray, List.set_cons_zero, List.set_cons_succ]
                refine wpAnyH_take (i := 6) (oi := ⟨some 74, _, _, _, _, _⟩) (v := undef) rfl (by kernel_rfl) (by kernel_rfl) (by kernel_rfl) (fun _ _ _ h => h) (Or.inr ⟨by rfl, rfl⟩) (by assumption) ?_
                try simp only [Act.put, List.setIfInBounds_toArray, List.set_cons_zero, List.set_cons_succ]
                refine wpAnyH_take (i := 7) (oi := ⟨some 75, _, _, _, _, _⟩) (v := undef) rfl (by kernel_rfl) (by kernel_rfl) (by kernel_rfl) (fun _ _ _ h => h) (Or.inr ⟨by rfl, rfl⟩) (by assumption) ?_
                try simp only [Act.put, List.setIfInBounds_toArray, List.set_cons_zero, List.set_cons_succ]
                refine wpAnyH_take (i := 8) (oi := ⟨some 76, _, _, _, _, _⟩) (v := undef) rfl (by kernel_rfl) (by kernel_rfl) (by kernel_rfl) (fun _ _ _ h => h) (Or.inr ⟨by rfl, rfl⟩) (by assumption) ?_
                try simp only [Act.put, List.setIfInBounds_toArray, List.set_cons_zero, List.set_cons_succ]
                refine wpAnyH_take (i := 9) (oi := ⟨some 77, _, _, _, _, _⟩) (v := ?_) rfl (by kernel_rfl) (by kernel_rfl) (by kernel_rfl) (fun _ _ _ h => h) (Or.inl ⟨by rfl, ?_⟩) (by assumption) ?_
                rotate_left
                · intro w hSw
                  (try dsimp only at hSw)
                  go_simp
                  all_goals (with_reducible rfl)
                try simp only [Act.put, List.setIfInBounds_toArray, List.set_cons_zero, List.set_cons_succ]
                refine wpAnyH_done (by kernel_rfl) ?_ _
                clear m0 m1 m2 m3 m4 hbl n0 n1 n2 n3 n4 hbn
                go_wp2
                obtain ⟨y70, h_y70⟩ : ∃ z, y69.drew = z := ⟨_, rfl⟩
                have hbd : Below y69.heap.size y69 y70 := h_y70 ▸ (Below.refl _ _).drew
                have HX_y70 := Lib.hid ((hbd.block _ (lt_of_block HX_y69.out)).trans HX_y69.out)
                have HXx_y70 := Lib.hid ((hbd.block _ (lt_of_block HXx_y69.out)).trans HXx_y69.out)
                have HZ_y70 := Lib.hid ((hbd.block _ (lt_of_block HZ_y69.out)).trans HZ_y69.out)
                have HRl_y70 := Lib.hid (HRl_y69.out.below hbd (Nat.le_refl _))
                have HB_y70 : Hid (Below w.heap.size w y70) := HB_y69.out.trans (hbd.mono HB_y69.out.size)
                have HS_y70 : Hid (Below y70.heap.size y70 y70) := Below.refl _ _
                clear hbd
                obtain ⟨⟨m0, m1, m2, m3, m4⟩, hbl⟩ := five26 HX_y70.out
                obtain ⟨⟨n0, n1, n2, n3, n4⟩, hbn⟩ := five26 HXx_y70.out
                refine wp_region_held_drew (S := fun z => Below y70.heap.size y70 z) (by kernel_rfl) (by show Below _ _ _; rw [h_y70]; exact Below.refl _ _) (fun hHeld => ?_)
                rw [h_y70]
                clear h_y70
                refine wpAnyH_take (i := 0) (oi := ⟨some 79, _, _, _, _, _⟩) (v := ?_) rfl (by kernel_rfl) (by kernel_rfl) (by kernel_rfl) (fun _ _ _ h => h) (Or.inl ⟨by rfl, ?_⟩) (by assumption) ?_
                rotate_left
                · intro w hSw
                  (try dsimp only at hSw)
                  go_simp
                  all_goals (with_reducible rfl)
                try simp only [Act.put, List.setIfInBounds_toArray, List.set_cons_zero, List.set_cons_succ]
                refine wpAnyH_take (i := 1) (oi := ⟨some 80, _, _, _, _, _⟩) (v := ?_) rfl (by kernel_rfl) (by kernel_rfl) (by kernel_rfl) (fun _ _ _ h => h) (Or.inl ⟨by rfl, ?_⟩) (by assumption) ?_
                rotate_left
                · intro w hSw
                  have kk3 := (hSw.cell (p := ⟨b, 3, none⟩) hbl).trans m3
                  clear hSw
                  go_simp
                  all_goals (with_reducible rfl)
                try simp only [Act.put, List.setIfInBounds_toArray, List.set_cons_zero, List.set_cons_succ]
                refine wpAnyH_take (i := 2) (oi := ⟨some 81, _, _, _, _, _⟩) (v := ?_) rfl (by kernel_rfl) (by kernel_rfl) (by kernel_rfl) (fun _ _ _ h => h) (Or.inl ⟨by rfl, ?_⟩) (by assumption) ?_
                rotate_left
                · intro w hSw
                  (try dsimp only at hSw)
                  go_simp
                  all_goals (with_reducible rfl)
                try simp only [Act.put, List.setIfInBounds_toArray, List.set_cons_zero, List.set_cons_succ]
                refine wpAnyH_take (i := 3) (oi := ⟨some 82, _, _, _, _, _⟩) (v := ?_) rfl (by kernel_rfl) (by kernel_rfl) (by kernel_rfl) (fun _ _ _ h => h) (Or.inl ⟨by rfl, ?_⟩) (by assumption) ?_
                rotate_left
                · intro w hSw
                  (try dsimp only at hSw)
                  go_simp
                  all_goals (with_reducible rfl)
                try simp only [Act.put, List.setIfInBounds_toArray, List.set_cons_zero, List.set_cons_succ]
                refine wpAnyH_take (i := 4) (oi := ⟨some 83, _, _, _, _, _⟩) (v := undef) rfl (by kernel_rfl) (by kernel_rfl) (by kernel_rfl) (fun _ _ _ h => h) (Or.inr ⟨by rfl, rfl⟩) (by assumption) ?_
                try simp only [Act.put, List.setIfInBounds_toArray, List.set_cons_zero, List.set_cons_succ]
                refine wpAnyH_take (i := 5) (oi := ⟨some 84, _, _, _, _, _⟩) (v := undef) rfl (by kernel_rfl) (by kernel_rfl) (by kernel_rfl) (fun _ _ _ h => h) (Or.inr ⟨by rfl, rfl⟩) (by assumption) ?_
                try simp only [Act.put, List.setIfInBounds_toArray, List.set_cons_zero, List.set_cons_succ]
                refine wpAnyH_take (i := 6) (oi := ⟨some 85, _, _, _, _, _⟩) (v := undef) rfl (by kernel_rfl) (by kernel_rfl) (by kernel_rfl) (fun _ _ _ h => h) (Or.inr ⟨by rfl, rfl⟩) (by assumption) ?_
                try simp only [Act.put, List.setIfInBounds_toArray, List.set_cons_zero, List.set_cons_succ]
                refine wpAnyH_take (i := 7) (oi := ⟨some 86, _, _, _, _, _⟩) (v := undef) rfl (by kernel_rfl) (by kernel_rfl) (by kernel_rfl) (fun _ _ _ h => h) (Or.inr ⟨by rfl, rfl⟩) (by assumption) ?_
                try simp only [Act.put, List.setIfInBounds_toArray, List.set_cons_zero, List.set_cons_succ]
                refine wpAnyH_take (i := 8) (oi := ⟨some 87, _, _, _, _, _⟩) (v := undef) rfl (by kernel_rfl) (by kernel_rfl) (by kernel_rfl) (fun _ _ _ h => h) (Or.inr ⟨by rfl, rfl⟩) (by assumption) ?_
                try simp only [Act.put, List.setIfInBounds_toArray, List.set_cons_zero, List.set_cons_succ]
                refine wpAnyH_take (i := 9) (oi := ⟨some 88, _, _, _, _, _⟩) (v := undef) rfl (by kernel_rfl) (by kernel_rfl) (by kernel_rfl) (fun _ _ _ h => h) (Or.inr ⟨by rfl, rfl⟩) (by assumption) ?_
                try simp only [Act.put, List.setIfInBounds_toArray, List.set_cons_zero, List.set_cons_succ]
                refine wpAnyH_take (i := 10) (oi := ⟨some 89, _, _, _, _, _⟩) (v := undef) rfl (by kernel_rfl) (by kernel_rfl) (by kernel_rfl) (fun _ _ _ h => h) (Or.inr ⟨by rfl, rfl⟩) (by assumption) ?_
                try simp only [Act.put, List.setIfInBounds_toArray, List.set_cons_zero, List.set_cons_succ]
                refine wpAnyH_take (i := 11) (oi := ⟨some 90, _, _, _, _, _⟩) (v := ?_) rfl (by kernel_rfl) (by kernel_rfl) (by kernel_rfl) (fun _ _ _ h => h) (Or.inl ⟨by rfl, ?_⟩) (by assumption) ?_
                rotate_left
                · intro w hSw
                  (try dsimp only at hSw)
                  go_simp
                  all_goals (with_reducible rfl)
                try simp only [Act.put, List.setIfInBounds_toArray, List.set_cons_zero, List.set_cons_succ]
                refine wpAnyH_done (by kernel_rfl) ?_ _
                clear m0 m1 m2 m3 m4 hbl n0 n1 n2 n3 n4 hbn
                obtain ⟨⟨f0, f1, f2, f3, f4⟩, fbl⟩ := five26 HX_y70.out
                obtain ⟨⟨x0, x1, x2, x3, x4⟩, xbl⟩ := five26 HXx_y70.out
                go_wp2_with fail
                refine (rmany_is _ s v need 5 4 HRl_y70.out hn E_4.out).mono ?_
                rintro e' y71 ⟨rfl, hbv⟩
                have HX_y71 := Lib.hid ((hbv.block _ (lt_of_block HX_y70.out)).trans HX_y70.out)
                have HXx_y71 := Lib.hid ((hbv.block _ (lt_of_block HXx_y70.out)).trans HXx_y70.out)
                have HZ_y71 := Lib.hid ((hbv.block _ (lt_of_block HZ_y70.out)).trans HZ_y70.out)
                have HRl_y71 := Lib.hid (HRl_y70.out.below hbv (Nat.le_refl _))
                have HB_y71 : Hid (Below w.heap.size w y71) := HB_y70.out.trans (hbv.mono HB_y70.out.size)
                clear hbv
                clear f0 f1 f2 f3 f4 fbl x0 x1 x2 x3 x4 xbl
                obtain ⟨⟨f0, f1, f2, f3, f4⟩, fbl⟩ := five26 HX_y71.out
                obtain ⟨⟨x0, x1, x2, x3, x4⟩, xbl⟩ := five26 HXx_y71.out
                obtain ⟨t0, t1, t2, t3, t4⟩ := thaw5 HXx_y71.out
                obtain ⟨wz, hwz⟩ : ∃ z, y71.setCell ⟨bx, 3, none⟩ (.int .i64 6) = z := ⟨_, rfl⟩
                have hxz : wz.heap[bx]? = some (.cells #[.int .i64 s, .int .i64 v, .int .i64 need, .int .i64 6, .slice X n cx] 26 (0, 0)) := hwz ▸ row3 HXx_y71.out
                have hbz : But [bx] y71 wz := hwz ▸ (But.refl _ _).setCell (by simp) _
                have hzz := hbz.cells HZ_y71.out (by have := HNE.out.2; simp; omega)
                have HRz := Lib.hid (HRl_y71.out.but hbz (fun jj hj2 hm => by have h1 := HFR.out jj hj2; have h2 := HBX.out.2; simp at hm; omega))
                have HBz : Hid (Below w.heap.size w wz) := HB_y71.out.trans (hbz.below (B := w.heap.size) HB_y71.out.size (by intro g hg; simp at hg; have := HNE.out.1; omega))
                have HZz := Lib.hid hzz
                obtain ⟨⟨z0, z1, z2, z3, z4⟩, zbl⟩ := five26 hxz
                obtain ⟨⟨q0, q1, q2, q3, q4⟩, qbl⟩ := five26 hzz
                obtain ⟨o0, o1, o2, o3, o4⟩ := thaw5 hzz
                have hnex : bx ≠ b2 := by have := HNE.out.2; omega
                have hnex' := hnex.symm
                clear hxz hbz hzz
                go_wp2
                (try rw [hwz])
                obtain ⟨hw, hr9, hb9⟩ := two_end (w := w) (s := s) (v := v) (need := need) (ph := 6) (c := cx) HRz.out (fun jj hj2 => by have h1 := HFR.out jj hj2; have h2 := HBX.out.2; have h3 := HNE.out.2; omega) HZz.out HBz.out (by have := HE.out.2.2.2.2; omega)
                have hpp := HP0.out
                rw [hph.out] at hpp
                rw [hpp]
                refine bodyPost_ret (v := .tuple #[.agg #[.int .i64 s, .int .i64 v, .int .i64 need, .int .i64 6, .slice X n cx], .int .i64 0]) ?_ rfl ⟨X, cx, ?_, ?_, (fun jj hj2 => .inl (by have h1 := HFR.out jj hj2; have h2 := HB_w4.out.size; omega)), hb9⟩
                · rw [results_cell_tmp rfl]
                  simp [asAddr, Result.andThen, loadv26 hw]
                · simp only [HLn.out]
                · simp only [HLn.out]; exact hr9
              · have hph : Hid (phaseR 5 need Ls = 5) := by
                  show _ = _
                  unfold phaseR
                  rw [E_1.out, E_2.out, E_3.out, E_4.out, HLn.out]
                  (repeat' split) <;> omega
                have t1' : (d4 == (n : Int)) = false := by simpa using h1
                clear h1
                go_wp2
                obtain ⟨y72, h_y72⟩ : ∃ z, wr.drew = z := ⟨_, rfl⟩
                have hbd : Below wr.heap.size wr y72 := h_y72 ▸ (Below.refl _ _).drew
                have HX_y72 := Lib.hid ((hbd.block _ (lt_of_block HX_wr.out)).trans HX_wr.out)
                have HXx_y72 := Lib.hid ((hbd.block _ (lt_of_block HXx_wr.out)).trans HXx_wr.out)
                have HZ_y72 := Lib.hid ((hbd.block _ (lt_of_block HZ_wr.out)).trans HZ_wr.out)
                have HRl_y72 := Lib.hid (HRl_wr.out.below hbd (Nat.le_refl _))
                have HB_y72 : Hid (Below w.heap.size w y72) := HB_wr.out.trans (hbd.mono HB_wr.out.size)
                have HS_y72 : Hid (Below y72.heap.size y72 y72) := Below.refl _ _
                clear hbd
                obtain ⟨⟨m0, m1, m2, m3, m4⟩, hbl⟩ := five26 HX_y72.out
                obtain ⟨⟨n0, n1, n2, n3, n4⟩, hbn⟩ := five26 HXx_y72.out
                refine wp_region_held_drew (S := fun z => Below y72.heap.size y72 z) (by kernel_rfl) (by show Below _ _ _; rw [h_y72]; exact Below.refl _ _) (fun hHeld => ?_)
                rw [h_y72]
                clear h_y72
                refine wpAnyH_take (i := 0) (oi := ⟨some 68, _, _, _, _, _⟩) (v := ?_) rfl (by kernel_rfl) (by kernel_rfl) (by kernel_rfl) (fun _ _ _ h => h) (Or.inl ⟨by rfl, ?_⟩) (by assumption) ?_
                rotate_left
                · intro w hSw
                  (try dsimp only at hSw)
                  go_simp
                  all_goals (with_reducible rfl)
                try simp only [Act.put, List.setIfInBounds_toArray, List.set_cons_zero, List.set_cons_succ]
                refine wpAnyH_take (i := 1) (oi := ⟨some 69, _, _, _, _, _⟩) (v := ?_) rfl (by kernel_rfl) (by kernel_rfl) (by kernel_rfl) (fun _ _ _ h => h) (Or.inl ⟨by rfl, ?_⟩) (by assumption) ?_
                rotate_left
                · intro w hSw
                  have kk3 := (hSw.cell (p := ⟨b, 3, none⟩) hbl).trans m3
                  clear hSw
                  go_simp
                  all_goals (with_reducible rfl)
                try simp only [Act.put, List.setIfInBounds_toArray, List.set_cons_zero, List.set_cons_succ]
                refine wpAnyH_take (i := 2) (oi := ⟨some 70, _, _, _, _, _⟩) (v := ?_) rfl (by kernel_rfl) (by kernel_rfl) (by kernel_rfl) (fun _ _ _ h => h) (Or.inl ⟨by rfl, ?_⟩) (by assumption) ?_
                rotate_left
                · intro w hSw
                  (try dsimp only at hSw)
                  go_simp
                  all_goals (with_reducible rfl)
                try simp only [Act.put, List.setIfInBounds_toArray, List.set_cons_zero, List.set_cons_succ]
                refine wpAnyH_take (i := 3) (oi := ⟨some 71, _, _, _, _, _⟩) (v := ?_) rfl (by kernel_rfl) (by kernel_rfl) (by kernel_rfl) (fun _ _ _ h => h) (Or.inl ⟨by rfl, ?_⟩) (by assumption) ?_
                rotate_left
                · intro w hSw
                  (try dsimp only at hSw)
                  go_simp
                  all_goals (with_reducible rfl)
                try simp only [Act.put, List.setIfInBounds_toArray, List.set_cons_zero, List.set_cons_succ]
                refine wpAnyH_take (i := 4) (oi := ⟨some 72, _, _, _, _, _⟩) (v := undef) rfl (by kernel_rfl) (by kernel_rfl) (by kernel_rfl) (fun _ _ _ h => h) (Or.inr ⟨by rfl, rfl⟩) (by assumption) ?_
                try simp only [Act.put, List.setIfInBounds_toArray, List.set_cons_zero, List.set_cons_succ]
                refine wpAnyH_take (i := 5) (oi := ⟨some 73, _, _, _, _, _⟩) (v := undef) rfl (by kernel_rfl) (by kernel_rfl) (by kernel_rfl) (fun _ _ _ h => h) (Or.inr ⟨by rfl, rfl⟩) (by assumption) ?_
                try simp only [Act.put, List.setIfInBounds_toArray, List.set_cons_zero, List.set_cons_succ]
                refine wpAnyH_take (i := 6) (oi := ⟨some 74, _, _, _, _, _⟩) (v := undef) rfl (by kernel_rfl) (by kernel_rfl) (by kernel_rfl) (fun _ _ _ h => h) (Or.inr ⟨by rfl, rfl⟩) (by assumption) ?_
                try simp only [Act.put, List.setIfInBounds_toArray, List.set_cons_zero, List.set_cons_succ]
                refine wpAnyH_take (i := 7) (oi := ⟨some 75, _, _, _, _, _⟩) (v := undef) rfl (by kernel_rfl) (by kernel_rfl) (by kernel_rfl) (fun _ _ _ h => h) (Or.inr ⟨by rfl, rfl⟩) (by assumption) ?_
                try simp only [Act.put, List.setIfInBounds_toArray, List.set_cons_zero, List.set_cons_succ]
                refine wpAnyH_take (i := 8) (oi := ⟨some 76, _, _, _, _, _⟩) (v := undef) rfl (by kernel_rfl) (by kernel_rfl) (by kernel_rfl) (fun _ _ _ h => h) (Or.inr ⟨by rfl, rfl⟩) (by assumption) ?_
                try simp only [Act.put, List.setIfInBounds_toArray, List.set_cons_zero, List.set_cons_succ]
                refine wpAnyH_take (i := 9) (oi := ⟨some 77, _, _, _, _, _⟩) (v := ?_) rfl (by kernel_rfl) (by kernel_rfl) (by kernel_rfl) (fun _ _ _ h => h) (Or.inl ⟨by rfl, ?_⟩) (by assumption) ?_
                rotate_left
                · intro w hSw
                  (try dsimp only at hSw)
                  go_simp
                  all_goals (with_reducible rfl)
                try simp only [Act.put, List.setIfInBounds_toArray, List.set_cons_zero, List.set_cons_succ]
                refine wpAnyH_done (by kernel_rfl) ?_ _
                clear m0 m1 m2 m3 m4 hbl n0 n1 n2 n3 n4 hbn
                go_wp2
                obtain ⟨y73, h_y73⟩ : ∃ z, y72.drew = z := ⟨_, rfl⟩
                have hbd : Below y72.heap.size y72 y73 := h_y73 ▸ (Below.refl _ _).drew
                have HX_y73 := Lib.hid ((hbd.block _ (lt_of_block HX_y72.out)).trans HX_y72.out)
                have HXx_y73 := Lib.hid ((hbd.block _ (lt_of_block HXx_y72.out)).trans HXx_y72.out)
                have HZ_y73 := Lib.hid ((hbd.block _ (lt_of_block HZ_y72.out)).trans HZ_y72.out)
                have HRl_y73 := Lib.hid (HRl_y72.out.below hbd (Nat.le_refl _))
                have HB_y73 : Hid (Below w.heap.size w y73) := HB_y72.out.trans (hbd.mono HB_y72.out.size)
                have HS_y73 : Hid (Below y73.heap.size y73 y73) := Below.refl _ _
                clear hbd
                obtain ⟨⟨m0, m1, m2, m3, m4⟩, hbl⟩ := five26 HX_y73.out
                obtain ⟨⟨n0, n1, n2, n3, n4⟩, hbn⟩ := five26 HXx_y73.out
                refine wp_region_held_drew (S := fun z => Below y73.heap.size y73 z) (by kernel_rfl) (by show Below _ _ _; rw [h_y73]; exact Below.refl _ _) (fun hHeld => ?_)
                rw [h_y73]
                clear h_y73
                refine wpAnyH_take (i := 0) (oi := ⟨some 79, _, _, _, _, _⟩) (v := ?_) rfl (by kernel_rfl) (by kernel_rfl) (by kernel_rfl) (fun _ _ _ h => h) (Or.inl ⟨by rfl, ?_⟩) (by assumption) ?_
                rotate_left
                · intro w hSw
                  (try dsimp only at hSw)
                  go_simp
                  all_goals (with_reducible rfl)
                try simp only [Act.put, List.setIfInBounds_toArray, List.set_cons_zero, List.set_cons_succ]
                refine wpAnyH_take (i := 1) (oi := ⟨some 80, _, _, _, _, _⟩) (v := ?_) rfl (by kernel_rfl) (by kernel_rfl) (by kernel_rfl) (fun _ _ _ h => h) (Or.inl ⟨by rfl, ?_⟩) (by assumption) ?_
                rotate_left
                · intro w hSw
                  have kk3 := (hSw.cell (p := ⟨b, 3, none⟩) hbl).trans m3
                  clear hSw
                  go_simp
                  all_goals (with_reducible rfl)
                try simp only [Act.put, List.setIfInBounds_toArray, List.set_cons_zero, List.set_cons_succ]
                refine wpAnyH_take (i := 2) (oi := ⟨some 81, _, _, _, _, _⟩) (v := ?_) rfl (by kernel_rfl) (by kernel_rfl) (by kernel_rfl) (fun _ _ _ h => h) (Or.inl ⟨by rfl, ?_⟩) (by assumption) ?_
                rotate_left
                · intro w hSw
                  (try dsimp only at hSw)
                  go_simp
                  all_goals (with_reducible rfl)
                try simp only [Act.put, List.setIfInBounds_toArray, List.set_cons_zero, List.set_cons_succ]
                refine wpAnyH_take (i := 3) (oi := ⟨some 82, _, _, _, _, _⟩) (v := ?_) rfl (by kernel_rfl) (by kernel_rfl) (by kernel_rfl) (fun _ _ _ h => h) (Or.inl ⟨by rfl, ?_⟩) (by assumption) ?_
                rotate_left
                · intro w hSw
                  (try dsimp only at hSw)
                  go_simp
                  all_goals (with_reducible rfl)
                try simp only [Act.put, List.setIfInBounds_toArray, List.set_cons_zero, List.set_cons_succ]
                refine wpAnyH_take (i := 4) (oi := ⟨some 83, _, _, _, _, _⟩) (v := undef) rfl (by kernel_rfl) (by kernel_rfl) (by kernel_rfl) (fun _ _ _ h => h) (Or.inr ⟨by rfl, rfl⟩) (by assumption) ?_
                try simp only [Act.put, List.setIfInBounds_toArray, List.set_cons_zero, List.set_cons_succ]
                refine wpAnyH_take (i := 5) (oi := ⟨some 84, _, _, _, _, _⟩) (v := undef) rfl (by kernel_rfl) (by kernel_rfl) (by kernel_rfl) (fun _ _ _ h => h) (Or.inr ⟨by rfl, rfl⟩) (by assumption) ?_
                try simp only [Act.put, List.setIfInBounds_toArray, List.set_cons_zero, List.set_cons_succ]
                refine wpAnyH_take (i := 6) (oi := ⟨some 85, _, _, _, _, _⟩) (v := undef) rfl (by kernel_rfl) (by kernel_rfl) (by kernel_rfl) (fun _ _ _ h => h) (Or.inr ⟨by rfl, rfl⟩) (by assumption) ?_
                try simp only [Act.put, List.setIfInBounds_toArray, List.set_cons_zero, List.set_cons_succ]
                refine wpAnyH_take (i := 7) (oi := ⟨some 86, _, _, _, _, _⟩) (v := undef) rfl (by kernel_rfl) (by kernel_rfl) (by kernel_rfl) (fun _ _ _ h => h) (Or.inr ⟨by rfl, rfl⟩) (by assumption) ?_
                try simp only [Act.put, List.setIfInBounds_toArray, List.set_cons_zero, List.set_cons_succ]
                refine wpAnyH_take (i := 8) (oi := ⟨some 87, _, _, _, _, _⟩) (v := undef) rfl (by kernel_rfl) (by kernel_rfl) (by kernel_rfl) (fun _ _ _ h => h) (Or.inr ⟨by rfl, rfl⟩) (by assumption) ?_
                try simp only [Act.put, List.setIfInBounds_toArray, List.set_cons_zero, List.set_cons_succ]
                refine wpAnyH_take (i := 9) (oi := ⟨some 88, _, _, _, _, _⟩) (v := undef) rfl (by kernel_rfl) (by kernel_rfl) (by kernel_rfl) (fun _ _ _ h => h) (Or.inr ⟨by rfl, rfl⟩) (by assumption) ?_
                try simp only [Act.put, List.setIfInBounds_toArray, List.set_cons_zero, List.set_cons_succ]
                refine wpAnyH_take (i := 10) (oi := ⟨some 89, _, _, _, _, _⟩) (v := undef) rfl (by kernel_rfl) (by kernel_rfl) (by kernel_rfl) (fun _ _ _ h => h) (Or.inr ⟨by rfl, rfl⟩) (by assumption) ?_
                try simp only [Act.put, List.setIfInBounds_toArray, List.set_cons_zero, List.set_cons_succ]
                refine wpAnyH_take (i := 11) (oi := ⟨some 90, _, _, _, _, _⟩) (v := ?_) rfl (by kernel_rfl) (by kernel_rfl) (by kernel_rfl) (fun _ _ _ h => h) (Or.inl ⟨by rfl, ?_⟩) (by assumption) ?_
                rotate_left
                · intro w hSw
                  (try dsimp only at hSw)
                  go_simp
                  all_goals (with_reducible rfl)
                try simp only [Act.put, List.setIfInBounds_toArray, List.set_cons_zero, List.set_cons_succ]
                refine wpAnyH_done (by kernel_rfl) ?_ _
                clear m0 m1 m2 m3 m4 hbl n0 n1 n2 n3 n4 hbn
                obtain ⟨⟨f0, f1, f2, f3, f4⟩, fbl⟩ := five26 HX_y73.out
                obtain ⟨⟨x0, x1, x2, x3, x4⟩, xbl⟩ := five26 HXx_y73.out
                go_wp2_with fail
                refine (rmany_is _ s v need 5 4 HRl_y73.out hn E_4.out).mono ?_
                rintro e' y74 ⟨rfl, hbv⟩
                have HX_y74 := Lib.hid ((hbv.block _ (lt_of_block HX_y73.out)).trans HX_y73.out)
                have HXx_y74 := Lib.hid ((hbv.block _ (lt_of_block HXx_y73.out)).trans HXx_y73.out)
                have HZ_y74 := Lib.hid ((hbv.block _ (lt_of_block HZ_y73.out)).trans HZ_y73.out)
                have HRl_y74 := Lib.hid (HRl_y73.out.below hbv (Nat.le_refl _))
                have HB_y74 : Hid (Below w.heap.size w y74) := HB_y73.out.trans (hbv.mono HB_y73.out.size)
                clear hbv
                clear f0 f1 f2 f3 f4 fbl x0 x1 x2 x3 x4 xbl
                obtain ⟨⟨f0, f1, f2, f3, f4⟩, fbl⟩ := five26 HX_y74.out
                obtain ⟨⟨x0, x1, x2, x3, x4⟩, xbl⟩ := five26 HXx_y74.out
                obtain ⟨t0, t1, t2, t3, t4⟩ := thaw5 HXx_y74.out
                have hxz := HXx_y74.out
                have hbz : But [bx] y74 y74 := But.refl _ _
                have hzz := hbz.cells HZ_y74.out (by have := HNE.out.2; simp; omega)
                have HRz := Lib.hid (HRl_y74.out.but hbz (fun jj hj2 hm => by have h1 := HFR.out jj hj2; have h2 := HBX.out.2; simp at hm; omega))
                have HBz : Hid (Below w.heap.size w y74) := HB_y74.out.trans (hbz.below (B := w.heap.size) HB_y74.out.size (by intro g hg; simp at hg; have := HNE.out.1; omega))
                have HZz := Lib.hid hzz
                obtain ⟨⟨z0, z1, z2, z3, z4⟩, zbl⟩ := five26 hxz
                obtain ⟨⟨q0, q1, q2, q3, q4⟩, qbl⟩ := five26 hzz
                obtain ⟨o0, o1, o2, o3, o4⟩ := thaw5 hzz
                have hnex : bx ≠ b2 := by have := HNE.out.2; omega
                have hnex' := hnex.symm
                clear hxz hbz hzz
                go_wp2
                obtain ⟨hw, hr9, hb9⟩ := two_end (w := w) (s := s) (v := v) (need := need) (ph := 5) (c := cx) HRz.out (fun jj hj2 => by have h1 := HFR.out jj hj2; have h2 := HBX.out.2; have h3 := HNE.out.2; omega) HZz.out HBz.out (by have := HE.out.2.2.2.2; omega)
                have hpp := HP0.out
                rw [hph.out] at hpp
                rw [hpp]
                refine bodyPost_ret (v := .tuple #[.agg #[.int .i64 s, .int .i64 v, .int .i64 need, .int .i64 5, .slice X n cx], .int .i64 0]) ?_ rfl ⟨X, cx, ?_, ?_, (fun jj hj2 => .inl (by have h1 := HFR.out jj hj2; have h2 := HB_w4.out.size; omega)), hb9⟩
                · rw [results_cell_tmp rfl]
                  simp [asAddr, Result.andThen, loadv26 hw]
                · simp only [HLn.out]
                · simp only [HLn.out]; exact hr9
            · subst hp6
              have hph : Hid (phaseR 6 need Ls = 6) := by
                show _ = _
                unfold phaseR
                rw [E_1.out, E_2.out, E_3.out, E_4.out, HLn.out]
                (repeat' split) <;> omega
              go_wp2
              obtain ⟨y77, h_y77⟩ : ∃ z, wr.drew = z := ⟨_, rfl⟩
              have hbd : Below wr.heap.size wr y77 := h_y77 ▸ (Below.refl _ _).drew
              have HX_y77 := Lib.hid ((hbd.block _ (lt_of_block HX_wr.out)).trans HX_wr.out)
              have HXx_y77 := Lib.hid ((hbd.block _ (lt_of_block HXx_wr.out)).trans HXx_wr.out)
              have HZ_y77 := Lib.hid ((hbd.block _ (lt_of_block HZ_wr.out)).trans HZ_wr.out)
              have HRl_y77 := Lib.hid (HRl_wr.out.below hbd (Nat.le_refl _))
              have HB_y77 : Hid (Below w.heap.size w y77) := HB_wr.out.trans (hbd.mono HB_wr.out.size)
              have HS_y77 : Hid (Below y77.heap.size y77 y77) := Below.refl _ _
              clear hbd
              obtain ⟨⟨m0, m1, m2, m3, m4⟩, hbl⟩ := five26 HX_y77.out
              obtain ⟨⟨n0, n1, n2, n3, n4⟩, hbn⟩ := five26 HXx_y77.out
              refine wp_region_held_drew (S := fun z => Below y77.heap.size y77 z) (by kernel_rfl) (by show Below _ _ _; rw [h_y77]; exact Below.refl _ _) (fun hHeld => ?_)
              rw [h_y77]
              clear h_y77
              refine wpAnyH_take (i := 0) (oi := ⟨some 68, _, _, _, _, _⟩) (v := ?_) rfl (by kernel_rfl) (by kernel_rfl) (by kernel_rfl) (fun _ _ _ h => h) (Or.inl ⟨by rfl, ?_⟩) (by assumption) ?_
              rotate_left
              · intro w hSw
                (try dsimp only at hSw)
                go_simp
                all_goals (with_reducible rfl)
              try simp only [Act.put, List.setIfInBounds_toArray, List.set_cons_zero, List.set_cons_succ]
              refine wpAnyH_take (i := 1) (oi := ⟨some 69, _, _, _, _, _⟩) (v := ?_) rfl (by kernel_rfl) (by kernel_rfl) (by kernel_rfl) (fun _ _ _ h => h) (Or.inl ⟨by rfl, ?_⟩) (by assumption) ?_
              rotate_left
              · intro w hSw
                have kk3 := (hSw.cell (p := ⟨b, 3, none⟩) hbl).trans m3
                clear hSw
                go_simp
                all_goals (with_reducible rfl)
              try simp only [Act.put, List.setIfInBounds_toArray, List.set_cons_zero, List.set_cons_succ]
              refine wpAnyH_take (i := 2) (oi := ⟨some 70, _, _, _, _, _⟩) (v := ?_) rfl (by kernel_rfl) (by kernel_rfl) (by kernel_rfl) (fun _ _ _ h => h) (Or.inl ⟨by rfl, ?_⟩) (by assumption) ?_
              rotate_left
              · intro w hSw
                (try dsimp only at hSw)
                go_simp
                all_goals (with_reducible rfl)
              try simp only [Act.put, List.setIfInBounds_toArray, List.set_cons_zero, List.set_cons_succ]
              refine wpAnyH_take (i := 3) (oi := ⟨some 71, _, _, _, _, _⟩) (v := ?_) rfl (by kernel_rfl) (by kernel_rfl) (by kernel_rfl) (fun _ _ _ h => h) (Or.inl ⟨by rfl, ?_⟩) (by assumption) ?_
              rotate_left
              · intro w hSw
                (try dsimp only at hSw)
                go_simp
                all_goals (with_reducible rfl)
              try simp only [Act.put, List.setIfInBounds_toArray, List.set_cons_zero, List.set_cons_succ]
              refine wpAnyH_take (i := 4) (oi := ⟨some 72, _, _, _, _, _⟩) (v := undef) rfl (by kernel_rfl) (by kernel_rfl) (by kernel_rfl) (fun _ _ _ h => h) (Or.inr ⟨by rfl, rfl⟩) (by assumption) ?_
              try simp only [Act.put, List.setIfInBounds_toArray, List.set_cons_zero, List.set_cons_succ]
              refine wpAnyH_take (i := 5) (oi := ⟨some 73, _, _, _, _, _⟩) (v := undef) rfl (by kernel_rfl) (by kernel_rfl) (by kernel_rfl) (fun _ _ _ h => h) (Or.inr ⟨by rfl, rfl⟩) (by assumption) ?_
              try simp only [Act.put, List.setIfInBounds_toArray, List.set_cons_zero, List.set_cons_succ]
              refine wpAnyH_take (i := 6) (oi := ⟨some 74, _, _, _, _, _⟩) (v := undef) rfl (by kernel_rfl) (by kernel_rfl) (by kernel_rfl) (fun _ _ _ h => h) (Or.inr ⟨by rfl, rfl⟩) (by assumption) ?_
              try simp only [Act.put, List.setIfInBounds_toArray, List.set_cons_zero, List.set_cons_succ]
              refine wpAnyH_take (i := 7) (oi := ⟨some 75, _, _, _, _, _⟩) (v := undef) rfl (by kernel_rfl) (by kernel_rfl) (by kernel_rfl) (fun _ _ _ h => h) (Or.inr ⟨by rfl, rfl⟩) (by assumption) ?_
              try simp only [Act.put, List.setIfInBounds_toArray, List.set_cons_zero, List.set_cons_succ]
              refine wpAnyH_take (i := 8) (oi := ⟨some 76, _, _, _, _, _⟩) (v := undef) rfl (by kernel_rfl) (by kernel_rfl) (by kernel_rfl) (fun _ _ _ h => h) (Or.inr ⟨by rfl, rfl⟩) (by assumption) ?_
              try simp only [Act.put, List.setIfInBounds_toArray, List.set_cons_zero, List.set_cons_succ]
              refine wpAnyH_take (i := 9) (oi := ⟨some 77, _, _, _, _, _⟩) (v := ?_) rfl (by kernel_rfl) (by kernel_rfl) (by kernel_rfl) (fun _ _ _ h => h) (Or.inl ⟨by rfl, ?_⟩) (by assumption) ?_
              rotate_left
              · intro w hSw
                (try dsimp only at hSw)
                go_simp
                all_goals (with_reducible rfl)
              try simp only [Act.put, List.setIfInBounds_toArray, List.set_cons_zero, List.set_cons_succ]
              refine wpAnyH_done (by kernel_rfl) ?_ _
              clear m0 m1 m2 m3 m4 hbl n0 n1 n2 n3 n4 hbn
              go_wp2
              obtain ⟨y78, h_y78⟩ : ∃ z, y77.drew = z := ⟨_, rfl⟩
              have hbd : Below y77.heap.size y77 y78 := h_y78 ▸ (Below.refl _ _).drew
              have HX_y78 := Lib.hid ((hbd.block _ (lt_of_block HX_y77.out)).trans HX_y77.out)
              have HXx_y78 := Lib.hid ((hbd.block _ (lt_of_block HXx_y77.out)).trans HXx_y77.out)
              have HZ_y78 := Lib.hid ((hbd.block _ (lt_of_block HZ_y77.out)).trans HZ_y77.out)
              have HRl_y78 := Lib.hid (HRl_y77.out.below hbd (Nat.le_refl _))
              have HB_y78 : Hid (Below w.heap.size w y78) := HB_y77.out.trans (hbd.mono HB_y77.out.size)
              have HS_y78 : Hid (Below y78.heap.size y78 y78) := Below.refl _ _
              clear hbd
              obtain ⟨⟨m0, m1, m2, m3, m4⟩, hbl⟩ := five26 HX_y78.out
              obtain ⟨⟨n0, n1, n2, n3, n4⟩, hbn⟩ := five26 HXx_y78.out
              refine wp_region_held_drew (S := fun z => Below y78.heap.size y78 z) (by kernel_rfl) (by show Below _ _ _; rw [h_y78]; exact Below.refl _ _) (fun hHeld => ?_)
              rw [h_y78]
              clear h_y78
              refine wpAnyH_take (i := 0) (oi := ⟨some 79, _, _, _, _, _⟩) (v := ?_) rfl (by kernel_rfl) (by kernel_rfl) (by kernel_rfl) (fun _ _ _ h => h) (Or.inl ⟨by rfl, ?_⟩) (by assumption) ?_
              rotate_left
              · intro w hSw
                (try dsimp only at hSw)
                go_simp
                all_goals (with_reducible rfl)
              try simp only [Act.put, List.setIfInBounds_toArray, List.set_cons_zero, List.set_cons_succ]
              refine wpAnyH_take (i := 1) (oi := ⟨some 80, _, _, _, _, _⟩) (v := ?_) rfl (by kernel_rfl) (by kernel_rfl) (by kernel_rfl) (fun _ _ _ h => h) (Or.inl ⟨by rfl, ?_⟩) (by assumption) ?_
              rotate_left
              · intro w hSw
                have kk3 := (hSw.cell (p := ⟨b, 3, none⟩) hbl).trans m3
                clear hSw
                go_simp
                all_goals (with_reducible rfl)
              try simp only [Act.put, List.setIfInBounds_toArray, List.set_cons_zero, List.set_cons_succ]
              refine wpAnyH_take (i := 2) (oi := ⟨some 81, _, _, _, _, _⟩) (v := ?_) rfl (by kernel_rfl) (by kernel_rfl) (by kernel_rfl) (fun _ _ _ h => h) (Or.inl ⟨by rfl, ?_⟩) (by assumption) ?_
              rotate_left
              · intro w hSw
                (try dsimp only at hSw)
                go_simp
                all_goals (with_reducible rfl)
              try simp only [Act.put, List.setIfInBounds_toArray, List.set_cons_zero, List.set_cons_succ]
              refine wpAnyH_take (i := 3) (oi := ⟨some 82, _, _, _, _, _⟩) (v := ?_) rfl (by kernel_rfl) (by kernel_rfl) (by kernel_rfl) (fun _ _ _ h => h) (Or.inl ⟨by rfl, ?_⟩) (by assumption) ?_
              rotate_left
              · intro w hSw
                (try dsimp only at hSw)
                go_simp
                all_goals (with_reducible rfl)
              try simp only [Act.put, List.setIfInBounds_toArray, List.set_cons_zero, List.set_cons_succ]
              refine wpAnyH_take (i := 4) (oi := ⟨some 83, _, _, _, _, _⟩) (v := undef) rfl (by kernel_rfl) (by kernel_rfl) (by kernel_rfl) (fun _ _ _ h => h) (Or.inr ⟨by rfl, rfl⟩) (by assumption) ?_
              try simp only [Act.put, List.setIfInBounds_toArray, List.set_cons_zero, List.set_cons_succ]
              refine wpAnyH_take (i := 5) (oi := ⟨some 84, _, _, _, _, _⟩) (v := undef) rfl (by kernel_rfl) (by kernel_rfl) (by kernel_rfl) (fun _ _ _ h => h) (Or.inr ⟨by rfl, rfl⟩) (by assumption) ?_
              try simp only [Act.put, List.setIfInBounds_toArray, List.set_cons_zero, List.set_cons_succ]
              refine wpAnyH_take (i := 6) (oi := ⟨some 85, _, _, _, _, _⟩) (v := undef) rfl (by kernel_rfl) (by kernel_rfl) (by kernel_rfl) (fun _ _ _ h => h) (Or.inr ⟨by rfl, rfl⟩) (by assumption) ?_
              try simp only [Act.put, List.setIfInBounds_toArray, List.set_cons_zero, List.set_cons_succ]
              refine wpAnyH_take (i := 7) (oi := ⟨some 86, _, _, _, _, _⟩) (v := undef) rfl (by kernel_rfl) (by kernel_rfl) (by kernel_rfl) (fun _ _ _ h => h) (Or.inr ⟨by rfl, rfl⟩) (by assumption) ?_
              try simp only [Act.put, List.setIfInBounds_toArray, List.set_cons_zero, List.set_cons_succ]
              refine wpAnyH_take (i := 8) (oi := ⟨some 87, _, _, _, _, _⟩) (v := undef) rfl (by kernel_rfl) (by kernel_rfl) (by kernel_rfl) (fun _ _ _ h => h) (Or.inr ⟨by rfl, rfl⟩) (by assumption) ?_
              try simp only [Act.put, List.setIfInBounds_toArray, List.set_cons_zero, List.set_cons_succ]
              refine wpAnyH_take (i := 9) (oi := ⟨some 88, _, _, _, _, _⟩) (v := undef) rfl (by kernel_rfl) (by kernel_rfl) (by kernel_rfl) (fun _ _ _ h => h) (Or.inr ⟨by rfl, rfl⟩) (by assumption) ?_
              try simp only [Act.put, List.setIfInBounds_toArray, List.set_cons_zero, List.set_cons_succ]
              refine wpAnyH_take (i := 10) (oi := ⟨some 89, _, _, _, _, _⟩) (v := undef) rfl (by kernel_rfl) (by kernel_rfl) (by kernel_rfl) (fun _ _ _ h => h) (Or.inr ⟨by rfl, rfl⟩) (by assumption) ?_
              try simp only [Act.put, List.setIfInBounds_toArray, List.set_cons_zero, List.set_cons_succ]
              refine wpAnyH_take (i := 11) (oi := ⟨some 90, _, _, _, _, _⟩) (v := ?_) rfl (by kernel_rfl) (by kernel_rfl) (by kernel_rfl) (fun _ _ _ h => h) (Or.inl ⟨by rfl, ?_⟩) (by assumption) ?_
              rotate_left
              · intro w hSw
                (try dsimp only at hSw)
                go_simp
                all_goals (with_reducible rfl)
              try simp only [Act.put, List.setIfInBounds_toArray, List.set_cons_zero, List.set_cons_succ]
              refine wpAnyH_done (by kernel_rfl) ?_ _
              clear m0 m1 m2 m3 m4 hbl n0 n1 n2 n3 n4 hbn
              obtain ⟨⟨f0, f1, f2, f3, f4⟩, fbl⟩ := five26 HX_y78.out
              obtain ⟨⟨x0, x1, x2, x3, x4⟩, xbl⟩ := five26 HXx_y78.out
              obtain ⟨t0, t1, t2, t3, t4⟩ := thaw5 HXx_y78.out
              have hxz := HXx_y78.out
              have hbz : But [bx] y78 y78 := But.refl _ _
              have hzz := hbz.cells HZ_y78.out (by have := HNE.out.2; simp; omega)
              have HRz := Lib.hid (HRl_y78.out.but hbz (fun jj hj2 hm => by have h1 := HFR.out jj hj2; have h2 := HBX.out.2; simp at hm; omega))
              have HBz : Hid (Below w.heap.size w y78) := HB_y78.out.trans (hbz.below (B := w.heap.size) HB_y78.out.size (by intro g hg; simp at hg; have := HNE.out.1; omega))
              have HZz := Lib.hid hzz
              obtain ⟨⟨z0, z1, z2, z3, z4⟩, zbl⟩ := five26 hxz
              obtain ⟨⟨q0, q1, q2, q3, q4⟩, qbl⟩ := five26 hzz
              obtain ⟨o0, o1, o2, o3, o4⟩ := thaw5 hzz
              have hnex : bx ≠ b2 := by have := HNE.out.2; omega
              have hnex' := hnex.symm
              clear hxz hbz hzz
              go_wp2
              obtain ⟨hw, hr9, hb9⟩ := two_end (w := w) (s := s) (v := v) (need := need) (ph := 6) (c := cx) HRz.out (fun jj hj2 => by have h1 := HFR.out jj hj2; have h2 := HBX.out.2; have h3 := HNE.out.2; omega) HZz.out HBz.out (by have := HE.out.2.2.2.2; omega)
              have hpp := HP0.out
              rw [hph.out] at hpp
              rw [hpp]
              refine bodyPost_ret (v := .tuple #[.agg #[.int .i64 s, .int .i64 v, .int .i64 need, .int .i64 6, .slice X n cx], .int .i64 0]) ?_ rfl ⟨X, cx, ?_, ?_, (fun jj hj2 => .inl (by have h1 := HFR.out jj hj2; have h2 := HB_w4.out.size; omega)), hb9⟩
              · rw [results_cell_tmp rfl]
                simp [asAddr, Result.andThen, loadv26 hw]
              · simp only [HLn.out]
              · simp only [HLn.out]; exact hr9
  · have kH := Lib.hid (decide_eq_false hH)
    have HP : Hid (P = (⟨s, v, need, ph, ms⟩, 130)) := by show _ = _; rw [← hP]; unfold Rn.told; rw [if_neg (fun hh => hH hh.1)]
    clear hP hH
    go_enter Try.func23, Try.ntmps23
    go_wp2_with fail
    (try rw [hw1]); (try rw [hw2]); (try rw [hb]); (try rw [hbb])
    clear hw1 hw2 hb hbb
    refine (rright_is _ s v need ph HR_w2.out hn kH.out).mono ?_
    rintro e' w3 ⟨rfl, hb3⟩
    have HB_w3 := Lib.hid (HB_w2.out.trans (hb3.mono HB_w2.out.size))
    have HX_w3 := Lib.hid ((hb3.block _ (lt_of_block HX_w2.out)).trans HX_w2.out)
    have HZ_w3 := Lib.hid ((hb3.block _ (lt_of_block HZ_w2.out)).trans HZ_w2.out)
    have HR_w3 := Lib.hid (HR_w2.out.below hb3 (Nat.le_refl _))
    clear hb3 m0 m1 m2 m3 m4
    obtain ⟨⟨f0, f1, f2, f3, f4⟩, fbl⟩ := five26 HX_w3.out
    obtain ⟨g0, g1, g2, g3, g4⟩ := thaw5 HX_w3.out
    obtain ⟨⟨r0, r1, r2, r3, r4⟩, rbl⟩ := five26 HZ_w3.out
    obtain ⟨y0, y1, y2, y3, y4⟩ := thaw5 HZ_w3.out
    go_wp2
    obtain ⟨hw, hr9, hb9⟩ := two_end0 (w := w) (s := s) (v := v) (need := need) (ph := ph) (c := c) HR_w3.out (fun h0 j hj => by
      obtain ⟨ad9, e9, h1, _⟩ := HRW.out.cells h0
      rw [e9] at hj
      simp at hj
      have := HE.out.2.2.2.2
      omega) HZ_w3.out HB_w3.out (by have := HE.out.2.2.2.2; omega)
    rw [HP.out]
    refine bodyPost_ret (v := .tuple #[.agg #[.int .i64 s, .int .i64 v, .int .i64 need, .int .i64 ph, .slice A n c], .int .i64 130]) ?_ rfl ⟨A, c, ?_, ?_, fun j hj => .inr hj, hb9⟩
    · rw [results_cell_tmp rfl]
      simp [asAddr, Result.andThen, loadv26 hw]
    · simp only [hln]
    · simp only [hln]; exact hr9
end
end Go.Proofs.Ytciihebaameccaa
