/- RoundEnds' walk. -/
import Derived.Test.YtciihebaameccaaRndM
import Derived.Test.YtciihebaameccaaRndN
import Derived.Deep.CutRange
import Derived.Deep.CutBlock
import Derived.Deep.DeepCutAuto
namespace Go.Proofs.Ytciihebaameccaa
open Go.RowKit Go.Coop
set_option maxRecDepth 100000
section
variable (w : World)
set_option maxHeartbeats 4000000 in
theorem ends_law (n0 d0 : Int) (hn0 : 0 ≤ n0 ∧ n0 ≤ 255) (hd0 : 0 ≤ d0 ∧ d0 ≤ 255) {F : Option Addr} {m cF : Nat} {os : List OpR} (hF : OpsAt w F m os) {G : Option Addr} {mo cG : Nat} {l : List UInt8} (hG : Rd w G mo l) (gv : Bool) : Calls Try.prog 6 #[.int .u8 n0, .int .u8 d0, .slice F m cF, .slice G mo cG, .bool gv] w (Told w true) := by
  have HGl := Lib.hid hG
  clear hG
  have HF := Lib.hid hF
  clear hF
  go_enter Try.func6, Try.ntmps6
  go_wp2_with fail
  refine (begun_is _ n0 d0 hn0 hd0).mono ?_
  rintro e w1 ⟨A1, c1, rfl, hr1, hb1⟩
  obtain ⟨r0, hr0⟩ : ∃ r, Bg n0 d0 = r := ⟨_, rfl⟩
  have HR0 := Lib.hid (hr0 ▸ bg_right n0 d0)
  have HLEN := Lib.hid (show r0.ms.length = manyOf n0 from hr0 ▸ bg_len n0 d0)
  rw [hr0] at hr1 ⊢
  obtain ⟨n, hn⟩ : ∃ n, manyOf n0 = n := ⟨_, rfl⟩
  rw [hn] at HLEN
  have HN : Hid (0 < n ∧ n ≤ 1000000) := by show _ ∧ _; have := (manyOf_b (n := n0)).2; omega
  simp only [RVal, HLEN.out] at hr1 ⊢
  have HR00 := Lib.hid hr0
  have HNN := Lib.hid hn
  clear hr0 hn
  obtain ⟨b7, hb7⟩ : ∃ b, w1.heap.size = b := ⟨_, rfl⟩
  obtain ⟨w2, hw2⟩ : ∃ z, w1.alloc (.cells #[.int .i64 r0.s, .int .i64 r0.v, .int .i64 r0.need, .int .i64 r0.ph, .slice A1 n c1] 26) = z := ⟨_, rfl⟩
  obtain ⟨hb2, hx2⟩ := box_new hw2
  rw [hb7] at hx2
  have HL0 : Hid (LR w w2 b7 r0 A1 n c1) := ⟨hx2, hr1.below hb2 (Nat.le_refl _), HR0.out, HLEN.out, hb1.trans (hb2.mono hb1.size), by have := hb1.size; omega⟩
  clear hx2 hr1 hb1 hb2
  have HN12 : Hid (n ≤ 12) := by show _ ≤ _; rw [← HNN.out]; exact (manyOf_b (n := n0)).2.2
  go_upto_block 0 with (fail)
  (try rw [hw2]); (try rw [hb7])
  clear hw2 hb7
  go_cut [] (fun wc => ∃ (r : Rn) (A : Option Addr) (c : Nat), Hid (LR w wc b7 r A n c))
  case first =>
    go_wp2_with fail
    go_loopg [14, 15, 16] m (fun kx s14 _ _ wr => ∃ (j : Nat) (r : Rn) (A : Option Addr) (c : Nat), j ≤ m ∧ m - j ≤ kx ∧ s14 = .int .i64 j ∧ Hid (LR w wr b7 r A n c))
    case atStart => exact ⟨0, r0, A1, c1, Nat.zero_le _, by omega, rfl, HL0⟩
    case round =>
      clear HL0 HR0 HLEN HR00 HNN hn0 hd0
      obtain ⟨j, r, A, c, hj, hk, rfl, HL⟩ := hrel
      by_cases hlt : j < m
      · by_cases h60 : j < 40
        · have hj6 : (j : Int) < 40 := by omega
          have hw1 : IntKind.i64.wrap ((j : Int) + 1) = (j : Int) + 1 := IntWalk.i64_in _ (by omega)
          obtain ⟨o, ad, ho, hFa, hst⟩ := (HF.out.below HL.out.bel (Nat.le_refl _)).step hlt
          subst hFa
          have HST := Lib.hid hst
          obtain ⟨P, hP⟩ : ∃ P, r.does o = P := ⟨_, rfl⟩
          obtain ⟨Q, E⟩ := P
          have HQ := Lib.hid hP
          have HQL : Hid (Q.ms.length = n) := by show _ = _; have h1 := (does_len (r := r) o).1; rw [hP] at h1; exact h1.trans HL.out.len
          have HQR : Hid (RightR Q) := by show RightR _; have h1 := does_right HL.out.right o; rw [hP] at h1; exact h1
          have hi1 : (0 : Int) ≤ (j : Int) := by omega
          have hi2 : (j : Int) < (m : Int) := by omega
          clear ho hst hP
          go_upto_region 7 with (fail)
          go_cut [15, 16] from 31 to 52 (fun p x wc => ∃ (bb : Nat) (A2 : Option Addr) (c2 : Nat), p = .pointer (some ⟨bb, 0, none⟩) ∧ x = .int .i64 E ∧ Hid (DCut wr wc bb Q A2 n c2))
          case first =>
            refine wp_region_held_drew (S := fun v => Below wr.heap.size wr v) (by kernel_rfl) (((Below.refl wr.heap.size wr).drew)) (fun hHeld => ?_)
            refine wpAnyH_take (i := 0) (oi := ⟨some 42, _, _, _, _, _⟩) (v := ?_) rfl (by kernel_rfl) (by kernel_rfl) (by kernel_rfl) (fun _ _ _ h => h) (Or.inl ⟨by rfl, ?_⟩) (by assumption) ?_
            rotate_left
            · intro w hSw
              obtain ⟨⟨kk0, kk1, kk2, kk3, kk4⟩, kkl⟩ := five26 ((hSw.block _ (lt_of_block HL.out.row)).trans HL.out.row)
              go_simp
              all_goals (with_reducible rfl)
            try simp only [Act.put, List.setIfInBounds_toArray, List.set_cons_zero, List.set_cons_succ]
            refine wpAnyH_take (i := 1) (oi := ⟨some 43, _, _, _, _, _⟩) (v := ?_) rfl (by kernel_rfl) (by kernel_rfl) (by kernel_rfl) (fun _ _ _ h => h) (Or.inl ⟨by rfl, ?_⟩) (by assumption) ?_
            rotate_left
            · intro w hSw
              (try dsimp only at hSw)
              go_simp
              all_goals (with_reducible rfl)
            try simp only [Act.put, List.setIfInBounds_toArray, List.set_cons_zero, List.set_cons_succ]
            refine wpAnyH_take (i := 2) (oi := ⟨some 44, _, _, _, _, _⟩) (v := ?_) rfl (by kernel_rfl) (by kernel_rfl) (by kernel_rfl) (fun _ _ _ h => h) (Or.inl ⟨by rfl, ?_⟩) (by assumption) ?_
            rotate_left
            · intro w hSw
              (try dsimp only at hSw)
              go_simp
              all_goals (with_reducible rfl)
            try simp only [Act.put, List.setIfInBounds_toArray, List.set_cons_zero, List.set_cons_succ]
            refine wpAnyH_take (i := 3) (oi := ⟨some 45, _, _, _, _, _⟩) (v := ?_) rfl (by kernel_rfl) (by kernel_rfl) (by kernel_rfl) (fun _ _ _ h => h) (Or.inl ⟨by rfl, ?_⟩) (by assumption) ?_
            rotate_left
            · intro w hSw
              (try dsimp only at hSw)
              go_simp
              all_goals (with_reducible rfl)
            try simp only [Act.put, List.setIfInBounds_toArray, List.set_cons_zero, List.set_cons_succ]
            refine wpAnyH_take (i := 4) (oi := ⟨some 46, _, _, _, _, _⟩) (v := ?_) rfl (by kernel_rfl) (by kernel_rfl) (by kernel_rfl) (fun _ _ _ h => h) (Or.inl ⟨by rfl, ?_⟩) (by assumption) ?_
            rotate_left
            · intro w hSw
              obtain ⟨cc0, cc1, cc2, cc3⟩ := HST.out w hSw
              go_simp
              all_goals (with_reducible rfl)
            try simp only [Act.put, List.setIfInBounds_toArray, List.set_cons_zero, List.set_cons_succ]
            refine wpAnyH_ready (rs := [5, 9]) (by kernel_rfl) (by simp) (AllReadyH.cons (o := ⟨some 47, _, _, _, _, _⟩) rfl (fun K hK => ?_) (AllReadyH.cons (o := ⟨some 15, _, _, _, _, _⟩) rfl (fun K hK => ?_) AllReadyH.nil))
            · go_simp
              refine (does_is _ r.s r.v r.need r.ph (HL.out.rd.drew) HN.out.2 o.kd o.ix o.op o.e (P := (Q, E)) HQ.out).mono ?_
              rintro e' w4 ⟨A2, c2, he, hr9, hA9, hb9⟩
              subst he
              simp only [RVal, HQL.out] at hr9 ⊢
              have B4 : Hid (Below wr.heap.size wr w4) := ((Below.refl wr.heap.size wr).drew).trans hb9
              have H9 := Lib.hid (And.intro hr9 hA9)
              clear hr9 hA9 hb9
              refine hK.out _ _ (B4.out) (fun hHeld => ?_)
              clear hK K
              try simp only [Act.put, List.setIfInBounds_toArray, List.set_cons_zero, List.set_cons_succ]
              refine wpAnyH_take (i := 6) (oi := ⟨some 41, _, _, _, _, _⟩) (v := ?_) rfl (by kernel_rfl) (by kernel_rfl) (by kernel_rfl) (fun _ _ _ h => h) (Or.inl ⟨by rfl, ?_⟩) (by assumption) ?_
              rotate_left
              · intro w hSw
                (try dsimp only at hSw)
                go_simp
                all_goals (with_reducible rfl)
              try simp only [Act.put, List.setIfInBounds_toArray, List.set_cons_zero, List.set_cons_succ]
              refine wpAnyH_take (i := 7) (oi := ⟨some 48, _, _, _, _, _⟩) (v := ?_) rfl (by kernel_rfl) (by kernel_rfl) (by kernel_rfl) (fun _ _ _ h => h) (Or.inl ⟨by rfl, ?_⟩) (by assumption) ?_
              rotate_left
              · intro w hSw
                (try dsimp only at hSw)
                go_simp
                all_goals (with_reducible rfl)
              try simp only [Act.put, List.setIfInBounds_toArray, List.set_cons_zero, List.set_cons_succ]
              refine wpAnyH_take (i := 8) (oi := ⟨some 49, _, _, _, _, _⟩) (v := ?_) rfl (by kernel_rfl) (by kernel_rfl) (by kernel_rfl) (fun _ _ _ h => h) (Or.inl ⟨by rfl, ?_⟩) (by assumption) ?_
              rotate_left
              · intro w hSw
                (try dsimp only at hSw)
                go_simp
                all_goals (with_reducible rfl)
              try simp only [Act.put, List.setIfInBounds_toArray, List.set_cons_zero, List.set_cons_succ]
              refine wpAnyH_ready (rs := [9]) (by kernel_rfl) (by simp) (AllReadyH.cons (o := ⟨some 15, _, _, _, _, _⟩) rfl (fun K hK => ?_) AllReadyH.nil)
              go_simp
              obtain ⟨bb, hbb⟩ : ∃ z, w4.heap.size = z := ⟨_, rfl⟩
              obtain ⟨va, hva⟩ : ∃ z, w4.alloc (.cells #[.int .i64 0, .int .i64 0, .int .i64 0, .int .i64 0, .slice none 0 0] 26) = z := ⟨_, rfl⟩
              obtain ⟨hba, hx⟩ := box_new hva
              rw [hbb] at hx
              have HD := Lib.hid (fill5 (wr := wr) (Q := Q) (c := c2) hx (H9.out.1.below hba (Nat.le_refl _)) (fun jj hj => ⟨H9.out.2 jj hj, by
                obtain ⟨ad9, e9, h1, _⟩ := H9.out.1.cells HN.out.1
                rw [e9] at hj
                simp at hj
                omega⟩) (B4.out.trans (hba.mono B4.out.size)) (by have := B4.out.size; omega))
              have Bva : Hid (Below wr.heap.size wr va) := B4.out.trans (hba.mono B4.out.size)
              clear hba
              refine hK.out _ _ (by rw [hva]; exact Bva.out) (fun hHeld => ?_)
              clear hK K
              try simp only [Act.put, List.setIfInBounds_toArray, List.set_cons_zero, List.set_cons_succ]
              rw [hva, hbb]
              clear hHeld
              have hHeld : Below wr.heap.size wr va := Bva.out
              clear hva hbb Bva B4 H9
              obtain ⟨⟨z0, z1, z2, z3, z4⟩, zbl⟩ := five26 hx
              obtain ⟨y0, y1, y2, y3, y4⟩ := thaw5 hx
              refine wpAnyH_ready (rs := [10]) (by kernel_rfl) (by simp) (AllReadyH.cons (o := ⟨none, _, _, _, _, _⟩) rfl (fun K hK => ?_) AllReadyH.nil)
              go_simp
              refine hK.out _ _ (HD.out.bel) (fun hHeld => ?_)
              clear hK K
              try simp only [Act.put, List.setIfInBounds_toArray, List.set_cons_zero, List.set_cons_succ]
              refine wpAnyH_take (i := 11) (oi := ⟨some 16, _, _, _, _, _⟩) (v := ?_) rfl (by kernel_rfl) (by kernel_rfl) (by kernel_rfl) (fun _ _ _ h => h) (Or.inl ⟨by rfl, ?_⟩) (by assumption) ?_
              rotate_left
              · intro w hSw
                (try dsimp only at hSw)
                go_simp
                all_goals (with_reducible rfl)
              try simp only [Act.put, List.setIfInBounds_toArray, List.set_cons_zero, List.set_cons_succ]
              refine wpAnyH_done (by kernel_rfl) ?_ _
              clear z0 z1 z2 z3 z4 zbl y0 y1 y2 y3 y4 hx hHeld
              go_wp2
              go_meet
              case rel => exact ⟨bb, A2, c2, rfl, rfl, HD.out⟩
            · go_simp
              obtain ⟨bb, hbb⟩ : ∃ z, wr.heap.size = z := ⟨_, rfl⟩
              obtain ⟨va, hva⟩ : ∃ z, (wr.alloc (.cells #[.int .i64 0, .int .i64 0, .int .i64 0, .int .i64 0, .slice none 0 0] 26)).drew = z := ⟨_, rfl⟩
              have Bva : Hid (Below wr.heap.size wr va) := hva ▸ ((Below.refl wr.heap.size wr).alloc (Nat.le_refl _) _).drew
              have hxv : va.heap[bb]? = some (.cells #[.int .i64 0, .int .i64 0, .int .i64 0, .int .i64 0, .slice none 0 0] 26 (0, 0)) := by rw [← hva, ← hbb]; exact heap_alloc_new wr _
              have hsz : va.heap.size = bb + 1 := by rw [← hva, ← hbb]; simp
              refine hK.out _ _ (by first | (rw [hva]; exact Bva.out) | exact hva ▸ Bva.out) (fun hHeld => ?_)
              clear hK K
              try simp only [Act.put, List.setIfInBounds_toArray, List.set_cons_zero, List.set_cons_succ]
              rw [hva, hbb]
              clear hHeld
              have hHeld : Below wr.heap.size wr va := Bva.out
              have HV := Lib.hid (And.intro hxv (And.intro hsz hbb))
              clear hva hbb hxv hsz
              refine wpAnyH_ready (rs := [5]) (by kernel_rfl) (by simp) (AllReadyH.cons (o := ⟨some 47, _, _, _, _, _⟩) rfl (fun K hK => ?_) AllReadyH.nil)
              go_simp
              refine (does_is _ r.s r.v r.need r.ph (HL.out.rd.below Bva.out (Nat.le_refl _)) HN.out.2 o.kd o.ix o.op o.e (P := (Q, E)) HQ.out).mono ?_
              rintro e' w4 ⟨A2, c2, he, hr9, hA9, hb9⟩
              subst he
              simp only [RVal, HQL.out] at hr9 ⊢
              have hx := (hb9.block _ (lt_of_block HV.out.1)).trans HV.out.1
              have HD := Lib.hid (fill5 (wr := wr) (Q := Q) (c := c2) hx hr9 (fun jj hj => by have h1 := hA9 jj hj; have h2 := HV.out.2; omega) (Bva.out.trans (hb9.mono Bva.out.size)) (by have h2 := HV.out.2; omega))
              have B4 : Hid (Below wr.heap.size wr w4) := Bva.out.trans (hb9.mono Bva.out.size)
              clear hr9 hA9 hb9
              refine hK.out _ _ (by have h := B4.out; rw [HV.out.2.2] at h; exact h) (fun hHeld => ?_)
              clear hK K
              try simp only [Act.put, List.setIfInBounds_toArray, List.set_cons_zero, List.set_cons_succ]
              clear B4 Bva
              refine wpAnyH_take (i := 6) (oi := ⟨some 41, _, _, _, _, _⟩) (v := ?_) rfl (by kernel_rfl) (by kernel_rfl) (by kernel_rfl) (fun _ _ _ h => h) (Or.inl ⟨by rfl, ?_⟩) (by assumption) ?_
              rotate_left
              · intro w hSw
                (try dsimp only at hSw)
                go_simp
                all_goals (with_reducible rfl)
              try simp only [Act.put, List.setIfInBounds_toArray, List.set_cons_zero, List.set_cons_succ]
              refine wpAnyH_take (i := 7) (oi := ⟨some 48, _, _, _, _, _⟩) (v := ?_) rfl (by kernel_rfl) (by kernel_rfl) (by kernel_rfl) (fun _ _ _ h => h) (Or.inl ⟨by rfl, ?_⟩) (by assumption) ?_
              rotate_left
              · intro w hSw
                (try dsimp only at hSw)
                go_simp
                all_goals (with_reducible rfl)
              try simp only [Act.put, List.setIfInBounds_toArray, List.set_cons_zero, List.set_cons_succ]
              refine wpAnyH_take (i := 8) (oi := ⟨some 49, _, _, _, _, _⟩) (v := ?_) rfl (by kernel_rfl) (by kernel_rfl) (by kernel_rfl) (fun _ _ _ h => h) (Or.inl ⟨by rfl, ?_⟩) (by assumption) ?_
              rotate_left
              · intro w hSw
                (try dsimp only at hSw)
                go_simp
                all_goals (with_reducible rfl)
              try simp only [Act.put, List.setIfInBounds_toArray, List.set_cons_zero, List.set_cons_succ]
              obtain ⟨⟨z0, z1, z2, z3, z4⟩, zbl⟩ := five26 hx
              obtain ⟨y0, y1, y2, y3, y4⟩ := thaw5 hx
              refine wpAnyH_ready (rs := [10]) (by kernel_rfl) (by simp) (AllReadyH.cons (o := ⟨none, _, _, _, _, _⟩) rfl (fun K hK => ?_) AllReadyH.nil)
              go_simp
              refine hK.out _ _ (by have h := HD.out.bel; rw [HV.out.2.2] at h; exact h) (fun hHeld => ?_)
              clear hK K
              try simp only [Act.put, List.setIfInBounds_toArray, List.set_cons_zero, List.set_cons_succ]
              refine wpAnyH_take (i := 11) (oi := ⟨some 16, _, _, _, _, _⟩) (v := ?_) rfl (by kernel_rfl) (by kernel_rfl) (by kernel_rfl) (fun _ _ _ h => h) (Or.inl ⟨by rfl, ?_⟩) (by assumption) ?_
              rotate_left
              · intro w hSw
                (try dsimp only at hSw)
                go_simp
                all_goals (with_reducible rfl)
              try simp only [Act.put, List.setIfInBounds_toArray, List.set_cons_zero, List.set_cons_succ]
              refine wpAnyH_done (by kernel_rfl) ?_ _
              clear z0 z1 z2 z3 z4 zbl y0 y1 y2 y3 y4 hx hHeld
              go_wp2
              go_meet
              case rel => exact ⟨bb, A2, c2, rfl, rfl, HD.out⟩
          case rest =>
            obtain ⟨bb, A2, c2, rfl, rfl, HD⟩ := hcut
            have HL2 := Lib.hid (HL.out.below HD.out.bel)
            obtain ⟨⟨a0, a1, a2, a3, a4⟩, abl⟩ := five26 HL2.out.row
            obtain ⟨t0, t1, t2, t3, t4⟩ := thaw5 HL2.out.row
            obtain ⟨⟨e0, e1, e2, e3, e4⟩, ebl⟩ := five26 HD.out.row
            have HB : Hid (bb ≠ b7) := by show bb ≠ b7; have h1 := HD.out.le; have h2 := lt_of_block HL.out.row; omega
            have hne := HB.out
            have hne' := hne.symm
            clear HST
            by_cases hE : E = 0
            · subst hE
              obtain ⟨wz, hwz⟩ : ∃ z, ((((wc.setCell ⟨b7, 0, none⟩ (.int .i64 Q.s)).setCell ⟨b7, 1, none⟩ (.int .i64 Q.v)).setCell ⟨b7, 2, none⟩ (.int .i64 Q.need)).setCell ⟨b7, 3, none⟩ (.int .i64 Q.ph)).setCell ⟨b7, 4, none⟩ (.slice A2 n c2) = z := ⟨_, rfl⟩
              obtain ⟨hlz, hbz⟩ := LR.set (c2 := c2) HL.out (HD.out.bel) HD.out.rd (fun jj hj => by have h1 := (HD.out.fresh jj hj).1; have h2 := lt_of_block HL.out.row; omega) HQR.out HQL.out
              rw [hwz] at hlz hbz
              have HLz := Lib.hid hlz
              clear hlz hbz
              go_wp2
              (try rw [hwz])
              go_roundg (m - (j + 1))
              case measure => omega
              case rel => exact ⟨j + 1, Q, A2, c2, by omega, by omega, by go_num, HLz⟩
            · have u0 : (E == 0) = false := by simpa using hE
              have v0 : (E != 0) = true := by simpa using hE
              clear hE
              go_wp2
              go_roundg (m - (j + 1))
              case measure => omega
              case rel => exact ⟨j + 1, r, A, c, by omega, by omega, by go_num, HL2⟩
        · have hj6 : ¬ (j : Int) < 40 := by omega
          have hi2 : (j : Int) < (m : Int) := by omega
          go_wp2
          go_meet
          case rel => exact ⟨r, A, c, HL.out⟩
      · obtain rfl : j = m := by omega
        go_wp2
        go_meet
        case rel => exact ⟨r, A, c, HL.out⟩
  case rest =>
    clear HL0 HR0 HLEN HR00 HNN hn0 hd0
    obtain ⟨r, A, c, HL⟩ := hcut
    go_wp2_with fail
    have HMU := mu_b HL.out.right
    rw [HL.out.len] at HMU
    have hw5 : IntKind.i64.wrap (5 * (n : Int)) = 5 * (n : Int) := IntWalk.i64_in _ (by have := HN.out; omega)
    have hw6 : IntKind.i64.wrap (5 * (n : Int) + 5) = 5 * (n : Int) + 5 := IntWalk.i64_in _ (by have := HN.out; omega)
    have HW5 := Lib.hid hw5
    have HW6 := Lib.hid hw6
    clear hw5 hw6
    go_loopg [17, 18, 19, 20, 21] (3 * n + 2) (fun kx s17 _ _ _ _ wr => ∃ (k : Nat) (r : Rn) (A : Option Addr) (c : Nat), k ≤ 3 * n + 1 ∧ 3 * n + 2 - k ≤ kx ∧ s17 = .int .i64 k ∧ Hid (LR w wr b7 r A n c) ∧ Hid (muR r + k ≤ 3 * n + 1))
    case atStart => exact ⟨0, r, A, c, by omega, by omega, rfl, HL, by show muR r + (0 : Nat) ≤ 3 * (n : Int) + 1; omega⟩
    case round =>
      clear HMU
      obtain ⟨k, r, A, c, hk0, hkx, rfl, HL, HMU⟩ := hrel
      have hw5 := HW5.out
      have hw6 := HW6.out
      have hlt5 : (k : Int) < 5 * (n : Int) + 5 := by omega
      have hw1 : IntKind.i64.wrap ((k : Int) + 1) = (k : Int) + 1 := IntWalk.i64_in _ (by have := HN.out; omega)
      obtain ⟨⟨a0, a1, a2, a3, a4⟩, abl⟩ := five26 HL.out.row
      obtain ⟨gp, hgp⟩ : ∃ g : Bool, decide (gv = true ∧ (r.ph = 1 ∨ r.ph = 2)) = g := ⟨_, rfl⟩
      have HGP := Lib.hid hgp
      clear hgp
      go_upto_region 13 with (fail)
      go_cut [70] from 53 to 123 (fun v wc => v = .bool gp ∧ wc = wr)
      case first =>
        cases gv with
        | false =>
          obtain rfl : gp = false := by rw [← HGP.out]; simp
          go_wp2
          go_meet
          case rel => exact ⟨rfl, by first | trivial | rfl⟩
        | true =>
          by_cases h1 : r.ph = 1
          · obtain rfl : gp = true := by rw [← HGP.out]; simp [h1]
            rw [h1] at a3
            clear h1
            go_wp2
            go_meet
            case rel => exact ⟨rfl, by first | trivial | rfl⟩
          · by_cases h2 : r.ph = 2
            · obtain rfl : gp = true := by rw [← HGP.out]; simp [h2]
              rw [h2] at a3
              clear h1 h2
              go_wp2
              go_meet
              case rel => exact ⟨rfl, by first | trivial | rfl⟩
            · obtain rfl : gp = false := by rw [← HGP.out]; simp [h1, h2]
              have u1 : (r.ph == 1) = false := by simpa using h1
              have u2 : (r.ph == 2) = false := by simpa using h2
              clear h1 h2
              go_wp2
              go_meet
              case rel => exact ⟨rfl, by first | trivial | rfl⟩
      case rest =>
        obtain ⟨rfl, rfl⟩ := hcut
        go_upto_if 70 with (fail)
        go_cut [] from 53 to 123 (fun wd => ∃ (r1 : Rn) (B1 : Option Addr) (e1 : Nat), Hid (LR w wd b7 r1 B1 n e1 ∧ muR r1 ≤ muR r))
        case first =>
          cases gp with
          | false =>
            go_wp2
            go_meet
            case rel => exact ⟨r, A, c, HL.out, Int.le_refl _⟩
          | true =>
            have h12 : r.ph = 1 ∨ r.ph = 2 := (of_decide_eq_true HGP.out).2
            have hmg := mu_give HL.out.right h12
            obtain ⟨P, hP⟩ : ∃ P, r.give = P := ⟨_, rfl⟩
            obtain ⟨Q, E⟩ := P
            have HQ := Lib.hid hP
            rw [hP] at hmg
            simp only at hmg
            have HQR : Hid (RightR Q) := by show RightR _; have h1 := give_right HL.out.right; rw [hP] at h1; exact h1
            have HQL : Hid (Q.ms.length = n) := hmg.2.2.trans HL.out.len
            have HMG := Lib.hid hmg.1
            have HLx := HL
            clear h12 hmg hP
            go_wp2_with fail
            refine (give_is _ r.s r.v r.need r.ph HLx.out.rd HN.out.2 (P := (Q, E)) HQ.out).mono ?_
            rintro e' w4 ⟨A2, c2, he, hr9, hA9, hb9⟩
            subst he
            simp only [RVal, HQL.out] at hr9 ⊢
            obtain ⟨hlz, hbz⟩ := LR.set (c2 := c2) HLx.out hb9 hr9 (fun jj hj => by have h1 := hA9 jj hj; have h2 := lt_of_block HLx.out.row; omega) HQR.out HQL.out
            have hx4 := (hb9.block _ (lt_of_block HLx.out.row)).trans HLx.out.row
            obtain ⟨⟨g0, g1, g2, g3, g4⟩, gbl⟩ := five26 hx4
            obtain ⟨y0, y1, y2, y3, y4⟩ := thaw5 hx4
            obtain ⟨wz, hwz⟩ : ∃ z, ((((w4.setCell ⟨b7, 0, none⟩ (.int .i64 Q.s)).setCell ⟨b7, 1, none⟩ (.int .i64 Q.v)).setCell ⟨b7, 2, none⟩ (.int .i64 Q.need)).setCell ⟨b7, 3, none⟩ (.int .i64 Q.ph)).setCell ⟨b7, 4, none⟩ (.slice A2 n c2) = z := ⟨_, rfl⟩
            rw [hwz] at hlz hbz
            have HLz := Lib.hid hlz
            clear hlz hbz hr9 hA9 hb9 hx4
            go_wp2
            (try rw [hwz])
            go_meet
            case rel => exact ⟨Q, A2, c2, HLz.out, HMG.out⟩
        case rest =>
          obtain ⟨r1, B1, e1, HX⟩ := hcut
          have HL1 := Lib.hid HX.out.1
          have HM1 : Hid (muR r1 + k ≤ 3 * n + 1) := by show _ ≤ _; have h1 := HMU.out; have h2 := HX.out.2; omega
          clear HX HL HMU a0 a1 a2 a3 a4 abl HGP
          obtain ⟨⟨a0, a1, a2, a3, a4⟩, abl⟩ := five26 HL1.out.row
          go_upto_if 78 with (fail)
          go_cut [] from 53 to 123 (fun we => ∃ (r2 : Rn) (B2 : Option Addr) (e2 : Nat), Hid (LR w we b7 r2 B2 n e2 ∧ muR r2 ≤ muR r1 ∧ r2.ph ≠ 2))
          case first =>
            by_cases h2 : r1.ph = 2
            · have hmg := mu_publish HL1.out.right h2
              obtain ⟨P, hP⟩ : ∃ P, r1.publish = P := ⟨_, rfl⟩
              obtain ⟨Q, E⟩ := P
              have HQ := Lib.hid hP
              rw [hP] at hmg
              simp only at hmg
              have HQR : Hid (RightR Q) := by show RightR _; have h1 := publish_right HL1.out.right; rw [hP] at h1; exact h1
              have HQL : Hid (Q.ms.length = n) := hmg.2.2.trans HL1.out.len
              have HMG := Lib.hid (And.intro hmg.1 (show Q.ph ≠ 2 by rw [hmg.2.1]; decide))
              have HLx := HL1
              have hbt : (r1.ph == 2) = true := by simpa using h2
              clear h2 hmg hP
              go_wp2_with fail
              refine (publish_is _ r1.s r1.v r1.need r1.ph HLx.out.rd HN.out.2 (P := (Q, E)) HQ.out).mono ?_
              rintro e' w4 ⟨A2, c2, he, hr9, hA9, hb9⟩
              subst he
              simp only [RVal, HQL.out] at hr9 ⊢
              obtain ⟨hlz, hbz⟩ := LR.set (c2 := c2) HLx.out hb9 hr9 (fun jj hj => by have h1 := hA9 jj hj; have h2 := lt_of_block HLx.out.row; omega) HQR.out HQL.out
              have hx4 := (hb9.block _ (lt_of_block HLx.out.row)).trans HLx.out.row
              obtain ⟨⟨g0, g1, g2, g3, g4⟩, gbl⟩ := five26 hx4
              obtain ⟨y0, y1, y2, y3, y4⟩ := thaw5 hx4
              obtain ⟨wz, hwz⟩ : ∃ z, ((((w4.setCell ⟨b7, 0, none⟩ (.int .i64 Q.s)).setCell ⟨b7, 1, none⟩ (.int .i64 Q.v)).setCell ⟨b7, 2, none⟩ (.int .i64 Q.need)).setCell ⟨b7, 3, none⟩ (.int .i64 Q.ph)).setCell ⟨b7, 4, none⟩ (.slice A2 n c2) = z := ⟨_, rfl⟩
              rw [hwz] at hlz hbz
              have HLz := Lib.hid hlz
              clear hlz hbz hr9 hA9 hb9 hx4
              go_wp2
              (try rw [hwz])
              go_meet
              case rel => exact ⟨Q, A2, c2, HLz.out, HMG.out⟩
            · have u2 : (r1.ph == 2) = false := by simpa using h2
              have HP2 := Lib.hid h2
              clear h2
              go_wp2
              go_meet
              case rel => exact ⟨r1, B1, e1, HL1.out, Int.le_refl _, HP2.out⟩
          case rest =>
            obtain ⟨r2, B2, e2, HX⟩ := hcut
            have HL2 := Lib.hid HX.out.1
            have HM2 : Hid (muR r2 + k ≤ 3 * n + 1) := by show _ ≤ _; have h1 := HM1.out; have h2 := HX.out.2.1; omega
            have HP2 := Lib.hid HX.out.2.2
            clear HX HL1 HM1 a0 a1 a2 a3 a4 abl
            obtain ⟨⟨a0, a1, a2, a3, a4⟩, abl⟩ := five26 HL2.out.row
            go_wp2_with fail
            refine (wants_is _ r2.s r2.v r2.need r2.ph HL2.out.rd HN.out.2 rfl).mono ?_
            rintro e' w6 ⟨A6, c6, rfl, ho6, hb6⟩
            obtain ⟨wl, hwl⟩ : ∃ z, Rn.wants ⟨r2.s, r2.v, r2.need, r2.ph, r2.ms⟩ = z := ⟨_, rfl⟩
            rw [hwl] at ho6 ⊢
            have HWL := Lib.hid (show Rn.wants r2 = wl from hwl)
            clear hwl
            have HL6 := Lib.hid (HL2.out.below hb6)
            have HW6' := Lib.hid ho6.wr
            clear ho6 hb6 a0 a1 a2 a3 a4 abl
            obtain ⟨z, hz⟩ : ∃ z, wl.length = z := ⟨_, rfl⟩
            have HZ := Lib.hid hz
            rw [hz]
            have hzn : z ≤ n := by rw [← hz, ← HWL.out, ← HL2.out.len]; exact wants_len _
            rw [hz] at HW6'
            clear hz
            by_cases hz0 : z = 0
            · subst hz0
              have h46 := ended HL2.out.right HP2.out (by rw [HWL.out]; exact HZ.out)
              obtain ⟨⟨a0, a1, a2, a3, a4⟩, abl⟩ := five26 HL6.out.row
              have HWN : Hid (Rn.wants ⟨r2.s, r2.v, r2.need, r2.ph, r2.ms⟩ = []) := by show _ = _; exact (show r2.wants = [] by rw [HWL.out]; exact List.eq_nil_of_length_eq_zero HZ.out)
              rcases h46 with h46 | h46
              · have HPH := Lib.hid h46
                rw [h46] at a3
                clear h46
                go_wp2_with fail
                refine (wants_is _ r2.s r2.v r2.need 4 HL6.out.rd HN.out.2 (l := []) (by have := HWN.out; rw [HPH.out] at this; exact this)).mono ?_
                rintro e' w7 ⟨A7, c7, rfl, ho7, hb7'⟩
                simp only [List.length_nil]
                have HL7 := Lib.hid (HL6.out.below hb7')
                clear ho7 hb7' a0 a1 a2 a3 a4 abl
                go_wp2_with fail
                refine (awake_is _).mono ?_
                rintro e w9 ⟨rfl, hb9⟩
                have HB9 : Hid (Below w.heap.size w w9) := HL7.out.bel.trans (hb9.mono HL7.out.bel.size)
                clear hb9
                go_wp2
                go_ret
                exact told_mk rfl HB9.out
              · have HPH := Lib.hid h46
                rw [h46] at a3
                clear h46
                go_wp2_with fail
                refine (wants_is _ r2.s r2.v r2.need 6 HL6.out.rd HN.out.2 (l := []) (by have := HWN.out; rw [HPH.out] at this; exact this)).mono ?_
                rintro e' w7 ⟨A7, c7, rfl, ho7, hb7'⟩
                simp only [List.length_nil]
                have HL7 := Lib.hid (HL6.out.below hb7')
                clear ho7 hb7' a0 a1 a2 a3 a4 abl
                go_wp2_with fail
                refine (awake_is _).mono ?_
                rintro e w9 ⟨rfl, hb9⟩
                have HB9 : Hid (Below w.heap.size w w9) := HL7.out.bel.trans (hb9.mono HL7.out.bel.size)
                clear hb9
                go_wp2
                go_ret
                exact told_mk rfl HB9.out
            · have hz1 : ((z : Int) == 0) = false := by simpa using hz0
              have hz2 : ¬ (z : Int) = 0 := by omega
              have HZ0 : Hid (0 < z ∧ z ≤ 1000000) := by show _ ∧ _; have := HN.out; omega
              clear hz0 hzn
              go_upto_if 92 with (fail)
              go_cut [19] from 53 to 123 (fun v wf => ∃ at0 : Nat, v = .int .i64 at0 ∧ at0 < z ∧ wf = w6)
              case first =>
                by_cases hko : k < mo
                · obtain ⟨x, hx⟩ : ∃ x, l[k]? = some x := ⟨_, List.getElem?_eq_getElem (by rw [HGl.out.len]; exact hko)⟩
                  obtain ⟨adg, hGa, _, hcg⟩ := (HGl.out.below HL6.out.bel (Nat.le_refl _)).cells (by omega)
                  have cg : w6.cell? (adg.add k) = some (.int .u8 (x.toNat : Int)) := hcg k x hx
                  subst hGa
                  have hx8 : (0 : Int) ≤ (x.toNat : Int) ∧ (x.toNat : Int) < 256 := by have := x.toNat_lt; omega
                  have hx81 := hx8.1
                  have hx82 := hx8.2
                  have hwx : IntKind.i64.wrap (x.toNat : Int) = (x.toNat : Int) := IntWalk.i64_in _ (by omega)
                  have hko1 : (0 : Int) ≤ (k : Int) := by omega
                  have hko2 : (k : Int) < (mo : Int) := by omega
                  obtain ⟨q, hq⟩ : ∃ q, x.toNat % z = q := ⟨_, rfl⟩
                  have HQ : Hid (q < z) := by show _ < _; rw [← hq]; exact Nat.mod_lt _ HZ0.out.1
                  have hxz : (x.toNat : Int) % (z : Int) = (q : Int) := by rw [← hq]; exact (Int.natCast_emod x.toNat z).symm
                  have htm : (x.toNat : Int).tmod (z : Int) = (q : Int) := by rw [Int.tmod_eq_emod_of_nonneg (by omega)]; exact hxz
                  have hwq : IntKind.i64.wrap (q : Int) = (q : Int) := IntWalk.i64_in _ (by have := HZ0.out; have := HQ.out; omega)
                  clear hx hcg hq hko
                  go_wp2
                  go_meet
                  case rel => exact ⟨q, rfl, HQ.out, by first | trivial | rfl⟩
                · have hko2 : ¬ (k : Int) < (mo : Int) := by omega
                  have hd2 : decide (k < mo) = false := decide_eq_false hko
                  have HQ : Hid (0 < z) := HZ0.out.1
                  go_wp2
                  go_meet
                  case rel => exact ⟨0, rfl, HQ.out, by first | trivial | rfl⟩
              case rest =>
                obtain ⟨at0, rfl, hat, rfl⟩ := hcut
                obtain ⟨x, hx⟩ : ∃ x, wl[at0]? = some x := ⟨_, List.getElem?_eq_getElem (by rw [HZ.out]; exact hat)⟩
                have hmem : x ∈ r2.wants := by rw [HWL.out]; exact List.mem_of_getElem? hx
                obtain ⟨ht0, hmt⟩ := mu_told HL2.out.right HP2.out hmem
                obtain ⟨adw, hAw, hbw, hload, d0, d1⟩ := HW6'.out.get hx
                subst hAw
                obtain ⟨x0, x1⟩ := x
                simp only at d0 d1 hload ht0 hmt
                obtain ⟨Q, hQ⟩ : ∃ q, (r2.told x0 x1 0).1 = q := ⟨_, rfl⟩
                have HQ : Hid (Rn.told ⟨r2.s, r2.v, r2.need, r2.ph, r2.ms⟩ x0 x1 0 = (Q, 0)) := Prod.ext hQ ht0
                rw [hQ] at hmt
                have HQL : Hid (Q.ms.length = n) := by show _ = _; rw [← hQ]; exact (told_len _ _ _).1.trans HL2.out.len
                have HQR : Hid (RightR Q) := by
                  show RightR _
                  have hm2 := wants_mem hmem
                  have h1 := told_right (r := r2) (i := x0) ⟨HL2.out.right, hm2.1, hm2.2.1⟩ x1 0
                  rw [hQ] at h1
                  exact h1
                have HMT := Lib.hid hmt
                have HSR : Hid (decide (SameR Q r2) = false) := decide_eq_false (fun h => by rw [h.eq] at hmt; omega)
                have hi1 : (0 : Int) ≤ (at0 : Int) := by omega
                have hi2 : (at0 : Int) < (z : Int) := by omega
                have HAT : Hid (at0 < z) := hat
                have HWC : Hid (∀ v, Below wc.heap.size wc v → v.cell? (adw.add (at0 * 2)) = some (.int .i64 x0) ∧ v.cell? ⟨(adw.add (at0 * 2)).block, (adw.add (at0 * 2)).off + 1, none⟩ = some (.int .u8 x1)) := fun v hv => ⟨(hv.cell (block_lt_of_cell d0)).trans d0, (hv.cell (block_lt_of_cell d1)).trans d1⟩
                clear hx hmem ht0 hmt hload d0 d1 hbw hQ hat
                go_upto_region 22 with (fail)
                go_cut [20, 21] from 53 to 123 (fun p x wg => ∃ (bb : Nat) (A2 : Option Addr) (c2 : Nat), p = .pointer (some ⟨bb, 0, none⟩) ∧ x = .int .i64 0 ∧ Hid (DCut wc wg bb Q A2 n c2))
                case first =>
                  refine wp_region_held_drew (S := fun v => Below wc.heap.size wc v) (by kernel_rfl) (((Below.refl wc.heap.size wc).drew)) (fun hHeld => ?_)
                  refine wpAnyH_take (i := 0) (oi := ⟨some 102, _, _, _, _, _⟩) (v := ?_) rfl (by kernel_rfl) (by kernel_rfl) (by kernel_rfl) (fun _ _ _ h => h) (Or.inl ⟨by rfl, ?_⟩) (by assumption) ?_
                  rotate_left
                  · intro w hSw
                    obtain ⟨⟨kk0, kk1, kk2, kk3, kk4⟩, kkl⟩ := five26 ((hSw.block _ (lt_of_block HL6.out.row)).trans HL6.out.row)
                    go_simp
                    all_goals (with_reducible rfl)
                  try simp only [Act.put, List.setIfInBounds_toArray, List.set_cons_zero, List.set_cons_succ]
                  refine wpAnyH_take (i := 1) (oi := ⟨some 103, _, _, _, _, _⟩) (v := ?_) rfl (by kernel_rfl) (by kernel_rfl) (by kernel_rfl) (fun _ _ _ h => h) (Or.inl ⟨by rfl, ?_⟩) (by assumption) ?_
                  rotate_left
                  · intro w hSw
                    (try dsimp only at hSw)
                    go_simp
                    all_goals (with_reducible rfl)
                  try simp only [Act.put, List.setIfInBounds_toArray, List.set_cons_zero, List.set_cons_succ]
                  refine wpAnyH_take (i := 2) (oi := ⟨some 104, _, _, _, _, _⟩) (v := ?_) rfl (by kernel_rfl) (by kernel_rfl) (by kernel_rfl) (fun _ _ _ h => h) (Or.inl ⟨by rfl, ?_⟩) (by assumption) ?_
                  rotate_left
                  · intro w hSw
                    (try dsimp only at hSw)
                    go_simp
                    all_goals (with_reducible rfl)
                  try simp only [Act.put, List.setIfInBounds_toArray, List.set_cons_zero, List.set_cons_succ]
                  refine wpAnyH_take (i := 3) (oi := ⟨some 105, _, _, _, _, _⟩) (v := ?_) rfl (by kernel_rfl) (by kernel_rfl) (by kernel_rfl) (fun _ _ _ h => h) (Or.inl ⟨by rfl, ?_⟩) (by assumption) ?_
                  rotate_left
                  · intro w hSw
                    (try dsimp only at hSw)
                    go_simp
                    all_goals (with_reducible rfl)
                  try simp only [Act.put, List.setIfInBounds_toArray, List.set_cons_zero, List.set_cons_succ]
                  refine wpAnyH_take (i := 4) (oi := ⟨some 106, _, _, _, _, _⟩) (v := ?_) rfl (by kernel_rfl) (by kernel_rfl) (by kernel_rfl) (fun _ _ _ h => h) (Or.inl ⟨by rfl, ?_⟩) (by assumption) ?_
                  rotate_left
                  · intro w hSw
                    (try dsimp only at hSw)
                    go_simp
                    all_goals (with_reducible rfl)
                  try simp only [Act.put, List.setIfInBounds_toArray, List.set_cons_zero, List.set_cons_succ]
                  refine wpAnyH_take (i := 5) (oi := ⟨some 107, _, _, _, _, _⟩) (v := ?_) rfl (by kernel_rfl) (by kernel_rfl) (by kernel_rfl) (fun _ _ _ h => h) (Or.inl ⟨by rfl, ?_⟩) (by assumption) ?_
                  rotate_left
                  · intro w hSw
                    obtain ⟨cc0, cc1⟩ := HWC.out w hSw
                    go_simp
                    all_goals (with_reducible rfl)
                  try simp only [Act.put, List.setIfInBounds_toArray, List.set_cons_zero, List.set_cons_succ]
                  refine wpAnyH_take (i := 6) (oi := ⟨some 108, _, _, _, _, _⟩) (v := ?_) rfl (by kernel_rfl) (by kernel_rfl) (by kernel_rfl) (fun _ _ _ h => h) (Or.inl ⟨by rfl, ?_⟩) (by assumption) ?_
                  rotate_left
                  · intro w hSw
                    (try dsimp only at hSw)
                    go_simp
                    all_goals (with_reducible rfl)
                  try simp only [Act.put, List.setIfInBounds_toArray, List.set_cons_zero, List.set_cons_succ]
                  refine wpAnyH_take (i := 7) (oi := ⟨some 109, _, _, _, _, _⟩) (v := ?_) rfl (by kernel_rfl) (by kernel_rfl) (by kernel_rfl) (fun _ _ _ h => h) (Or.inl ⟨by rfl, ?_⟩) (by assumption) ?_
                  rotate_left
                  · intro w hSw
                    (try dsimp only at hSw)
                    go_simp
                    all_goals (with_reducible rfl)
                  try simp only [Act.put, List.setIfInBounds_toArray, List.set_cons_zero, List.set_cons_succ]
                  refine wpAnyH_take (i := 8) (oi := ⟨some 110, _, _, _, _, _⟩) (v := ?_) rfl (by kernel_rfl) (by kernel_rfl) (by kernel_rfl) (fun _ _ _ h => h) (Or.inl ⟨by rfl, ?_⟩) (by assumption) ?_
                  rotate_left
                  · intro w hSw
                    (try dsimp only at hSw)
                    go_simp
                    all_goals (with_reducible rfl)
                  try simp only [Act.put, List.setIfInBounds_toArray, List.set_cons_zero, List.set_cons_succ]
                  refine wpAnyH_take (i := 9) (oi := ⟨some 111, _, _, _, _, _⟩) (v := ?_) rfl (by kernel_rfl) (by kernel_rfl) (by kernel_rfl) (fun _ _ _ h => h) (Or.inl ⟨by rfl, ?_⟩) (by assumption) ?_
                  rotate_left
                  · intro w hSw
                    (try dsimp only at hSw)
                    go_simp
                    all_goals (with_reducible rfl)
                  try simp only [Act.put, List.setIfInBounds_toArray, List.set_cons_zero, List.set_cons_succ]
                  refine wpAnyH_take (i := 10) (oi := ⟨some 112, _, _, _, _, _⟩) (v := ?_) rfl (by kernel_rfl) (by kernel_rfl) (by kernel_rfl) (fun _ _ _ h => h) (Or.inl ⟨by rfl, ?_⟩) (by assumption) ?_
                  rotate_left
                  · intro w hSw
                    obtain ⟨cc0, cc1⟩ := HWC.out w hSw
                    go_simp
                    all_goals (with_reducible rfl)
                  try simp only [Act.put, List.setIfInBounds_toArray, List.set_cons_zero, List.set_cons_succ]
                  refine wpAnyH_ready (rs := [11, 15]) (by kernel_rfl) (by simp) (AllReadyH.cons (o := ⟨some 113, _, _, _, _, _⟩) rfl (fun K hK => ?_) (AllReadyH.cons (o := ⟨some 20, _, _, _, _, _⟩) rfl (fun K hK => ?_) AllReadyH.nil))
                  · go_simp
                    refine (told_is _ r2.s r2.v r2.need r2.ph x0 x1 0 (HL6.out.rd.drew) HN.out.2 (P := (Q, 0)) HQ.out).mono ?_
                    rintro e' w4 ⟨A2, c2, he, hr9, hA9, hb9⟩
                    subst he
                    simp only [RVal, HQL.out] at hr9 ⊢
                    have B4 : Hid (Below wc.heap.size wc w4) := ((Below.refl wc.heap.size wc).drew).trans hb9
                    have H9 := Lib.hid (And.intro hr9 hA9)
                    clear hr9 hA9 hb9
                    refine hK.out _ _ (B4.out) (fun hHeld => ?_)
                    clear hK K
                    try simp only [Act.put, List.setIfInBounds_toArray, List.set_cons_zero, List.set_cons_succ]
                    refine wpAnyH_take (i := 12) (oi := ⟨some 101, _, _, _, _, _⟩) (v := ?_) rfl (by kernel_rfl) (by kernel_rfl) (by kernel_rfl) (fun _ _ _ h => h) (Or.inl ⟨by rfl, ?_⟩) (by assumption) ?_
                    rotate_left
                    · intro w hSw
                      (try dsimp only at hSw)
                      go_simp
                      all_goals (with_reducible rfl)
                    try simp only [Act.put, List.setIfInBounds_toArray, List.set_cons_zero, List.set_cons_succ]
                    refine wpAnyH_take (i := 13) (oi := ⟨some 114, _, _, _, _, _⟩) (v := ?_) rfl (by kernel_rfl) (by kernel_rfl) (by kernel_rfl) (fun _ _ _ h => h) (Or.inl ⟨by rfl, ?_⟩) (by assumption) ?_
                    rotate_left
                    · intro w hSw
                      (try dsimp only at hSw)
                      go_simp
                      all_goals (with_reducible rfl)
                    try simp only [Act.put, List.setIfInBounds_toArray, List.set_cons_zero, List.set_cons_succ]
                    refine wpAnyH_take (i := 14) (oi := ⟨some 115, _, _, _, _, _⟩) (v := ?_) rfl (by kernel_rfl) (by kernel_rfl) (by kernel_rfl) (fun _ _ _ h => h) (Or.inl ⟨by rfl, ?_⟩) (by assumption) ?_
                    rotate_left
                    · intro w hSw
                      (try dsimp only at hSw)
                      go_simp
                      all_goals (with_reducible rfl)
                    try simp only [Act.put, List.setIfInBounds_toArray, List.set_cons_zero, List.set_cons_succ]
                    refine wpAnyH_ready (rs := [15]) (by kernel_rfl) (by simp) (AllReadyH.cons (o := ⟨some 20, _, _, _, _, _⟩) rfl (fun K hK => ?_) AllReadyH.nil)
                    go_simp
                    obtain ⟨bb, hbb⟩ : ∃ z, w4.heap.size = z := ⟨_, rfl⟩
                    obtain ⟨va, hva⟩ : ∃ z, w4.alloc (.cells #[.int .i64 0, .int .i64 0, .int .i64 0, .int .i64 0, .slice none 0 0] 26) = z := ⟨_, rfl⟩
                    obtain ⟨hba, hx⟩ := box_new hva
                    rw [hbb] at hx
                    have HD := Lib.hid (fill5 (wr := wc) (Q := Q) (c := c2) hx (H9.out.1.below hba (Nat.le_refl _)) (fun jj hj => ⟨H9.out.2 jj hj, by
                      obtain ⟨ad9, e9, h1, _⟩ := H9.out.1.cells HN.out.1
                      rw [e9] at hj
                      simp at hj
                      omega⟩) (B4.out.trans (hba.mono B4.out.size)) (by have := B4.out.size; omega))
                    have Bva : Hid (Below wc.heap.size wc va) := B4.out.trans (hba.mono B4.out.size)
                    clear hba
                    refine hK.out _ _ (by rw [hva]; exact Bva.out) (fun hHeld => ?_)
                    clear hK K
                    try simp only [Act.put, List.setIfInBounds_toArray, List.set_cons_zero, List.set_cons_succ]
                    rw [hva, hbb]
                    clear hHeld
                    have hHeld : Below wc.heap.size wc va := Bva.out
                    clear hva hbb Bva B4 H9
                    obtain ⟨⟨z0, z1, z2, z3, z4⟩, zbl⟩ := five26 hx
                    obtain ⟨y0, y1, y2, y3, y4⟩ := thaw5 hx
                    refine wpAnyH_ready (rs := [16]) (by kernel_rfl) (by simp) (AllReadyH.cons (o := ⟨none, _, _, _, _, _⟩) rfl (fun K hK => ?_) AllReadyH.nil)
                    go_simp
                    refine hK.out _ _ (HD.out.bel) (fun hHeld => ?_)
                    clear hK K
                    try simp only [Act.put, List.setIfInBounds_toArray, List.set_cons_zero, List.set_cons_succ]
                    refine wpAnyH_take (i := 17) (oi := ⟨some 21, _, _, _, _, _⟩) (v := ?_) rfl (by kernel_rfl) (by kernel_rfl) (by kernel_rfl) (fun _ _ _ h => h) (Or.inl ⟨by rfl, ?_⟩) (by assumption) ?_
                    rotate_left
                    · intro w hSw
                      (try dsimp only at hSw)
                      go_simp
                      all_goals (with_reducible rfl)
                    try simp only [Act.put, List.setIfInBounds_toArray, List.set_cons_zero, List.set_cons_succ]
                    refine wpAnyH_done (by kernel_rfl) ?_ _
                    clear z0 z1 z2 z3 z4 zbl y0 y1 y2 y3 y4 hx hHeld
                    go_wp2
                    go_meet
                    case rel => exact ⟨bb, A2, c2, rfl, rfl, HD.out⟩
                  · go_simp
                    obtain ⟨bb, hbb⟩ : ∃ z, wc.heap.size = z := ⟨_, rfl⟩
                    obtain ⟨va, hva⟩ : ∃ z, (wc.alloc (.cells #[.int .i64 0, .int .i64 0, .int .i64 0, .int .i64 0, .slice none 0 0] 26)).drew = z := ⟨_, rfl⟩
                    have Bva : Hid (Below wc.heap.size wc va) := hva ▸ ((Below.refl wc.heap.size wc).alloc (Nat.le_refl _) _).drew
                    have hxv : va.heap[bb]? = some (.cells #[.int .i64 0, .int .i64 0, .int .i64 0, .int .i64 0, .slice none 0 0] 26 (0, 0)) := by rw [← hva, ← hbb]; exact heap_alloc_new wc _
                    have hsz : va.heap.size = bb + 1 := by rw [← hva, ← hbb]; simp
                    refine hK.out _ _ (by first | (rw [hva]; exact Bva.out) | exact hva ▸ Bva.out) (fun hHeld => ?_)
                    clear hK K
                    try simp only [Act.put, List.setIfInBounds_toArray, List.set_cons_zero, List.set_cons_succ]
                    rw [hva, hbb]
                    clear hHeld
                    have hHeld : Below wc.heap.size wc va := Bva.out
                    have HV := Lib.hid (And.intro hxv (And.intro hsz hbb))
                    clear hva hbb hxv hsz
                    refine wpAnyH_ready (rs := [11]) (by kernel_rfl) (by simp) (AllReadyH.cons (o := ⟨some 113, _, _, _, _, _⟩) rfl (fun K hK => ?_) AllReadyH.nil)
                    go_simp
                    refine (told_is _ r2.s r2.v r2.need r2.ph x0 x1 0 (HL6.out.rd.below Bva.out (Nat.le_refl _)) HN.out.2 (P := (Q, 0)) HQ.out).mono ?_
                    rintro e' w4 ⟨A2, c2, he, hr9, hA9, hb9⟩
                    subst he
                    simp only [RVal, HQL.out] at hr9 ⊢
                    have hx := (hb9.block _ (lt_of_block HV.out.1)).trans HV.out.1
                    have HD := Lib.hid (fill5 (wr := wc) (Q := Q) (c := c2) hx hr9 (fun jj hj => by have h1 := hA9 jj hj; have h2 := HV.out.2; omega) (Bva.out.trans (hb9.mono Bva.out.size)) (by have h2 := HV.out.2; omega))
                    have B4 : Hid (Below wc.heap.size wc w4) := Bva.out.trans (hb9.mono Bva.out.size)
                    clear hr9 hA9 hb9
                    refine hK.out _ _ (by have h := B4.out; rw [HV.out.2.2] at h; exact h) (fun hHeld => ?_)
                    clear hK K
                    try simp only [Act.put, List.setIfInBounds_toArray, List.set_cons_zero, List.set_cons_succ]
                    clear B4 Bva
                    refine wpAnyH_take (i := 12) (oi := ⟨some 101, _, _, _, _, _⟩) (v := ?_) rfl (by kernel_rfl) (by kernel_rfl) (by kernel_rfl) (fun _ _ _ h => h) (Or.inl ⟨by rfl, ?_⟩) (by assumption) ?_
                    rotate_left
                    · intro w hSw
                      (try dsimp only at hSw)
                      go_simp
                      all_goals (with_reducible rfl)
                    try simp only [Act.put, List.setIfInBounds_toArray, List.set_cons_zero, List.set_cons_succ]
                    refine wpAnyH_take (i := 13) (oi := ⟨some 114, _, _, _, _, _⟩) (v := ?_) rfl (by kernel_rfl) (by kernel_rfl) (by kernel_rfl) (fun _ _ _ h => h) (Or.inl ⟨by rfl, ?_⟩) (by assumption) ?_
                    rotate_left
                    · intro w hSw
                      (try dsimp only at hSw)
                      go_simp
                      all_goals (with_reducible rfl)
                    try simp only [Act.put, List.setIfInBounds_toArray, List.set_cons_zero, List.set_cons_succ]
                    refine wpAnyH_take (i := 14) (oi := ⟨some 115, _, _, _, _, _⟩) (v := ?_) rfl (by kernel_rfl) (by kernel_rfl) (by kernel_rfl) (fun _ _ _ h => h) (Or.inl ⟨by rfl, ?_⟩) (by assumption) ?_
                    rotate_left
                    · intro w hSw
                      (try dsimp only at hSw)
                      go_simp
                      all_goals (with_reducible rfl)
                    try simp only [Act.put, List.setIfInBounds_toArray, List.set_cons_zero, List.set_cons_succ]
                    obtain ⟨⟨z0, z1, z2, z3, z4⟩, zbl⟩ := five26 hx
                    obtain ⟨y0, y1, y2, y3, y4⟩ := thaw5 hx
                    refine wpAnyH_ready (rs := [16]) (by kernel_rfl) (by simp) (AllReadyH.cons (o := ⟨none, _, _, _, _, _⟩) rfl (fun K hK => ?_) AllReadyH.nil)
                    go_simp
                    refine hK.out _ _ (by have h := HD.out.bel; rw [HV.out.2.2] at h; exact h) (fun hHeld => ?_)
                    clear hK K
                    try simp only [Act.put, List.setIfInBounds_toArray, List.set_cons_zero, List.set_cons_succ]
                    refine wpAnyH_take (i := 17) (oi := ⟨some 21, _, _, _, _, _⟩) (v := ?_) rfl (by kernel_rfl) (by kernel_rfl) (by kernel_rfl) (fun _ _ _ h => h) (Or.inl ⟨by rfl, ?_⟩) (by assumption) ?_
                    rotate_left
                    · intro w hSw
                      (try dsimp only at hSw)
                      go_simp
                      all_goals (with_reducible rfl)
                    try simp only [Act.put, List.setIfInBounds_toArray, List.set_cons_zero, List.set_cons_succ]
                    refine wpAnyH_done (by kernel_rfl) ?_ _
                    clear z0 z1 z2 z3 z4 zbl y0 y1 y2 y3 y4 hx hHeld
                    go_wp2
                    go_meet
                    case rel => exact ⟨bb, A2, c2, rfl, rfl, HD.out⟩
                case rest =>
                  obtain ⟨bb, A2, c2, rfl, rfl, HD⟩ := hcut
                  have HL7 := Lib.hid (HL6.out.below HD.out.bel)
                  obtain ⟨⟨e0', e1', e2', e3', e4'⟩, ebl⟩ := five26 HD.out.row
                  obtain ⟨⟨f0, f1, f2, f3, f4⟩, fbl⟩ := five26 HL7.out.row
                  have HB : Hid (bb ≠ b7) := by show bb ≠ b7; have h1 := HD.out.le; have h2 := lt_of_block HL6.out.row; omega
                  go_wp2_with fail
                  refine (sameR_is _ Q.s Q.v Q.need Q.ph r2.s r2.v r2.need r2.ph HD.out.rd HL7.out.rd HN.out.2 (q := false) HSR.out).mono ?_
                  rintro e' w8 ⟨rfl, hb8⟩
                  have HL8 := Lib.hid (HL7.out.below hb8)
                  have hxb := (hb8.block _ (lt_of_block HD.out.row)).trans HD.out.row
                  have hrb := HD.out.rd.below hb8 (Nat.le_refl _)
                  clear e0' e1' e2' e3' e4' ebl f0 f1 f2 f3 f4 fbl
                  obtain ⟨⟨e0', e1', e2', e3', e4'⟩, ebl⟩ := five26 hxb
                  obtain ⟨⟨f0, f1, f2, f3, f4⟩, fbl⟩ := five26 HL8.out.row
                  obtain ⟨t0, t1, t2, t3, t4⟩ := thaw5 HL8.out.row
                  have hne := HB.out
                  have hne' := hne.symm
                  obtain ⟨wz, hwz⟩ : ∃ z, ((((w8.setCell ⟨b7, 0, none⟩ (.int .i64 Q.s)).setCell ⟨b7, 1, none⟩ (.int .i64 Q.v)).setCell ⟨b7, 2, none⟩ (.int .i64 Q.need)).setCell ⟨b7, 3, none⟩ (.int .i64 Q.ph)).setCell ⟨b7, 4, none⟩ (.slice A2 n c2) = z := ⟨_, rfl⟩
                  obtain ⟨hlz, hbz⟩ := LR.set (c2 := c2) HL8.out (Below.refl _ _) hrb (fun jj hj => by have h1 := (HD.out.fresh jj hj).1; have h2 := lt_of_block HL6.out.row; omega) HQR.out HQL.out
                  rw [hwz] at hlz hbz
                  have HLz := Lib.hid hlz
                  have hk4 : k + 1 ≤ 3 * n + 1 := by have h1 := HM2.out; have h2 := HMT.out; have h3 := (mu_b HQR.out).1; omega
                  have HMz : Hid (muR Q + ((k + 1 : Nat) : Int) ≤ 3 * n + 1) := by show _ ≤ _; have h1 := HM2.out; have h2 := HMT.out; omega
                  clear hlz hbz hxb hrb hb8
                  go_wp2
                  (try rw [hwz])
                  go_roundg (3 * n + 2 - (k + 1))
                  case measure => omega
                  case rel => exact ⟨k + 1, Q, A2, c2, hk4, by omega, by go_num, HLz, HMz⟩
end
end Go.Proofs.Ytciihebaameccaa
