/- RoundWants' walk. -/
import Derived.Test.YtciihebaameccaaRndM
import Derived.Test.YtciihebaameccaaRndW
import Derived.Deep.CutRange
import Derived.Deep.CutBlock
namespace Go.Proofs.Ytciihebaameccaa
open Go.RowKit Go.Coop
set_option maxRecDepth 100000
section
variable (w : World)
set_option maxHeartbeats 1000000 in
theorem wants_law (n0 d0 : Int) (hn0 : 0 ≤ n0 ∧ n0 ≤ 255) (hd0 : 0 ≤ d0 ∧ d0 ≤ 255) {F : Option Addr} {m cF : Nat} {os : List OpR} (hF : OpsAt w F m os) : Calls Try.prog 9 #[.int .u8 n0, .int .u8 d0, .slice F m cF] w (Told w true) := by
  have HF := Lib.hid hF
  clear hF
  go_enter Try.func9, Try.ntmps9
  go_wp2_with fail
  refine (begun_is _ n0 d0 hn0 hd0).mono ?_
  rintro e w1 ⟨A1, c1, rfl, hr1, hb1⟩
  obtain ⟨r0, hr0⟩ : ∃ r, Bg n0 d0 = r := ⟨_, rfl⟩
  have HR0 := Lib.hid (hr0 ▸ bg_right n0 d0)
  have HLEN := Lib.hid (show r0.ms.length = manyOf n0 from hr0 ▸ bg_len n0 d0)
  rw [hr0] at hr1 ⊢
  obtain ⟨n, hn⟩ : ∃ n, manyOf n0 = n := ⟨_, rfl⟩
  rw [hn] at HLEN
  have HN : Hid (0 < n ∧ n ≤ 1000000) := by show _ ∧ _; have := (manyOf_b (n := n0)).2; omega
  simp only [RVal, HLEN.out] at hr1 ⊢
  have HR00 := Lib.hid hr0
  have HNN := Lib.hid hn
  clear hr0 hn
  obtain ⟨b7, hb7⟩ : ∃ b, w1.heap.size = b := ⟨_, rfl⟩
  obtain ⟨w2, hw2⟩ : ∃ z, w1.alloc (.cells #[.int .i64 r0.s, .int .i64 r0.v, .int .i64 r0.need, .int .i64 r0.ph, .slice A1 n c1] 26) = z := ⟨_, rfl⟩
  obtain ⟨hb2, hx2⟩ := box_new hw2
  rw [hb7] at hx2
  have HL0 : Hid (LR w w2 b7 r0 A1 n c1) := ⟨hx2, hr1.below hb2 (Nat.le_refl _), HR0.out, HLEN.out, hb1.trans (hb2.mono hb1.size), by have := hb1.size; omega⟩
  clear hx2 hr1 hb1 hb2
  go_wp2
  (try rw [hw2]); (try rw [hb7])
  clear hw2 hb7
  go_loopg [10, 11, 12, 13, 14, 16] m (fun kx s10 _ _ _ _ _ wr => ∃ (j : Nat) (r : Rn) (A : Option Addr) (c : Nat), j ≤ m ∧ m - j ≤ kx ∧ s10 = .int .i64 j ∧ Hid (LR w wr b7 r A n c))
  case atStart => exact ⟨0, r0, A1, c1, Nat.zero_le _, by omega, rfl, HL0⟩
  case round =>
    clear HL0 HR0 HLEN HR00 HNN hn0 hd0
    obtain ⟨j, r, A, c, hj, hk, rfl, HL⟩ := hrel
    by_cases hlt : j < m
    · by_cases h60 : j < 60
      · have hj6 : (j : Int) < 60 := by omega
        have hw1 : IntKind.i64.wrap ((j : Int) + 1) = (j : Int) + 1 := IntWalk.i64_in _ (by omega)
        obtain ⟨o, ad, ho, hFa, hst⟩ := (HF.out.below HL.out.bel (Nat.le_refl _)).step hlt
        subst hFa
        have HST := Lib.hid hst
        obtain ⟨P, hP⟩ : ∃ P, r.does o = P := ⟨_, rfl⟩
        obtain ⟨Q, E⟩ := P
        have HQ := Lib.hid hP
        have HQL : Hid (Q.ms.length = n) := by show _ = _; have h1 := (does_len (r := r) o).1; rw [hP] at h1; exact h1.trans HL.out.len
        have HQR : Hid (RightR Q) := by show RightR _; have h1 := does_right HL.out.right o; rw [hP] at h1; exact h1
        have hi1 : (0 : Int) ≤ (j : Int) := by omega
        have hi2 : (j : Int) < (m : Int) := by omega
        clear ho hst hP
        go_upto_region 7 with (fail)
        go_cut [11, 12] from 26 to 100 (fun p x wc => ∃ (bb : Nat) (A2 : Option Addr) (c2 : Nat), p = .pointer (some ⟨bb, 0, none⟩) ∧ x = .int .i64 E ∧ Hid (DCut wr wc bb Q A2 n c2))
        case first =>
          refine wp_region_held_drew (S := fun v => Below wr.heap.size wr v) (by kernel_rfl) (((Below.refl wr.heap.size wr).drew)) (fun hHeld => ?_)
          refine wpAnyH_take (i := 0) (oi := ⟨some 37, _, _, _, _, _⟩) (v := ?_) rfl (by kernel_rfl) (by kernel_rfl) (by kernel_rfl) (fun _ _ _ h => h) (Or.inl ⟨by rfl, ?_⟩) (by assumption) ?_
          rotate_left
          · intro w hSw
            obtain ⟨⟨kk0, kk1, kk2, kk3, kk4⟩, kkl⟩ := five26 ((hSw.block _ (lt_of_block HL.out.row)).trans HL.out.row)
            go_simp
            all_goals (with_reducible rfl)
          try simp only [Act.put, List.setIfInBounds_toArray, List.set_cons_zero, List.set_cons_succ]
          refine wpAnyH_take (i := 1) (oi := ⟨some 38, _, _, _, _, _⟩) (v := ?_) rfl (by kernel_rfl) (by kernel_rfl) (by kernel_rfl) (fun _ _ _ h => h) (Or.inl ⟨by rfl, ?_⟩) (by assumption) ?_
          rotate_left
          · intro w hSw
            (try dsimp only at hSw)
            go_simp
            all_goals (with_reducible rfl)
          try simp only [Act.put, List.setIfInBounds_toArray, List.set_cons_zero, List.set_cons_succ]
          refine wpAnyH_take (i := 2) (oi := ⟨some 39, _, _, _, _, _⟩) (v := ?_) rfl (by kernel_rfl) (by kernel_rfl) (by kernel_rfl) (fun _ _ _ h => h) (Or.inl ⟨by rfl, ?_⟩) (by assumption) ?_
          rotate_left
          · intro w hSw
            (try dsimp only at hSw)
            go_simp
            all_goals (with_reducible rfl)
          try simp only [Act.put, List.setIfInBounds_toArray, List.set_cons_zero, List.set_cons_succ]
          refine wpAnyH_take (i := 3) (oi := ⟨some 40, _, _, _, _, _⟩) (v := ?_) rfl (by kernel_rfl) (by kernel_rfl) (by kernel_rfl) (fun _ _ _ h => h) (Or.inl ⟨by rfl, ?_⟩) (by assumption) ?_
          rotate_left
          · intro w hSw
            (try dsimp only at hSw)
            go_simp
            all_goals (with_reducible rfl)
          try simp only [Act.put, List.setIfInBounds_toArray, List.set_cons_zero, List.set_cons_succ]
          refine wpAnyH_take (i := 4) (oi := ⟨some 41, _, _, _, _, _⟩) (v := ?_) rfl (by kernel_rfl) (by kernel_rfl) (by kernel_rfl) (fun _ _ _ h => h) (Or.inl ⟨by rfl, ?_⟩) (by assumption) ?_
          rotate_left
          · intro w hSw
            obtain ⟨cc0, cc1, cc2, cc3⟩ := HST.out w hSw
            go_simp
            all_goals (with_reducible rfl)
          try simp only [Act.put, List.setIfInBounds_toArray, List.set_cons_zero, List.set_cons_succ]
          refine wpAnyH_ready (rs := [5, 9]) (by kernel_rfl) (by simp) (AllReadyH.cons (o := ⟨some 42, _, _, _, _, _⟩) rfl (fun K hK => ?_) (AllReadyH.cons (o := ⟨some 11, _, _, _, _, _⟩) rfl (fun K hK => ?_) AllReadyH.nil))
          · go_simp
            refine (does_is _ r.s r.v r.need r.ph (HL.out.rd.drew) HN.out.2 o.kd o.ix o.op o.e (P := (Q, E)) HQ.out).mono ?_
            rintro e' w4 ⟨A2, c2, he, hr9, hA9, hb9⟩
            subst he
            simp only [RVal, HQL.out] at hr9 ⊢
            have B4 : Hid (Below wr.heap.size wr w4) := ((Below.refl wr.heap.size wr).drew).trans hb9
            have H9 := Lib.hid (And.intro hr9 hA9)
            clear hr9 hA9 hb9
            refine hK.out _ _ (B4.out) (fun hHeld => ?_)
            clear hK K
            try simp only [Act.put, List.setIfInBounds_toArray, List.set_cons_zero, List.set_cons_succ]
            refine wpAnyH_take (i := 6) (oi := ⟨some 36, _, _, _, _, _⟩) (v := ?_) rfl (by kernel_rfl) (by kernel_rfl) (by kernel_rfl) (fun _ _ _ h => h) (Or.inl ⟨by rfl, ?_⟩) (by assumption) ?_
            rotate_left
            · intro w hSw
              (try dsimp only at hSw)
              go_simp
              all_goals (with_reducible rfl)
            try simp only [Act.put, List.setIfInBounds_toArray, List.set_cons_zero, List.set_cons_succ]
            refine wpAnyH_take (i := 7) (oi := ⟨some 43, _, _, _, _, _⟩) (v := ?_) rfl (by kernel_rfl) (by kernel_rfl) (by kernel_rfl) (fun _ _ _ h => h) (Or.inl ⟨by rfl, ?_⟩) (by assumption) ?_
            rotate_left
            · intro w hSw
              (try dsimp only at hSw)
              go_simp
              all_goals (with_reducible rfl)
            try simp only [Act.put, List.setIfInBounds_toArray, List.set_cons_zero, List.set_cons_succ]
            refine wpAnyH_take (i := 8) (oi := ⟨some 44, _, _, _, _, _⟩) (v := ?_) rfl (by kernel_rfl) (by kernel_rfl) (by kernel_rfl) (fun _ _ _ h => h) (Or.inl ⟨by rfl, ?_⟩) (by assumption) ?_
            rotate_left
            · intro w hSw
              (try dsimp only at hSw)
              go_simp
              all_goals (with_reducible rfl)
            try simp only [Act.put, List.setIfInBounds_toArray, List.set_cons_zero, List.set_cons_succ]
            refine wpAnyH_ready (rs := [9]) (by kernel_rfl) (by simp) (AllReadyH.cons (o := ⟨some 11, _, _, _, _, _⟩) rfl (fun K hK => ?_) AllReadyH.nil)
            go_simp
            obtain ⟨bb, hbb⟩ : ∃ z, w4.heap.size = z := ⟨_, rfl⟩
            obtain ⟨va, hva⟩ : ∃ z, w4.alloc (.cells #[.int .i64 0, .int .i64 0, .int .i64 0, .int .i64 0, .slice none 0 0] 26) = z := ⟨_, rfl⟩
            obtain ⟨hba, hx⟩ := box_new hva
            rw [hbb] at hx
            have HD := Lib.hid (fill5 (wr := wr) (Q := Q) (c := c2) hx (H9.out.1.below hba (Nat.le_refl _)) (fun jj hj => ⟨H9.out.2 jj hj, by
              obtain ⟨ad9, e9, h1, _⟩ := H9.out.1.cells HN.out.1
              rw [e9] at hj
              simp at hj
              omega⟩) (B4.out.trans (hba.mono B4.out.size)) (by have := B4.out.size; omega))
            have Bva : Hid (Below wr.heap.size wr va) := B4.out.trans (hba.mono B4.out.size)
            clear hba
            refine hK.out _ _ (by rw [hva]; exact Bva.out) (fun hHeld => ?_)
            clear hK K
            try simp only [Act.put, List.setIfInBounds_toArray, List.set_cons_zero, List.set_cons_succ]
            rw [hva, hbb]
            clear hHeld
            have hHeld : Below wr.heap.size wr va := Bva.out
            clear hva hbb Bva B4 H9
            obtain ⟨⟨z0, z1, z2, z3, z4⟩, zbl⟩ := five26 hx
            obtain ⟨y0, y1, y2, y3, y4⟩ := thaw5 hx
            refine wpAnyH_ready (rs := [10]) (by kernel_rfl) (by simp) (AllReadyH.cons (o := ⟨none, _, _, _, _, _⟩) rfl (fun K hK => ?_) AllReadyH.nil)
            go_simp
            refine hK.out _ _ (HD.out.bel) (fun hHeld => ?_)
            clear hK K
            try simp only [Act.put, List.setIfInBounds_toArray, List.set_cons_zero, List.set_cons_succ]
            refine wpAnyH_take (i := 11) (oi := ⟨some 12, _, _, _, _, _⟩) (v := ?_) rfl (by kernel_rfl) (by kernel_rfl) (by kernel_rfl) (fun _ _ _ h => h) (Or.inl ⟨by rfl, ?_⟩) (by assumption) ?_
            rotate_left
            · intro w hSw
              (try dsimp only at hSw)
              go_simp
              all_goals (with_reducible rfl)
            try simp only [Act.put, List.setIfInBounds_toArray, List.set_cons_zero, List.set_cons_succ]
            refine wpAnyH_done (by kernel_rfl) ?_ _
            clear z0 z1 z2 z3 z4 zbl y0 y1 y2 y3 y4 hx hHeld
            go_wp2
            go_meet
            case rel => exact ⟨bb, A2, c2, rfl, rfl, HD.out⟩
          · go_simp
            obtain ⟨bb, hbb⟩ : ∃ z, wr.heap.size = z := ⟨_, rfl⟩
            obtain ⟨va, hva⟩ : ∃ z, (wr.alloc (.cells #[.int .i64 0, .int .i64 0, .int .i64 0, .int .i64 0, .slice none 0 0] 26)).drew = z := ⟨_, rfl⟩
            have Bva : Hid (Below wr.heap.size wr va) := hva ▸ ((Below.refl wr.heap.size wr).alloc (Nat.le_refl _) _).drew
            have hxv : va.heap[bb]? = some (.cells #[.int .i64 0, .int .i64 0, .int .i64 0, .int .i64 0, .slice none 0 0] 26 (0, 0)) := by rw [← hva, ← hbb]; exact heap_alloc_new wr _
            have hsz : va.heap.size = bb + 1 := by rw [← hva, ← hbb]; simp
            refine hK.out _ _ (by first | (rw [hva]; exact Bva.out) | exact hva ▸ Bva.out) (fun hHeld => ?_)
            clear hK K
            try simp only [Act.put, List.setIfInBounds_toArray, List.set_cons_zero, List.set_cons_succ]
            rw [hva, hbb]
            clear hHeld
            have hHeld : Below wr.heap.size wr va := Bva.out
            have HV := Lib.hid (And.intro hxv (And.intro hsz hbb))
            clear hva hbb hxv hsz
            refine wpAnyH_ready (rs := [5]) (by kernel_rfl) (by simp) (AllReadyH.cons (o := ⟨some 42, _, _, _, _, _⟩) rfl (fun K hK => ?_) AllReadyH.nil)
            go_simp
            refine (does_is _ r.s r.v r.need r.ph (HL.out.rd.below Bva.out (Nat.le_refl _)) HN.out.2 o.kd o.ix o.op o.e (P := (Q, E)) HQ.out).mono ?_
            rintro e' w4 ⟨A2, c2, he, hr9, hA9, hb9⟩
            subst he
            simp only [RVal, HQL.out] at hr9 ⊢
            have hx := (hb9.block _ (lt_of_block HV.out.1)).trans HV.out.1
            have HD := Lib.hid (fill5 (wr := wr) (Q := Q) (c := c2) hx hr9 (fun jj hj => by have h1 := hA9 jj hj; have h2 := HV.out.2; omega) (Bva.out.trans (hb9.mono Bva.out.size)) (by have h2 := HV.out.2; omega))
            have B4 : Hid (Below wr.heap.size wr w4) := Bva.out.trans (hb9.mono Bva.out.size)
            clear hr9 hA9 hb9
            refine hK.out _ _ (by have h := B4.out; rw [HV.out.2.2] at h; exact h) (fun hHeld => ?_)
            clear hK K
            try simp only [Act.put, List.setIfInBounds_toArray, List.set_cons_zero, List.set_cons_succ]
            clear B4 Bva
            refine wpAnyH_take (i := 6) (oi := ⟨some 36, _, _, _, _, _⟩) (v := ?_) rfl (by kernel_rfl) (by kernel_rfl) (by kernel_rfl) (fun _ _ _ h => h) (Or.inl ⟨by rfl, ?_⟩) (by assumption) ?_
            rotate_left
            · intro w hSw
              (try dsimp only at hSw)
              go_simp
              all_goals (with_reducible rfl)
            try simp only [Act.put, List.setIfInBounds_toArray, List.set_cons_zero, List.set_cons_succ]
            refine wpAnyH_take (i := 7) (oi := ⟨some 43, _, _, _, _, _⟩) (v := ?_) rfl (by kernel_rfl) (by kernel_rfl) (by kernel_rfl) (fun _ _ _ h => h) (Or.inl ⟨by rfl, ?_⟩) (by assumption) ?_
            rotate_left
            · intro w hSw
              (try dsimp only at hSw)
              go_simp
              all_goals (with_reducible rfl)
            try simp only [Act.put, List.setIfInBounds_toArray, List.set_cons_zero, List.set_cons_succ]
            refine wpAnyH_take (i := 8) (oi := ⟨some 44, _, _, _, _, _⟩) (v := ?_) rfl (by kernel_rfl) (by kernel_rfl) (by kernel_rfl) (fun _ _ _ h => h) (Or.inl ⟨by rfl, ?_⟩) (by assumption) ?_
            rotate_left
            · intro w hSw
              (try dsimp only at hSw)
              go_simp
              all_goals (with_reducible rfl)
            try simp only [Act.put, List.setIfInBounds_toArray, List.set_cons_zero, List.set_cons_succ]
            obtain ⟨⟨z0, z1, z2, z3, z4⟩, zbl⟩ := five26 hx
            obtain ⟨y0, y1, y2, y3, y4⟩ := thaw5 hx
            refine wpAnyH_ready (rs := [10]) (by kernel_rfl) (by simp) (AllReadyH.cons (o := ⟨none, _, _, _, _, _⟩) rfl (fun K hK => ?_) AllReadyH.nil)
            go_simp
            refine hK.out _ _ (by have h := HD.out.bel; rw [HV.out.2.2] at h; exact h) (fun hHeld => ?_)
            clear hK K
            try simp only [Act.put, List.setIfInBounds_toArray, List.set_cons_zero, List.set_cons_succ]
            refine wpAnyH_take (i := 11) (oi := ⟨some 12, _, _, _, _, _⟩) (v := ?_) rfl (by kernel_rfl) (by kernel_rfl) (by kernel_rfl) (fun _ _ _ h => h) (Or.inl ⟨by rfl, ?_⟩) (by assumption) ?_
            rotate_left
            · intro w hSw
              (try dsimp only at hSw)
              go_simp
              all_goals (with_reducible rfl)
            try simp only [Act.put, List.setIfInBounds_toArray, List.set_cons_zero, List.set_cons_succ]
            refine wpAnyH_done (by kernel_rfl) ?_ _
            clear z0 z1 z2 z3 z4 zbl y0 y1 y2 y3 y4 hx hHeld
            go_wp2
            go_meet
            case rel => exact ⟨bb, A2, c2, rfl, rfl, HD.out⟩
        case rest =>
          obtain ⟨bb, A2, c2, rfl, rfl, HD⟩ := hcut
          have HL2 := Lib.hid (HL.out.below HD.out.bel)
          obtain ⟨⟨a0, a1, a2, a3, a4⟩, abl⟩ := five26 HL2.out.row
          obtain ⟨t0, t1, t2, t3, t4⟩ := thaw5 HL2.out.row
          obtain ⟨⟨e0, e1, e2, e3, e4⟩, ebl⟩ := five26 HD.out.row
          have HB : Hid (bb ≠ b7) := by show bb ≠ b7; have h1 := HD.out.le; have h2 := lt_of_block HL.out.row; omega
          have hne := HB.out
          have hne' := hne.symm
          clear HST
          by_cases hE : E = 0
          · subst hE
            obtain ⟨wz, hwz⟩ : ∃ z, ((((wc.setCell ⟨b7, 0, none⟩ (.int .i64 Q.s)).setCell ⟨b7, 1, none⟩ (.int .i64 Q.v)).setCell ⟨b7, 2, none⟩ (.int .i64 Q.need)).setCell ⟨b7, 3, none⟩ (.int .i64 Q.ph)).setCell ⟨b7, 4, none⟩ (.slice A2 n c2) = z := ⟨_, rfl⟩
            obtain ⟨hlz, hbz⟩ := LR.set (c2 := c2) HL.out (HD.out.bel) HD.out.rd (fun jj hj => by have h1 := (HD.out.fresh jj hj).1; have h2 := lt_of_block HL.out.row; omega) HQR.out HQL.out
            rw [hwz] at hlz hbz
            have HLz := Lib.hid hlz
            clear hlz hbz
            obtain ⟨⟨z0, z1, z2, z3, z4⟩, zbl⟩ := five26 HLz.out.row
            go_wp2_with fail
            (try rw [hwz])
            refine (wants_is _ Q.s Q.v Q.need Q.ph HLz.out.rd HN.out.2 rfl).mono ?_
            rintro e' w6 ⟨A6, c6, rfl, ho6, hb6⟩
            obtain ⟨wl, hwl⟩ : ∃ z, Rn.wants ⟨Q.s, Q.v, Q.need, Q.ph, Q.ms⟩ = z := ⟨_, rfl⟩
            rw [hwl] at ho6 ⊢
            have HWL := Lib.hid (show Rn.wants Q = wl from hwl)
            clear hwl
            have HL6 := Lib.hid (HLz.out.below hb6)
            have HW6 := Lib.hid ho6.wr
            clear ho6 hb6 z0 z1 z2 z3 z4 zbl hwz
            have HWN : Hid (wl.length ≤ n) := by show _ ≤ _; rw [← HWL.out, ← HLz.out.len]; exact wants_len _
            go_wp2_with fail
            go_loopg [13, 16, 52] wl.length (fun kx s13 _ s52 wi => ∃ i : Nat, i ≤ wl.length ∧ wl.length - i ≤ kx ∧ s52 = .int .i64 i ∧ s13 = .int .i64 (lastL wl i) ∧ Hid (Below w6.heap.size w6 wi))
            case atStart => exact ⟨0, Nat.zero_le _, by omega, rfl, rfl, (Below.refl _ _ : Below w6.heap.size w6 w6)⟩
            case round =>
              obtain ⟨i, hi, hk2, rfl, rfl, HBi⟩ := hrel
              obtain ⟨Lx, hLx⟩ : ∃ z, lastL wl i = z := ⟨_, rfl⟩
              rw [hLx]
              have HLx := Lib.hid hLx
              clear hLx
              by_cases hlt2 : i < wl.length
              · obtain ⟨x, hx⟩ : ∃ x, wl[i]? = some x := ⟨_, List.getElem?_eq_getElem hlt2⟩
                obtain ⟨adw, hAw, hbw, hload, g0, g1⟩ := (HW6.out.below HBi.out (Nat.le_refl _)).get hx
                subst hAw
                have hxr := hx
                rw [← HWL.out] at hxr
                have hlow := lastL_lt hxr
                rw [HWL.out, HLx.out] at hlow
                have hmem := wants_mem (List.mem_of_getElem? hxr)
                rw [HLz.out.len] at hmem
                have hnx := lastL_succ hx
                have HNX := Lib.hid hnx
                obtain ⟨x0, x1⟩ := x
                simp only at hlow hmem g0 g1 hload HNX
                have q1 : decide (x0 ≤ Lx) = false := decide_eq_false (by omega)
                have q2 : decide ((n : Int) ≤ x0) = false := decide_eq_false (by omega)
                have q3 : decide (x1 < 1) = false := decide_eq_false (by omega)
                have q4 : decide (3 < x1) = false := decide_eq_false (by omega)
                have hi3 : (0 : Int) ≤ (i : Int) := by omega
                have hi4 : (i : Int) < (wl.length : Int) := by omega
                have hw2 : IntKind.i64.wrap ((i : Int) + 1) = (i : Int) + 1 := IntWalk.i64_in _ (by have := HWN.out; have := HN.out; omega)
                obtain ⟨wj, hwj⟩ : ∃ z, wr.alloc (.cells #[.int .i64 x0, .int .u8 x1] 60) = z := ⟨_, rfl⟩
                obtain ⟨hbj, hxj⟩ := box_new hwj
                have e0 := cell_of_row wj _ 0 _ 60 (0, 0) hxj
                have e1 := cell_of_row wj _ 1 _ 60 (0, 0) hxj
                simp at e0 e1
                have HBj : Hid (Below w6.heap.size w6 wj) := HBi.out.trans (hbj.mono HBi.out.size)
                clear hx hxr hnx hlow hmem hbw hbj hxj
                go_wp2
                (try rw [hwj])
                go_roundg (wl.length - (i + 1))
                case measure => omega
                case rel => exact ⟨i + 1, by omega, by omega, by go_num, by rw [HNX.out], HBj⟩
              · obtain rfl : i = wl.length := by omega
                have HLi := Lib.hid (HL6.out.below HBi.out)
                obtain ⟨⟨f0, f1, f2, f3, f4⟩, fbl⟩ := five26 HLi.out.row
                have hph := HLz.out.right.ph6
                rcases hph with hph | hph | hph | hph | hph | hph
                · rw [hph] at f3
                  have HPH := Lib.hid hph
                  clear hph
                  by_cases hz : wl.length = 0
                  · have HZ := Lib.hid hz
                    have hz1 : ((wl.length : Int) == 0) = true := by simp [hz]
                    clear hz
                    go_wp2
                    go_roundg (m - (j + 1))
                    case measure => omega
                    case rel => exact ⟨j + 1, Q, A2, c2, by omega, by omega, by go_num, HLi⟩
                  · have hz1 : ((wl.length : Int) == 0) = false := by simp; intro h; exact hz (by simp [h])
                    clear hz
                    go_wp2
                    go_roundg (m - (j + 1))
                    case measure => omega
                    case rel => exact ⟨j + 1, Q, A2, c2, by omega, by omega, by go_num, HLi⟩
                · rw [hph] at f3
                  have HPH := Lib.hid hph
                  clear hph
                  by_cases hz : wl.length = 0
                  · have HZ := Lib.hid hz
                    have hz1 : ((wl.length : Int) == 0) = true := by simp [hz]
                    clear hz
                    go_wp2
                    go_roundg (m - (j + 1))
                    case measure => omega
                    case rel => exact ⟨j + 1, Q, A2, c2, by omega, by omega, by go_num, HLi⟩
                  · have hz1 : ((wl.length : Int) == 0) = false := by simp; intro h; exact hz (by simp [h])
                    clear hz
                    go_wp2
                    go_roundg (m - (j + 1))
                    case measure => omega
                    case rel => exact ⟨j + 1, Q, A2, c2, by omega, by omega, by go_num, HLi⟩
                · rw [hph] at f3
                  have hz : ((wl.length : Int) == 0) = false := by
                    have h1 := wants_some HLz.out.right (by omega)
                    rw [HWL.out] at h1
                    simp
                    intro h
                    simp [h] at h1
                  clear hph
                  go_wp2
                  go_roundg (m - (j + 1))
                  case measure => omega
                  case rel => exact ⟨j + 1, Q, A2, c2, by omega, by omega, by go_num, HLi⟩
                · rw [hph] at f3
                  have hz : ((wl.length : Int) == 0) = true := by
                    have h1 := wants_none HLz.out.right (by omega)
                    rw [HWL.out] at h1
                    simpa using h1
                  clear hph
                  go_wp2
                  go_roundg (m - (j + 1))
                  case measure => omega
                  case rel => exact ⟨j + 1, Q, A2, c2, by omega, by omega, by go_num, HLi⟩
                · rw [hph] at f3
                  have hz : ((wl.length : Int) == 0) = false := by
                    have h1 := wants_some HLz.out.right (by omega)
                    rw [HWL.out] at h1
                    simp
                    intro h
                    simp [h] at h1
                  clear hph
                  go_wp2
                  go_roundg (m - (j + 1))
                  case measure => omega
                  case rel => exact ⟨j + 1, Q, A2, c2, by omega, by omega, by go_num, HLi⟩
                · rw [hph] at f3
                  have hz : ((wl.length : Int) == 0) = true := by
                    have h1 := wants_none HLz.out.right (by omega)
                    rw [HWL.out] at h1
                    simpa using h1
                  clear hph
                  go_wp2
                  go_roundg (m - (j + 1))
                  case measure => omega
                  case rel => exact ⟨j + 1, Q, A2, c2, by omega, by omega, by go_num, HLi⟩
          · have u0 : (E == 0) = false := by simpa using hE
            have v0 : (E != 0) = true := by simpa using hE
            clear hE
            obtain ⟨⟨z0, z1, z2, z3, z4⟩, zbl⟩ := five26 HL2.out.row
            go_wp2_with fail
            refine (wants_is _ r.s r.v r.need r.ph HL2.out.rd HN.out.2 rfl).mono ?_
            rintro e' w6 ⟨A6, c6, rfl, ho6, hb6⟩
            obtain ⟨wl, hwl⟩ : ∃ z, Rn.wants ⟨r.s, r.v, r.need, r.ph, r.ms⟩ = z := ⟨_, rfl⟩
            rw [hwl] at ho6 ⊢
            have HWL := Lib.hid (show Rn.wants r = wl from hwl)
            clear hwl
            have HL6 := Lib.hid (HL2.out.below hb6)
            have HW6 := Lib.hid ho6.wr
            clear ho6 hb6 z0 z1 z2 z3 z4 zbl
            have HWN : Hid (wl.length ≤ n) := by show _ ≤ _; rw [← HWL.out, ← HL2.out.len]; exact wants_len _
            go_wp2_with fail
            go_loopg [13, 16, 52] wl.length (fun kx s13 _ s52 wi => ∃ i : Nat, i ≤ wl.length ∧ wl.length - i ≤ kx ∧ s52 = .int .i64 i ∧ s13 = .int .i64 (lastL wl i) ∧ Hid (Below w6.heap.size w6 wi))
            case atStart => exact ⟨0, Nat.zero_le _, by omega, rfl, rfl, (Below.refl _ _ : Below w6.heap.size w6 w6)⟩
            case round =>
              obtain ⟨i, hi, hk2, rfl, rfl, HBi⟩ := hrel
              obtain ⟨Lx, hLx⟩ : ∃ z, lastL wl i = z := ⟨_, rfl⟩
              rw [hLx]
              have HLx := Lib.hid hLx
              clear hLx
              by_cases hlt2 : i < wl.length
              · obtain ⟨x, hx⟩ : ∃ x, wl[i]? = some x := ⟨_, List.getElem?_eq_getElem hlt2⟩
                obtain ⟨adw, hAw, hbw, hload, g0, g1⟩ := (HW6.out.below HBi.out (Nat.le_refl _)).get hx
                subst hAw
                have hxr := hx
                rw [← HWL.out] at hxr
                have hlow := lastL_lt hxr
                rw [HWL.out, HLx.out] at hlow
                have hmem := wants_mem (List.mem_of_getElem? hxr)
                rw [HL2.out.len] at hmem
                have hnx := lastL_succ hx
                have HNX := Lib.hid hnx
                obtain ⟨x0, x1⟩ := x
                simp only at hlow hmem g0 g1 hload HNX
                have q1 : decide (x0 ≤ Lx) = false := decide_eq_false (by omega)
                have q2 : decide ((n : Int) ≤ x0) = false := decide_eq_false (by omega)
                have q3 : decide (x1 < 1) = false := decide_eq_false (by omega)
                have q4 : decide (3 < x1) = false := decide_eq_false (by omega)
                have hi3 : (0 : Int) ≤ (i : Int) := by omega
                have hi4 : (i : Int) < (wl.length : Int) := by omega
                have hw2 : IntKind.i64.wrap ((i : Int) + 1) = (i : Int) + 1 := IntWalk.i64_in _ (by have := HWN.out; have := HN.out; omega)
                obtain ⟨wj, hwj⟩ : ∃ z, wr.alloc (.cells #[.int .i64 x0, .int .u8 x1] 60) = z := ⟨_, rfl⟩
                obtain ⟨hbj, hxj⟩ := box_new hwj
                have e0 := cell_of_row wj _ 0 _ 60 (0, 0) hxj
                have e1 := cell_of_row wj _ 1 _ 60 (0, 0) hxj
                simp at e0 e1
                have HBj : Hid (Below w6.heap.size w6 wj) := HBi.out.trans (hbj.mono HBi.out.size)
                clear hx hxr hnx hlow hmem hbw hbj hxj
                go_wp2
                (try rw [hwj])
                go_roundg (wl.length - (i + 1))
                case measure => omega
                case rel => exact ⟨i + 1, by omega, by omega, by go_num, by rw [HNX.out], HBj⟩
              · obtain rfl : i = wl.length := by omega
                have HLi := Lib.hid (HL6.out.below HBi.out)
                obtain ⟨⟨f0, f1, f2, f3, f4⟩, fbl⟩ := five26 HLi.out.row
                have hph := HL2.out.right.ph6
                rcases hph with hph | hph | hph | hph | hph | hph
                · rw [hph] at f3
                  have HPH := Lib.hid hph
                  clear hph
                  by_cases hz : wl.length = 0
                  · have HZ := Lib.hid hz
                    have hz1 : ((wl.length : Int) == 0) = true := by simp [hz]
                    clear hz
                    go_wp2
                    go_roundg (m - (j + 1))
                    case measure => omega
                    case rel => exact ⟨j + 1, r, A, c, by omega, by omega, by go_num, HLi⟩
                  · have hz1 : ((wl.length : Int) == 0) = false := by simp; intro h; exact hz (by simp [h])
                    clear hz
                    go_wp2
                    go_roundg (m - (j + 1))
                    case measure => omega
                    case rel => exact ⟨j + 1, r, A, c, by omega, by omega, by go_num, HLi⟩
                · rw [hph] at f3
                  have HPH := Lib.hid hph
                  clear hph
                  by_cases hz : wl.length = 0
                  · have HZ := Lib.hid hz
                    have hz1 : ((wl.length : Int) == 0) = true := by simp [hz]
                    clear hz
                    go_wp2
                    go_roundg (m - (j + 1))
                    case measure => omega
                    case rel => exact ⟨j + 1, r, A, c, by omega, by omega, by go_num, HLi⟩
                  · have hz1 : ((wl.length : Int) == 0) = false := by simp; intro h; exact hz (by simp [h])
                    clear hz
                    go_wp2
                    go_roundg (m - (j + 1))
                    case measure => omega
                    case rel => exact ⟨j + 1, r, A, c, by omega, by omega, by go_num, HLi⟩
                · rw [hph] at f3
                  have hz : ((wl.length : Int) == 0) = false := by
                    have h1 := wants_some HL2.out.right (by omega)
                    rw [HWL.out] at h1
                    simp
                    intro h
                    simp [h] at h1
                  clear hph
                  go_wp2
                  go_roundg (m - (j + 1))
                  case measure => omega
                  case rel => exact ⟨j + 1, r, A, c, by omega, by omega, by go_num, HLi⟩
                · rw [hph] at f3
                  have hz : ((wl.length : Int) == 0) = true := by
                    have h1 := wants_none HL2.out.right (by omega)
                    rw [HWL.out] at h1
                    simpa using h1
                  clear hph
                  go_wp2
                  go_roundg (m - (j + 1))
                  case measure => omega
                  case rel => exact ⟨j + 1, r, A, c, by omega, by omega, by go_num, HLi⟩
                · rw [hph] at f3
                  have hz : ((wl.length : Int) == 0) = false := by
                    have h1 := wants_some HL2.out.right (by omega)
                    rw [HWL.out] at h1
                    simp
                    intro h
                    simp [h] at h1
                  clear hph
                  go_wp2
                  go_roundg (m - (j + 1))
                  case measure => omega
                  case rel => exact ⟨j + 1, r, A, c, by omega, by omega, by go_num, HLi⟩
                · rw [hph] at f3
                  have hz : ((wl.length : Int) == 0) = true := by
                    have h1 := wants_none HL2.out.right (by omega)
                    rw [HWL.out] at h1
                    simpa using h1
                  clear hph
                  go_wp2
                  go_roundg (m - (j + 1))
                  case measure => omega
                  case rel => exact ⟨j + 1, r, A, c, by omega, by omega, by go_num, HLi⟩
      · have hj6 : ¬ (j : Int) < 60 := by omega
        have hi2 : (j : Int) < (m : Int) := by omega
        go_wp2_with fail
        refine (awake_is _).mono ?_
        rintro e w9 ⟨rfl, hb9⟩
        have HB9 : Hid (Below w.heap.size w w9) := HL.out.bel.trans (hb9.mono HL.out.bel.size)
        clear hb9
        go_wp2
        go_ret
        exact told_mk rfl HB9.out
    · obtain rfl : j = m := by omega
      go_wp2_with fail
      refine (awake_is _).mono ?_
      rintro e w9 ⟨rfl, hb9⟩
      have HB9 : Hid (Below w.heap.size w w9) := HL.out.bel.trans (hb9.mono HL.out.bel.size)
      clear hb9
      go_wp2
      go_ret
      exact told_mk rfl HB9.out
end
end Go.Proofs.Ytciihebaameccaa
