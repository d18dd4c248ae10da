/- WireApart's walk. -/
import Derived.Test.YtmiapegecoaccaaLawA
namespace Go.Proofs.Ytmiapegecoaccaa
open Go.RowKit Go.Coop
set_option maxRecDepth 100000
set_option linter.unusedVariables false
section
variable (w : World)
set_option maxHeartbeats 16000000 in
theorem apart_law {lx sx ox stx ix vex ly sy oy sty iy vey tlz tsz toz tez trz tlw tsw tow tew trw : Int} {Ax Ay Iz Bz Iw Bw : Option Addr} {nx cx ny cy imz mcz kz dz imw mcw kw dw : Nat} {bsx bsy tbz tbw : List UInt8} {Lz Lw : List InfP}
    (hrx : Rd w Ax nx bsx) (hry : Rd w Ay ny bsy) (hIz : IL w Iz imz Lz) (hBz : Rd w Bz kz tbz) (hIw : IL w Iw imw Lw) (hBw : Rd w Bw kw tbw) :
    Calls Try.prog 6 #[.agg #[.int .i64 lx, .int .i64 sx, .int .u8 ox, .int .i64 stx, .int .i64 ix, .int .i64 vex, .slice Ax nx cx], .agg #[.int .i64 ly, .int .i64 sy, .int .u8 oy, .int .i64 sty, .int .i64 iy, .int .i64 vey, .slice Ay ny cy], .agg #[.int .i64 tlz, .int .i64 tsz, .int .u8 toz, .int .i64 tez, .slice Iz imz mcz, .slice Bz kz dz, .int .i64 trz], .agg #[.int .i64 tlw, .int .i64 tsw, .int .u8 tow, .int .i64 tew, .slice Iw imw mcw, .slice Bw kw dw, .int .i64 trw]] w (Told w true) := by
  have HK := Lib.hid (Keep.start w)
  replace HK := Lib.hid (HK.out.read (hrx))
  replace HK := Lib.hid (HK.out.read (hry))
  replace HK := Lib.hid (HK.out.read (hBz))
  replace HK := Lib.hid (HK.out.read (hBw))
  replace HK := Lib.hid (HK.out.il (hIz))
  replace HK := Lib.hid (HK.out.il (hIw))
  have lenx := hrx.len
  have leny := hry.len
  clear hrx hry hIz hBz hIw hBw
  obtain ⟨g, hg⟩ : ∃ g, w.heap.size = g := ⟨_, rfl⟩
  obtain ⟨w1, e⟩ : ∃ x, w.alloc (.cells #[.int .i64 lx, .int .i64 sx, .int .u8 ox, .int .i64 stx, .int .i64 ix, .int .i64 vex, .slice Ax nx cx] 25) = x := ⟨_, rfl⟩
  obtain ⟨hW, hx⟩ := box_new e
  rw [hg] at hx
  have Ew1 := Lib.hid e
  have Sw1 := size_of_alloc e
  clear e
  replace hx := Lib.hid hx
  replace HK := Lib.hid (HK.out.below hW (Nat.le_refl _))
  have HB := Lib.hid hW
  clear hW
  replace HK := Lib.hid (HK.out.row (show Row w1 (g) #[.int .i64 lx, .int .i64 sx, .int .u8 ox, .int .i64 stx, .int .i64 ix, .int .i64 vex, .slice Ax nx cx] 25 from hx.out))
  clear hx
  have z1 : w1.heap.size = g + 1 := by rw [Sw1, hg]
  clear Sw1
  obtain ⟨w2, e⟩ : ∃ x, w1.alloc (.cells #[.int .i64 ly, .int .i64 sy, .int .u8 oy, .int .i64 sty, .int .i64 iy, .int .i64 vey, .slice Ay ny cy] 25) = x := ⟨_, rfl⟩
  obtain ⟨hW, hx⟩ := box_new e
  rw [z1] at hx
  have Ew2 := Lib.hid e
  have Sw2 := size_of_alloc e
  clear e
  replace hx := Lib.hid hx
  replace HK := Lib.hid (HK.out.below hW (Nat.le_refl _))
  replace HB := Lib.hid (HB.out.trans (hW.mono HB.out.size))
  clear hW
  replace HK := Lib.hid (HK.out.row (show Row w2 (g + 1) #[.int .i64 ly, .int .i64 sy, .int .u8 oy, .int .i64 sty, .int .i64 iy, .int .i64 vey, .slice Ay ny cy] 25 from hx.out))
  clear hx
  have z2 : w2.heap.size = g + 1 + 1 := by rw [Sw2, z1]
  clear Sw2
  obtain ⟨w3, e⟩ : ∃ x, w2.alloc (.cells #[.int .i64 tlz, .int .i64 tsz, .int .u8 toz, .int .i64 tez, .slice Iz imz mcz, .slice Bz kz dz, .int .i64 trz] 34) = x := ⟨_, rfl⟩
  obtain ⟨hW, hx⟩ := box_new e
  rw [z2] at hx
  have Ew3 := Lib.hid e
  have Sw3 := size_of_alloc e
  clear e
  replace hx := Lib.hid hx
  replace HK := Lib.hid (HK.out.below hW (Nat.le_refl _))
  replace HB := Lib.hid (HB.out.trans (hW.mono HB.out.size))
  clear hW
  replace HK := Lib.hid (HK.out.row (show Row w3 (g + 1 + 1) #[.int .i64 tlz, .int .i64 tsz, .int .u8 toz, .int .i64 tez, .slice Iz imz mcz, .slice Bz kz dz, .int .i64 trz] 34 from hx.out))
  clear hx
  have z3 : w3.heap.size = g + 1 + 1 + 1 := by rw [Sw3, z2]
  clear Sw3
  obtain ⟨w4, e⟩ : ∃ x, w3.alloc (.cells #[.int .i64 tlw, .int .i64 tsw, .int .u8 tow, .int .i64 tew, .slice Iw imw mcw, .slice Bw kw dw, .int .i64 trw] 34) = x := ⟨_, rfl⟩
  obtain ⟨hW, hx⟩ := box_new e
  rw [z3] at hx
  have Ew4 := Lib.hid e
  clear e
  replace hx := Lib.hid hx
  replace HK := Lib.hid (HK.out.below hW (Nat.le_refl _))
  replace HB := Lib.hid (HB.out.trans (hW.mono HB.out.size))
  clear hW
  replace HK := Lib.hid (HK.out.row (show Row w4 (g + 1 + 1 + 1) #[.int .i64 tlw, .int .i64 tsw, .int .u8 tow, .int .i64 tew, .slice Iw imw mcw, .slice Bw kw dw, .int .i64 trw] 34 from hx.out))
  clear hx
  clear z1 z2 z3
  by_cases q1 : nx ≤ 500 ∧ kz ≤ 500 ∧ imz ≤ 60 ∧ 0 ≤ 1000
  · by_cases q2 : ny ≤ 500 ∧ kw ≤ 500 ∧ imw ≤ 60 ∧ 0 ≤ 1000
    · by_cases HRx : RightA ⟨lx, sx, ox, stx, ix, vex, bsx⟩
      · replace HRx := Lib.hid HRx
        by_cases HRy : RightA ⟨ly, sy, oy, sty, iy, vey, bsy⟩
        · replace HRy := Lib.hid HRy
          by_cases HRz : RightT ⟨tlz, tsz, toz, tez, Lz, tbz, trz⟩
          · replace HRz := Lib.hid HRz
            by_cases HRw : RightT ⟨tlw, tsw, tow, tew, Lw, tbw, trw⟩
            · replace HRw := Lib.hid HRw
              have hs1 := q1
              have hs2 := q2
              have q1 := Lib.hid (decide_eq_true q1)
              have q2 := Lib.hid (decide_eq_true q2)
              go_enter Try.func6, Try.ntmps6
              obtain ⟨a0, a1, a2, a3, a4, a5, a6⟩ := arr7 (w := (World.alloc (World.alloc (World.alloc (World.alloc w (.cells #[.int .i64 lx, .int .i64 sx, .int .u8 ox, .int .i64 stx, .int .i64 ix, .int .i64 vex, .slice Ax nx cx] 25)) (.cells #[.int .i64 ly, .int .i64 sy, .int .u8 oy, .int .i64 sty, .int .i64 iy, .int .i64 vey, .slice Ay ny cy] 25)) (.cells #[.int .i64 tlz, .int .i64 tsz, .int .u8 toz, .int .i64 tez, .slice Iz imz mcz, .slice Bz kz dz, .int .i64 trz] 34)) (.cells #[.int .i64 tlw, .int .i64 tsw, .int .u8 tow, .int .i64 tew, .slice Iw imw mcw, .slice Bw kw dw, .int .i64 trw] 34))) (by rw [Ew1.out, Ew2.out, Ew3.out, Ew4.out]; exact (HK.out.rows _ (.tail _ (.tail _ (.tail _ (.head _))))))
              obtain ⟨b0, b1, b2, b3, b4, b5, b6⟩ := arr7 (w := (World.alloc (World.alloc (World.alloc (World.alloc w (.cells #[.int .i64 lx, .int .i64 sx, .int .u8 ox, .int .i64 stx, .int .i64 ix, .int .i64 vex, .slice Ax nx cx] 25)) (.cells #[.int .i64 ly, .int .i64 sy, .int .u8 oy, .int .i64 sty, .int .i64 iy, .int .i64 vey, .slice Ay ny cy] 25)) (.cells #[.int .i64 tlz, .int .i64 tsz, .int .u8 toz, .int .i64 tez, .slice Iz imz mcz, .slice Bz kz dz, .int .i64 trz] 34)) (.cells #[.int .i64 tlw, .int .i64 tsw, .int .u8 tow, .int .i64 tew, .slice Iw imw mcw, .slice Bw kw dw, .int .i64 trw] 34))) (by rw [Ew1.out, Ew2.out, Ew3.out, Ew4.out]; exact (HK.out.rows _ (.tail _ (.head _))))
              go_wp2_with fail
              rw [Ew1.out]
              rw [Ew2.out]
              rw [Ew3.out]
              rw [Ew4.out]
              clear Ew1 Ew2 Ew3 Ew4
              refine (small_is w4 lx sx ox stx ix vex tlz tsz toz tez trz q1.out).mono ?_
              rintro e w5 ⟨rfl, hb⟩
              have hW : Below w4.heap.size w4 w5 := hb
              replace HK := Lib.hid (HK.out.below hW (Nat.le_refl _))
              replace HB := Lib.hid (HB.out.trans (hW.mono HB.out.size))
              clear hW
              clear a0 a1 a2 a3 a4 a5 a6 b0 b1 b2 b3 b4 b5 b6 hb
              obtain ⟨a0, a1, a2, a3, a4, a5, a6⟩ := arr7 (w := w5) (by exact (HK.out.rows _ (.tail _ (.tail _ (.head _)))))
              obtain ⟨b0, b1, b2, b3, b4, b5, b6⟩ := arr7 (w := w5) (by exact (HK.out.rows _ (.head _)))
              go_wp2_with fail
              refine (small_is w5 ly sy oy sty iy vey tlw tsw tow tew trw q2.out).mono ?_
              rintro e w6 ⟨rfl, hb⟩
              have hW : Below w5.heap.size w5 w6 := hb
              replace HK := Lib.hid (HK.out.below hW (Nat.le_refl _))
              replace HB := Lib.hid (HB.out.trans (hW.mono HB.out.size))
              clear hW
              clear a0 a1 a2 a3 a4 a5 a6 b0 b1 b2 b3 b4 b5 b6 hb
              obtain ⟨g_w7, h_w7⟩ : ∃ g, w6.heap.size = g := ⟨_, rfl⟩
              obtain ⟨w7, e⟩ : ∃ x, w6.alloc (.cells Z0 39) = x := ⟨_, rfl⟩
              obtain ⟨hW, hx⟩ := box_new e
              rw [h_w7] at hx
              have Ew7 := Lib.hid e
              clear e
              replace hx := Lib.hid hx
              replace HK := Lib.hid (HK.out.below hW (Nat.le_refl _))
              replace HB := Lib.hid (HB.out.trans (hW.mono HB.out.size))
              clear hW
              clear hx
              have hTb : Tb w7 g_w7 (fun _ => 0) := by rw [← Ew7.out]; exact tab_nought w6 h_w7
              replace HK := Lib.hid (HK.out.tab (hTb))
              clear hTb
              have hz39 := zeroT39
              obtain ⟨a0, a1, a2, a3, a4, a5, a6⟩ := arr7 (w := (World.alloc w6 (.cells Z0 39))) (by rw [Ew7.out]; exact (HK.out.rows _ (.tail _ (.tail _ (.tail _ (.head _))))))
              have putx : putA (fun _ => 0) ⟨lx, sx, ox, stx, ix, vex, bsx⟩ = (sealed (fun _ => 0) (encA ⟨lx, sx, ox, stx, ix, vex, bsx⟩), 0) := by unfold putA; rw [if_pos HRx.out]
              have HPx := Lib.hid putx
              clear putx
              go_wp2_with fail
              rw [Ew7.out]
              clear Ew7
              refine (putA_is w7 (HK.out.tabs _ (.head _)).1 (HK.out.tabs _ (.head _)).2 lx sx ox stx ix vex bsx (HK.out.reads _ (.tail _ (.tail _ (.tail _ (.head _))))) (show nx ≤ 1000000 by omega)).mono ?_
              rintro e w8 ⟨C, cn, cc, rfl, hoc, hb⟩
              rw [HPx.out] at hoc ⊢
              simp only at hoc ⊢
              clear a0 a1 a2 a3 a4 a5 a6 hz39
              have hW : Below w7.heap.size w7 w8 := hb
              replace HK := Lib.hid (HK.out.below hW (Nat.le_refl _))
              replace HB := Lib.hid (HB.out.trans (hW.mono HB.out.size))
              clear hW
              replace HK := Lib.hid (HK.out.read (hoc.rd))
              clear hoc hb
              obtain ⟨a0, a1, a2, a3, a4, a5, a6⟩ := arr7 (w := w8) (by exact (HK.out.rows _ (.tail _ (.tail _ (.head _)))))
              obtain ⟨py, hpy⟩ : ∃ x, putA (fun _ => 0) ⟨ly, sy, oy, sty, iy, vey, bsy⟩ = x := ⟨_, rfl⟩
              obtain ⟨bD, eD⟩ := py
              have putx : putA (fun _ => 0) ⟨ly, sy, oy, sty, iy, vey, bsy⟩ = (sealed (fun _ => 0) (encA ⟨ly, sy, oy, sty, iy, vey, bsy⟩), 0) := by unfold putA; rw [if_pos HRy.out]
              rw [putx] at hpy
              injection hpy with h1 h2
              subst h1 h2
              have hpy := putx
              clear putx
              have HPy := Lib.hid hpy
              clear hpy
              go_wp2_with fail
              refine (putA_is w8 (HK.out.tabs _ (.head _)).1 (HK.out.tabs _ (.head _)).2 ly sy oy sty iy vey bsy (HK.out.reads _ (.tail _ (.tail _ (.tail _ (.head _))))) (show ny ≤ 1000000 by omega)).mono ?_
              rintro e w9 ⟨D, dn, dc, rfl, hod, hb⟩
              rw [HPy.out] at hod ⊢
              simp only at hod ⊢
              clear a0 a1 a2 a3 a4 a5 a6
              have hW : Below w8.heap.size w8 w9 := hb
              replace HK := Lib.hid (HK.out.below hW (Nat.le_refl _))
              replace HB := Lib.hid (HB.out.trans (hW.mono HB.out.size))
              clear hW
              replace HK := Lib.hid (HK.out.read (hod.rd))
              clear hod hb
              go_wp2_with fail
              refine wp_region_held_drew (S := fun u => Keep u [(g + 1 + 1 + 1, #[.int .i64 tlw, .int .i64 tsw, .int .u8 tow, .int .i64 tew, .slice Iw imw mcw, .slice Bw kw dw, .int .i64 trw], 34), (g + 1 + 1, #[.int .i64 tlz, .int .i64 tsz, .int .u8 toz, .int .i64 tez, .slice Iz imz mcz, .slice Bz kz dz, .int .i64 trz], 34), (g + 1, #[.int .i64 ly, .int .i64 sy, .int .u8 oy, .int .i64 sty, .int .i64 iy, .int .i64 vey, .slice Ay ny cy], 25), (g, #[.int .i64 lx, .int .i64 sx, .int .u8 ox, .int .i64 stx, .int .i64 ix, .int .i64 vex, .slice Ax nx cx], 25)] [(D, dn, sealed (fun _ => 0) (encA ⟨ly, sy, oy, sty, iy, vey, bsy⟩)), (C, cn, sealed (fun _ => 0) (encA ⟨lx, sx, ox, stx, ix, vex, bsx⟩)), (Bw, kw, tbw), (Bz, kz, tbz), (Ay, ny, bsy), (Ax, nx, bsx)] [(Iw, imw, Lw), (Iz, imz, Lz)] [(g_w7, (fun _ => 0))]) (by kernel_rfl) (HK.out.drew) (fun hHeld => ?_)
              have HBr := Lib.hid (HB.out.drew)
              clear HK HB
              refine wpAnyH_take (i := 0) (oi := ⟨some 39, _, _, _, _, _⟩) (v := ?_) rfl (by as_aux_lemma => kernel_rfl) (by as_aux_lemma => kernel_rfl) (by as_aux_lemma => kernel_rfl) (fun _ _ _ h => h) (Or.inl ⟨by rfl, ?_⟩) (by assumption) ?_
              rotate_left
              · intro w hSw
                (try dsimp only at hSw)
                go_simp
                all_goals (with_reducible rfl)
              try simp only [Act.put, List.setIfInBounds_toArray, List.set_cons_zero, List.set_cons_succ]
              refine wpAnyH_take (i := 1) (oi := ⟨some 40, _, _, _, _, _⟩) (v := ?_) rfl (by as_aux_lemma => kernel_rfl) (by as_aux_lemma => kernel_rfl) (by as_aux_lemma => kernel_rfl) (fun _ _ _ h => h) (Or.inl ⟨by rfl, ?_⟩) (by assumption) ?_
              rotate_left
              · intro w hSw
                (try dsimp only at hSw)
                go_simp
                all_goals (with_reducible rfl)
              try simp only [Act.put, List.setIfInBounds_toArray, List.set_cons_zero, List.set_cons_succ]
              refine wpAnyH_take (i := 2) (oi := ⟨some 41, _, _, _, _, _⟩) (v := ?_) rfl (by as_aux_lemma => kernel_rfl) (by as_aux_lemma => kernel_rfl) (by as_aux_lemma => kernel_rfl) (fun _ _ _ h => h) (Or.inl ⟨by rfl, ?_⟩) (by assumption) ?_
              rotate_left
              · intro w hSw
                (try dsimp only at hSw)
                go_simp
                all_goals (with_reducible rfl)
              try simp only [Act.put, List.setIfInBounds_toArray, List.set_cons_zero, List.set_cons_succ]
              refine wpAnyH_take (i := 3) (oi := ⟨some 42, _, _, _, _, _⟩) (v := ?_) rfl (by as_aux_lemma => kernel_rfl) (by as_aux_lemma => kernel_rfl) (by as_aux_lemma => kernel_rfl) (fun _ _ _ h => h) (Or.inl ⟨by rfl, ?_⟩) (by assumption) ?_
              rotate_left
              · intro w hSw
                (try dsimp only at hSw)
                go_simp
                all_goals (with_reducible rfl)
              try simp only [Act.put, List.setIfInBounds_toArray, List.set_cons_zero, List.set_cons_succ]
              refine wpAnyH_take (i := 4) (oi := ⟨some 43, _, _, _, _, _⟩) (v := ?_) rfl (by as_aux_lemma => kernel_rfl) (by as_aux_lemma => kernel_rfl) (by as_aux_lemma => kernel_rfl) (fun _ _ _ h => h) (Or.inl ⟨by rfl, ?_⟩) (by assumption) ?_
              rotate_left
              · intro w hSw
                (try dsimp only at hSw)
                go_simp
                all_goals (with_reducible rfl)
              try simp only [Act.put, List.setIfInBounds_toArray, List.set_cons_zero, List.set_cons_succ]
              refine wpAnyH_take (i := 5) (oi := ⟨some 44, _, _, _, _, _⟩) (v := ?_) rfl (by as_aux_lemma => kernel_rfl) (by as_aux_lemma => kernel_rfl) (by as_aux_lemma => kernel_rfl) (fun _ _ _ h => h) (Or.inl ⟨by rfl, ?_⟩) (by assumption) ?_
              rotate_left
              · intro w hSw
                (try dsimp only at hSw)
                go_simp
                all_goals (with_reducible rfl)
              try simp only [Act.put, List.setIfInBounds_toArray, List.set_cons_zero, List.set_cons_succ]
              refine wpAnyH_take (i := 6) (oi := ⟨some 45, _, _, _, _, _⟩) (v := ?_) rfl (by as_aux_lemma => kernel_rfl) (by as_aux_lemma => kernel_rfl) (by as_aux_lemma => kernel_rfl) (fun _ _ _ h => h) (Or.inl ⟨by rfl, ?_⟩) (by assumption) ?_
              rotate_left
              · intro w hSw
                (try dsimp only at hSw)
                go_simp
                all_goals (with_reducible rfl)
              try simp only [Act.put, List.setIfInBounds_toArray, List.set_cons_zero, List.set_cons_succ]
              refine wpAnyH_take (i := 7) (oi := ⟨some 46, _, _, _, _, _⟩) (v := ?_) rfl (by as_aux_lemma => kernel_rfl) (by as_aux_lemma => kernel_rfl) (by as_aux_lemma => kernel_rfl) (fun _ _ _ h => h) (Or.inl ⟨by rfl, ?_⟩) (by assumption) ?_
              rotate_left
              · intro w hSw
                (try dsimp only at hSw)
                go_simp
                all_goals (with_reducible rfl)
              try simp only [Act.put, List.setIfInBounds_toArray, List.set_cons_zero, List.set_cons_succ]
              refine wpAnyH_take (i := 8) (oi := ⟨some 47, _, _, _, _, _⟩) (v := ?_) rfl (by as_aux_lemma => kernel_rfl) (by as_aux_lemma => kernel_rfl) (by as_aux_lemma => kernel_rfl) (fun _ _ _ h => h) (Or.inl ⟨by rfl, ?_⟩) (by assumption) ?_
              rotate_left
              · intro w hSw
                (try dsimp only at hSw)
                go_simp
                all_goals (with_reducible rfl)
              try simp only [Act.put, List.setIfInBounds_toArray, List.set_cons_zero, List.set_cons_succ]
              refine wpAnyH_take (i := 10) (oi := ⟨some 49, _, _, _, _, _⟩) (v := ?_) rfl (by as_aux_lemma => kernel_rfl) (by as_aux_lemma => kernel_rfl) (by as_aux_lemma => kernel_rfl) (fun _ _ _ h => h) (Or.inl ⟨by rfl, ?_⟩) (by assumption) ?_
              rotate_left
              · intro w hSw
                obtain ⟨l0, l1, l2, l3, l4, l5, l6⟩ := arr7 (w := w) (hSw.rows _ (.tail _ (.tail _ (.tail _ (.head _)))))
                go_simp
                all_goals (with_reducible rfl)
              try simp only [Act.put, List.setIfInBounds_toArray, List.set_cons_zero, List.set_cons_succ]
              refine wpAnyH_take (i := 11) (oi := ⟨some 50, _, _, _, _, _⟩) (v := ?_) rfl (by as_aux_lemma => kernel_rfl) (by as_aux_lemma => kernel_rfl) (by as_aux_lemma => kernel_rfl) (fun _ _ _ h => h) (Or.inl ⟨by rfl, ?_⟩) (by assumption) ?_
              rotate_left
              · intro w hSw
                obtain ⟨l0, l1, l2, l3, l4, l5, l6⟩ := arr7 (w := w) (hSw.rows _ (.tail _ (.tail _ (.head _))))
                go_simp
                all_goals (with_reducible rfl)
              try simp only [Act.put, List.setIfInBounds_toArray, List.set_cons_zero, List.set_cons_succ]
              obtain ⟨q, hq⟩ : ∃ q, decide ((⟨lx, sx, ox, stx, ix, vex, bsx⟩ : AskP) = ⟨ly, sy, oy, sty, iy, vey, bsy⟩) = q := ⟨_, rfl⟩
              refine wpAnyH_ready (rs := [9]) (by as_aux_lemma => kernel_rfl) (by simp) (AllReadyH.cons (o := ⟨some 48, _, _, _, _, _⟩) rfl (fun K hK => ?_) AllReadyH.nil)
              go_simp
              refine (sameB_is _ (hHeld.reads _ (.tail _ (.head _))) (hHeld.reads _ (.head _)) (q := q) (by rw [putA_same HRx.out HRy.out]; exact hq)).mono ?_
              rintro e _ ⟨rfl, rfl⟩
              have hS2 := hHeld.below (Below.refl _ _) (Nat.le_refl _)
              replace HBr := Lib.hid (HBr.out.trans ((Below.refl _ _).mono HBr.out.size))
              refine hK.out _ _ hS2 (fun hHeld => ?_)
              clear hK K hS2
              try simp only [Act.put, List.setIfInBounds_toArray, List.set_cons_zero, List.set_cons_succ]
              refine wpAnyH_ready (rs := [12]) (by as_aux_lemma => kernel_rfl) (by simp) (AllReadyH.cons (o := ⟨some 51, _, _, _, _, _⟩) rfl (fun K hK => ?_) AllReadyH.nil)
              go_simp
              refine (sameA_is _ lx sx ox stx ix vex ly sy oy sty iy vey bsx bsy (hHeld.reads _ (.tail _ (.tail _ (.tail _ (.tail _ (.tail _ (.head _))))))) (hHeld.reads _ (.tail _ (.tail _ (.tail _ (.tail _ (.head _)))))) hq).mono ?_
              rintro e u1 ⟨rfl, hb⟩
              have hS2 := hHeld.below hb (Nat.le_refl _)
              replace HBr := Lib.hid (HBr.out.trans (hb.mono HBr.out.size))
              refine hK.out _ _ hS2 (fun hHeld => ?_)
              clear hK K hS2
              try simp only [Act.put, List.setIfInBounds_toArray, List.set_cons_zero, List.set_cons_succ]
              clear hb
              refine wpAnyH_take (i := 13) (oi := ⟨some 52, _, _, _, _, _⟩) (v := ?_) rfl (by as_aux_lemma => kernel_rfl) (by as_aux_lemma => kernel_rfl) (by as_aux_lemma => kernel_rfl) (fun _ _ _ h => h) (Or.inl ⟨by rfl, ?_⟩) (by assumption) ?_
              rotate_left
              · intro w hSw
                (try dsimp only at hSw)
                go_simp
                all_goals (with_reducible rfl)
              try simp only [Act.put, List.setIfInBounds_toArray, List.set_cons_zero, List.set_cons_succ]
              refine wpAnyH_take (i := 14) (oi := ⟨some 53, _, _, _, _, _⟩) (v := ?_) rfl (by as_aux_lemma => kernel_rfl) (by as_aux_lemma => kernel_rfl) (by as_aux_lemma => kernel_rfl) (fun _ _ _ h => h) (Or.inl ⟨by rfl, ?_⟩) (by assumption) ?_
              rotate_left
              · intro w hSw
                (try dsimp only at hSw)
                go_simp
                all_goals (with_reducible rfl)
              try simp only [Act.put, List.setIfInBounds_toArray, List.set_cons_zero, List.set_cons_succ]
              refine wpAnyH_done (by kernel_rfl) ?_ _
              have HK := Lib.hid hHeld
              have HB := HBr
              clear HBr hHeld
              obtain ⟨a0, a1, a2, a3, a4, a5, a6⟩ := arr7 (w := u1) (by exact (HK.out.rows _ (.tail _ (.head _))))
              have putx : putT (fun _ => 0) ⟨tlz, tsz, toz, tez, Lz, tbz, trz⟩ = (sealed (fun _ => 0) (encT ⟨tlz, tsz, toz, tez, Lz, tbz, trz⟩), 0) := by unfold putT; rw [if_pos HRz.out]
              have HPz := Lib.hid putx
              clear putx
              go_wp2_with fail
              refine (putT_is u1 (HK.out.tabs _ (.head _)).1 (HK.out.tabs _ (.head _)).2 tlz tsz toz tez trz (HK.out.ils _ (.tail _ (.head _))) (show imz ≤ 1000000 by omega) tbz (HK.out.reads _ (.tail _ (.tail _ (.tail _ (.head _))))) (show kz ≤ 1000000 by omega)).mono ?_
              rintro e w11 ⟨G, gn, gc, rfl, hoc, hb⟩
              rw [HPz.out] at hoc ⊢
              simp only at hoc ⊢
              clear a0 a1 a2 a3 a4 a5 a6
              have hW : Below u1.heap.size u1 w11 := hb
              replace HK := Lib.hid (HK.out.below hW (Nat.le_refl _))
              replace HB := Lib.hid (HB.out.trans (hW.mono HB.out.size))
              clear hW
              replace HK := Lib.hid (HK.out.read (hoc.rd))
              clear hoc hb
              obtain ⟨a0, a1, a2, a3, a4, a5, a6⟩ := arr7 (w := w11) (by exact (HK.out.rows _ (.head _)))
              obtain ⟨py, hpy⟩ : ∃ x, putT (fun _ => 0) ⟨tlw, tsw, tow, tew, Lw, tbw, trw⟩ = x := ⟨_, rfl⟩
              obtain ⟨bE, eE⟩ := py
              have putx : putT (fun _ => 0) ⟨tlw, tsw, tow, tew, Lw, tbw, trw⟩ = (sealed (fun _ => 0) (encT ⟨tlw, tsw, tow, tew, Lw, tbw, trw⟩), 0) := by unfold putT; rw [if_pos HRw.out]
              rw [putx] at hpy
              injection hpy with h1 h2
              subst h1 h2
              have hpy := putx
              clear putx
              have HPw := Lib.hid hpy
              clear hpy
              go_wp2_with fail
              refine (putT_is w11 (HK.out.tabs _ (.head _)).1 (HK.out.tabs _ (.head _)).2 tlw tsw tow tew trw (HK.out.ils _ (.head _)) (show imw ≤ 1000000 by omega) tbw (HK.out.reads _ (.tail _ (.tail _ (.tail _ (.head _))))) (show kw ≤ 1000000 by omega)).mono ?_
              rintro e w12 ⟨H, hn, hc, rfl, hod, hb⟩
              rw [HPw.out] at hod ⊢
              simp only at hod ⊢
              clear a0 a1 a2 a3 a4 a5 a6
              have hW : Below w11.heap.size w11 w12 := hb
              replace HK := Lib.hid (HK.out.below hW (Nat.le_refl _))
              replace HB := Lib.hid (HB.out.trans (hW.mono HB.out.size))
              clear hW
              replace HK := Lib.hid (HK.out.read (hod.rd))
              clear hod hb
              go_wp2_with fail
              refine wp_region_held_drew (S := fun u => Keep u [(g + 1 + 1 + 1, #[.int .i64 tlw, .int .i64 tsw, .int .u8 tow, .int .i64 tew, .slice Iw imw mcw, .slice Bw kw dw, .int .i64 trw], 34), (g + 1 + 1, #[.int .i64 tlz, .int .i64 tsz, .int .u8 toz, .int .i64 tez, .slice Iz imz mcz, .slice Bz kz dz, .int .i64 trz], 34), (g + 1, #[.int .i64 ly, .int .i64 sy, .int .u8 oy, .int .i64 sty, .int .i64 iy, .int .i64 vey, .slice Ay ny cy], 25), (g, #[.int .i64 lx, .int .i64 sx, .int .u8 ox, .int .i64 stx, .int .i64 ix, .int .i64 vex, .slice Ax nx cx], 25)] [(H, hn, sealed (fun _ => 0) (encT ⟨tlw, tsw, tow, tew, Lw, tbw, trw⟩)), (G, gn, sealed (fun _ => 0) (encT ⟨tlz, tsz, toz, tez, Lz, tbz, trz⟩)), (D, dn, sealed (fun _ => 0) (encA ⟨ly, sy, oy, sty, iy, vey, bsy⟩)), (C, cn, sealed (fun _ => 0) (encA ⟨lx, sx, ox, stx, ix, vex, bsx⟩)), (Bw, kw, tbw), (Bz, kz, tbz), (Ay, ny, bsy), (Ax, nx, bsx)] [(Iw, imw, Lw), (Iz, imz, Lz)] [(g_w7, (fun _ => 0))]) (by kernel_rfl) (HK.out.drew) (fun hHeld => ?_)
              have HBr := Lib.hid (HB.out.drew)
              clear HK HB
              refine wpAnyH_take (i := 0) (oi := ⟨some 64, _, _, _, _, _⟩) (v := ?_) rfl (by as_aux_lemma => kernel_rfl) (by as_aux_lemma => kernel_rfl) (by as_aux_lemma => kernel_rfl) (fun _ _ _ h => h) (Or.inl ⟨by rfl, ?_⟩) (by assumption) ?_
              rotate_left
              · intro w hSw
                (try dsimp only at hSw)
                go_simp
                all_goals (with_reducible rfl)
              try simp only [Act.put, List.setIfInBounds_toArray, List.set_cons_zero, List.set_cons_succ]
              refine wpAnyH_take (i := 1) (oi := ⟨some 65, _, _, _, _, _⟩) (v := ?_) rfl (by as_aux_lemma => kernel_rfl) (by as_aux_lemma => kernel_rfl) (by as_aux_lemma => kernel_rfl) (fun _ _ _ h => h) (Or.inl ⟨by rfl, ?_⟩) (by assumption) ?_
              rotate_left
              · intro w hSw
                (try dsimp only at hSw)
                go_simp
                all_goals (with_reducible rfl)
              try simp only [Act.put, List.setIfInBounds_toArray, List.set_cons_zero, List.set_cons_succ]
              refine wpAnyH_take (i := 2) (oi := ⟨some 66, _, _, _, _, _⟩) (v := ?_) rfl (by as_aux_lemma => kernel_rfl) (by as_aux_lemma => kernel_rfl) (by as_aux_lemma => kernel_rfl) (fun _ _ _ h => h) (Or.inl ⟨by rfl, ?_⟩) (by assumption) ?_
              rotate_left
              · intro w hSw
                (try dsimp only at hSw)
                go_simp
                all_goals (with_reducible rfl)
              try simp only [Act.put, List.setIfInBounds_toArray, List.set_cons_zero, List.set_cons_succ]
              refine wpAnyH_take (i := 3) (oi := ⟨some 67, _, _, _, _, _⟩) (v := ?_) rfl (by as_aux_lemma => kernel_rfl) (by as_aux_lemma => kernel_rfl) (by as_aux_lemma => kernel_rfl) (fun _ _ _ h => h) (Or.inl ⟨by rfl, ?_⟩) (by assumption) ?_
              rotate_left
              · intro w hSw
                (try dsimp only at hSw)
                go_simp
                all_goals (with_reducible rfl)
              try simp only [Act.put, List.setIfInBounds_toArray, List.set_cons_zero, List.set_cons_succ]
              refine wpAnyH_take (i := 4) (oi := ⟨some 68, _, _, _, _, _⟩) (v := ?_) rfl (by as_aux_lemma => kernel_rfl) (by as_aux_lemma => kernel_rfl) (by as_aux_lemma => kernel_rfl) (fun _ _ _ h => h) (Or.inl ⟨by rfl, ?_⟩) (by assumption) ?_
              rotate_left
              · intro w hSw
                (try dsimp only at hSw)
                go_simp
                all_goals (with_reducible rfl)
              try simp only [Act.put, List.setIfInBounds_toArray, List.set_cons_zero, List.set_cons_succ]
              refine wpAnyH_take (i := 5) (oi := ⟨some 69, _, _, _, _, _⟩) (v := ?_) rfl (by as_aux_lemma => kernel_rfl) (by as_aux_lemma => kernel_rfl) (by as_aux_lemma => kernel_rfl) (fun _ _ _ h => h) (Or.inl ⟨by rfl, ?_⟩) (by assumption) ?_
              rotate_left
              · intro w hSw
                (try dsimp only at hSw)
                go_simp
                all_goals (with_reducible rfl)
              try simp only [Act.put, List.setIfInBounds_toArray, List.set_cons_zero, List.set_cons_succ]
              refine wpAnyH_take (i := 6) (oi := ⟨some 70, _, _, _, _, _⟩) (v := ?_) rfl (by as_aux_lemma => kernel_rfl) (by as_aux_lemma => kernel_rfl) (by as_aux_lemma => kernel_rfl) (fun _ _ _ h => h) (Or.inl ⟨by rfl, ?_⟩) (by assumption) ?_
              rotate_left
              · intro w hSw
                (try dsimp only at hSw)
                go_simp
                all_goals (with_reducible rfl)
              try simp only [Act.put, List.setIfInBounds_toArray, List.set_cons_zero, List.set_cons_succ]
              refine wpAnyH_take (i := 7) (oi := ⟨some 71, _, _, _, _, _⟩) (v := ?_) rfl (by as_aux_lemma => kernel_rfl) (by as_aux_lemma => kernel_rfl) (by as_aux_lemma => kernel_rfl) (fun _ _ _ h => h) (Or.inl ⟨by rfl, ?_⟩) (by assumption) ?_
              rotate_left
              · intro w hSw
                (try dsimp only at hSw)
                go_simp
                all_goals (with_reducible rfl)
              try simp only [Act.put, List.setIfInBounds_toArray, List.set_cons_zero, List.set_cons_succ]
              refine wpAnyH_take (i := 8) (oi := ⟨some 72, _, _, _, _, _⟩) (v := ?_) rfl (by as_aux_lemma => kernel_rfl) (by as_aux_lemma => kernel_rfl) (by as_aux_lemma => kernel_rfl) (fun _ _ _ h => h) (Or.inl ⟨by rfl, ?_⟩) (by assumption) ?_
              rotate_left
              · intro w hSw
                (try dsimp only at hSw)
                go_simp
                all_goals (with_reducible rfl)
              try simp only [Act.put, List.setIfInBounds_toArray, List.set_cons_zero, List.set_cons_succ]
              refine wpAnyH_take (i := 10) (oi := ⟨some 74, _, _, _, _, _⟩) (v := ?_) rfl (by as_aux_lemma => kernel_rfl) (by as_aux_lemma => kernel_rfl) (by as_aux_lemma => kernel_rfl) (fun _ _ _ h => h) (Or.inl ⟨by rfl, ?_⟩) (by assumption) ?_
              rotate_left
              · intro w hSw
                obtain ⟨l0, l1, l2, l3, l4, l5, l6⟩ := arr7 (w := w) (hSw.rows _ (.tail _ (.head _)))
                go_simp
                all_goals (with_reducible rfl)
              try simp only [Act.put, List.setIfInBounds_toArray, List.set_cons_zero, List.set_cons_succ]
              refine wpAnyH_take (i := 11) (oi := ⟨some 75, _, _, _, _, _⟩) (v := ?_) rfl (by as_aux_lemma => kernel_rfl) (by as_aux_lemma => kernel_rfl) (by as_aux_lemma => kernel_rfl) (fun _ _ _ h => h) (Or.inl ⟨by rfl, ?_⟩) (by assumption) ?_
              rotate_left
              · intro w hSw
                obtain ⟨l0, l1, l2, l3, l4, l5, l6⟩ := arr7 (w := w) (hSw.rows _ (.head _))
                go_simp
                all_goals (with_reducible rfl)
              try simp only [Act.put, List.setIfInBounds_toArray, List.set_cons_zero, List.set_cons_succ]
              obtain ⟨q3, hq3⟩ : ∃ q, decide ((⟨tlz, tsz, toz, tez, Lz, tbz, trz⟩ : TelP) = ⟨tlw, tsw, tow, tew, Lw, tbw, trw⟩) = q := ⟨_, rfl⟩
              refine wpAnyH_ready (rs := [9]) (by as_aux_lemma => kernel_rfl) (by simp) (AllReadyH.cons (o := ⟨some 73, _, _, _, _, _⟩) rfl (fun K hK => ?_) AllReadyH.nil)
              go_simp
              refine (sameB_is _ (hHeld.reads _ (.tail _ (.head _))) (hHeld.reads _ (.head _)) (q := q3) (by rw [putT_same HRz.out HRw.out]; exact hq3)).mono ?_
              rintro e _ ⟨rfl, rfl⟩
              have hS2 := hHeld.below (Below.refl _ _) (Nat.le_refl _)
              replace HBr := Lib.hid (HBr.out.trans ((Below.refl _ _).mono HBr.out.size))
              refine hK.out _ _ hS2 (fun hHeld => ?_)
              clear hK K hS2
              try simp only [Act.put, List.setIfInBounds_toArray, List.set_cons_zero, List.set_cons_succ]
              refine wpAnyH_ready (rs := [12]) (by as_aux_lemma => kernel_rfl) (by simp) (AllReadyH.cons (o := ⟨some 76, _, _, _, _, _⟩) rfl (fun K hK => ?_) AllReadyH.nil)
              go_simp
              refine (sameT_is _ tlz tsz toz tez trz tlw tsw tow tew trw Lz Lw tbz tbw (hHeld.ils _ (.tail _ (.head _))) (hHeld.ils _ (.head _)) (show imz ≤ 1000000 by omega) (hHeld.reads _ (.tail _ (.tail _ (.tail _ (.tail _ (.tail _ (.head _))))))) (hHeld.reads _ (.tail _ (.tail _ (.tail _ (.tail _ (.head _)))))) hq3).mono ?_
              rintro e u3 ⟨rfl, hb⟩
              have hS2 := hHeld.below hb (Nat.le_refl _)
              replace HBr := Lib.hid (HBr.out.trans (hb.mono HBr.out.size))
              refine hK.out _ _ hS2 (fun hHeld => ?_)
              clear hK K hS2
              try simp only [Act.put, List.setIfInBounds_toArray, List.set_cons_zero, List.set_cons_succ]
              clear hb
              refine wpAnyH_take (i := 13) (oi := ⟨some 77, _, _, _, _, _⟩) (v := ?_) rfl (by as_aux_lemma => kernel_rfl) (by as_aux_lemma => kernel_rfl) (by as_aux_lemma => kernel_rfl) (fun _ _ _ h => h) (Or.inl ⟨by rfl, ?_⟩) (by assumption) ?_
              rotate_left
              · intro w hSw
                (try dsimp only at hSw)
                go_simp
                all_goals (with_reducible rfl)
              try simp only [Act.put, List.setIfInBounds_toArray, List.set_cons_zero, List.set_cons_succ]
              refine wpAnyH_take (i := 14) (oi := ⟨some 78, _, _, _, _, _⟩) (v := ?_) rfl (by as_aux_lemma => kernel_rfl) (by as_aux_lemma => kernel_rfl) (by as_aux_lemma => kernel_rfl) (fun _ _ _ h => h) (Or.inl ⟨by rfl, ?_⟩) (by assumption) ?_
              rotate_left
              · intro w hSw
                (try dsimp only at hSw)
                go_simp
                all_goals (with_reducible rfl)
              try simp only [Act.put, List.setIfInBounds_toArray, List.set_cons_zero, List.set_cons_succ]
              refine wpAnyH_take (i := 15) (oi := ⟨some 79, _, _, _, _, _⟩) (v := ?_) rfl (by as_aux_lemma => kernel_rfl) (by as_aux_lemma => kernel_rfl) (by as_aux_lemma => kernel_rfl) (fun _ _ _ h => h) (Or.inl ⟨by rfl, ?_⟩) (by assumption) ?_
              rotate_left
              · intro w hSw
                (try dsimp only at hSw)
                go_simp
                all_goals (with_reducible rfl)
              try simp only [Act.put, List.setIfInBounds_toArray, List.set_cons_zero, List.set_cons_succ]
              refine wpAnyH_ready (rs := [16]) (by as_aux_lemma => kernel_rfl) (by simp) (AllReadyH.cons (o := ⟨some 80, _, _, _, _, _⟩) rfl (fun K hK => ?_) AllReadyH.nil)
              go_simp
              refine (awake_is _).mono ?_
              rintro e u5 ⟨rfl, hb⟩
              have hS2 := hHeld.below hb (Nat.le_refl _)
              replace HBr := Lib.hid (HBr.out.trans (hb.mono HBr.out.size))
              refine hK.out _ _ hS2 (fun hHeld => ?_)
              clear hK K hS2
              try simp only [Act.put, List.setIfInBounds_toArray, List.set_cons_zero, List.set_cons_succ]
              refine wpAnyH_take (i := 17) (oi := ⟨some 81, _, _, _, _, _⟩) (v := ?_) rfl (by as_aux_lemma => kernel_rfl) (by as_aux_lemma => kernel_rfl) (by as_aux_lemma => kernel_rfl) (fun _ _ _ h => h) (Or.inl ⟨by rfl, ?_⟩) (by assumption) ?_
              rotate_left
              · intro w hSw
                (try dsimp only at hSw)
                go_simp
                all_goals (with_reducible rfl)
              try simp only [Act.put, List.setIfInBounds_toArray, List.set_cons_zero, List.set_cons_succ]
              refine wpAnyH_take (i := 18) (oi := ⟨some 8, _, _, _, _, _⟩) (v := ?_) rfl (by as_aux_lemma => kernel_rfl) (by as_aux_lemma => kernel_rfl) (by as_aux_lemma => kernel_rfl) (fun _ _ _ h => h) (Or.inl ⟨by rfl, ?_⟩) (by assumption) ?_
              rotate_left
              · intro w hSw
                (try dsimp only at hSw)
                go_simp
                all_goals (with_reducible rfl)
              try simp only [Act.put, List.setIfInBounds_toArray, List.set_cons_zero, List.set_cons_succ]
              refine wpAnyH_done (by kernel_rfl) ?_ _
              have HK := Lib.hid hHeld
              have HB := HBr
              clear HBr hHeld
              go_wp2
              go_ret
              exact told_mk (by simp) HB.out
            · replace HRw := Lib.hid HRw
              have hs1 := q1
              have hs2 := q2
              have q1 := Lib.hid (decide_eq_true q1)
              have q2 := Lib.hid (decide_eq_true q2)
              go_enter Try.func6, Try.ntmps6
              obtain ⟨a0, a1, a2, a3, a4, a5, a6⟩ := arr7 (w := (World.alloc (World.alloc (World.alloc (World.alloc w (.cells #[.int .i64 lx, .int .i64 sx, .int .u8 ox, .int .i64 stx, .int .i64 ix, .int .i64 vex, .slice Ax nx cx] 25)) (.cells #[.int .i64 ly, .int .i64 sy, .int .u8 oy, .int .i64 sty, .int .i64 iy, .int .i64 vey, .slice Ay ny cy] 25)) (.cells #[.int .i64 tlz, .int .i64 tsz, .int .u8 toz, .int .i64 tez, .slice Iz imz mcz, .slice Bz kz dz, .int .i64 trz] 34)) (.cells #[.int .i64 tlw, .int .i64 tsw, .int .u8 tow, .int .i64 tew, .slice Iw imw mcw, .slice Bw kw dw, .int .i64 trw] 34))) (by rw [Ew1.out, Ew2.out, Ew3.out, Ew4.out]; exact (HK.out.rows _ (.tail _ (.tail _ (.tail _ (.head _))))))
              obtain ⟨b0, b1, b2, b3, b4, b5, b6⟩ := arr7 (w := (World.alloc (World.alloc (World.alloc (World.alloc w (.cells #[.int .i64 lx, .int .i64 sx, .int .u8 ox, .int .i64 stx, .int .i64 ix, .int .i64 vex, .slice Ax nx cx] 25)) (.cells #[.int .i64 ly, .int .i64 sy, .int .u8 oy, .int .i64 sty, .int .i64 iy, .int .i64 vey, .slice Ay ny cy] 25)) (.cells #[.int .i64 tlz, .int .i64 tsz, .int .u8 toz, .int .i64 tez, .slice Iz imz mcz, .slice Bz kz dz, .int .i64 trz] 34)) (.cells #[.int .i64 tlw, .int .i64 tsw, .int .u8 tow, .int .i64 tew, .slice Iw imw mcw, .slice Bw kw dw, .int .i64 trw] 34))) (by rw [Ew1.out, Ew2.out, Ew3.out, Ew4.out]; exact (HK.out.rows _ (.tail _ (.head _))))
              go_wp2_with fail
              rw [Ew1.out]
              rw [Ew2.out]
              rw [Ew3.out]
              rw [Ew4.out]
              clear Ew1 Ew2 Ew3 Ew4
              refine (small_is w4 lx sx ox stx ix vex tlz tsz toz tez trz q1.out).mono ?_
              rintro e w5 ⟨rfl, hb⟩
              have hW : Below w4.heap.size w4 w5 := hb
              replace HK := Lib.hid (HK.out.below hW (Nat.le_refl _))
              replace HB := Lib.hid (HB.out.trans (hW.mono HB.out.size))
              clear hW
              clear a0 a1 a2 a3 a4 a5 a6 b0 b1 b2 b3 b4 b5 b6 hb
              obtain ⟨a0, a1, a2, a3, a4, a5, a6⟩ := arr7 (w := w5) (by exact (HK.out.rows _ (.tail _ (.tail _ (.head _)))))
              obtain ⟨b0, b1, b2, b3, b4, b5, b6⟩ := arr7 (w := w5) (by exact (HK.out.rows _ (.head _)))
              go_wp2_with fail
              refine (small_is w5 ly sy oy sty iy vey tlw tsw tow tew trw q2.out).mono ?_
              rintro e w6 ⟨rfl, hb⟩
              have hW : Below w5.heap.size w5 w6 := hb
              replace HK := Lib.hid (HK.out.below hW (Nat.le_refl _))
              replace HB := Lib.hid (HB.out.trans (hW.mono HB.out.size))
              clear hW
              clear a0 a1 a2 a3 a4 a5 a6 b0 b1 b2 b3 b4 b5 b6 hb
              obtain ⟨g_w7, h_w7⟩ : ∃ g, w6.heap.size = g := ⟨_, rfl⟩
              obtain ⟨w7, e⟩ : ∃ x, w6.alloc (.cells Z0 39) = x := ⟨_, rfl⟩
              obtain ⟨hW, hx⟩ := box_new e
              rw [h_w7] at hx
              have Ew7 := Lib.hid e
              clear e
              replace hx := Lib.hid hx
              replace HK := Lib.hid (HK.out.below hW (Nat.le_refl _))
              replace HB := Lib.hid (HB.out.trans (hW.mono HB.out.size))
              clear hW
              clear hx
              have hTb : Tb w7 g_w7 (fun _ => 0) := by rw [← Ew7.out]; exact tab_nought w6 h_w7
              replace HK := Lib.hid (HK.out.tab (hTb))
              clear hTb
              have hz39 := zeroT39
              obtain ⟨a0, a1, a2, a3, a4, a5, a6⟩ := arr7 (w := (World.alloc w6 (.cells Z0 39))) (by rw [Ew7.out]; exact (HK.out.rows _ (.tail _ (.tail _ (.tail _ (.head _))))))
              have putx : putA (fun _ => 0) ⟨lx, sx, ox, stx, ix, vex, bsx⟩ = (sealed (fun _ => 0) (encA ⟨lx, sx, ox, stx, ix, vex, bsx⟩), 0) := by unfold putA; rw [if_pos HRx.out]
              have HPx := Lib.hid putx
              clear putx
              go_wp2_with fail
              rw [Ew7.out]
              clear Ew7
              refine (putA_is w7 (HK.out.tabs _ (.head _)).1 (HK.out.tabs _ (.head _)).2 lx sx ox stx ix vex bsx (HK.out.reads _ (.tail _ (.tail _ (.tail _ (.head _))))) (show nx ≤ 1000000 by omega)).mono ?_
              rintro e w8 ⟨C, cn, cc, rfl, hoc, hb⟩
              rw [HPx.out] at hoc ⊢
              simp only at hoc ⊢
              clear a0 a1 a2 a3 a4 a5 a6 hz39
              have hW : Below w7.heap.size w7 w8 := hb
              replace HK := Lib.hid (HK.out.below hW (Nat.le_refl _))
              replace HB := Lib.hid (HB.out.trans (hW.mono HB.out.size))
              clear hW
              replace HK := Lib.hid (HK.out.read (hoc.rd))
              clear hoc hb
              obtain ⟨a0, a1, a2, a3, a4, a5, a6⟩ := arr7 (w := w8) (by exact (HK.out.rows _ (.tail _ (.tail _ (.head _)))))
              obtain ⟨py, hpy⟩ : ∃ x, putA (fun _ => 0) ⟨ly, sy, oy, sty, iy, vey, bsy⟩ = x := ⟨_, rfl⟩
              obtain ⟨bD, eD⟩ := py
              have putx : putA (fun _ => 0) ⟨ly, sy, oy, sty, iy, vey, bsy⟩ = (sealed (fun _ => 0) (encA ⟨ly, sy, oy, sty, iy, vey, bsy⟩), 0) := by unfold putA; rw [if_pos HRy.out]
              rw [putx] at hpy
              injection hpy with h1 h2
              subst h1 h2
              have hpy := putx
              clear putx
              have HPy := Lib.hid hpy
              clear hpy
              go_wp2_with fail
              refine (putA_is w8 (HK.out.tabs _ (.head _)).1 (HK.out.tabs _ (.head _)).2 ly sy oy sty iy vey bsy (HK.out.reads _ (.tail _ (.tail _ (.tail _ (.head _))))) (show ny ≤ 1000000 by omega)).mono ?_
              rintro e w9 ⟨D, dn, dc, rfl, hod, hb⟩
              rw [HPy.out] at hod ⊢
              simp only at hod ⊢
              clear a0 a1 a2 a3 a4 a5 a6
              have hW : Below w8.heap.size w8 w9 := hb
              replace HK := Lib.hid (HK.out.below hW (Nat.le_refl _))
              replace HB := Lib.hid (HB.out.trans (hW.mono HB.out.size))
              clear hW
              replace HK := Lib.hid (HK.out.read (hod.rd))
              clear hod hb
              go_wp2_with fail
              refine wp_region_held_drew (S := fun u => Keep u [(g + 1 + 1 + 1, #[.int .i64 tlw, .int .i64 tsw, .int .u8 tow, .int .i64 tew, .slice Iw imw mcw, .slice Bw kw dw, .int .i64 trw], 34), (g + 1 + 1, #[.int .i64 tlz, .int .i64 tsz, .int .u8 toz, .int .i64 tez, .slice Iz imz mcz, .slice Bz kz dz, .int .i64 trz], 34), (g + 1, #[.int .i64 ly, .int .i64 sy, .int .u8 oy, .int .i64 sty, .int .i64 iy, .int .i64 vey, .slice Ay ny cy], 25), (g, #[.int .i64 lx, .int .i64 sx, .int .u8 ox, .int .i64 stx, .int .i64 ix, .int .i64 vex, .slice Ax nx cx], 25)] [(D, dn, sealed (fun _ => 0) (encA ⟨ly, sy, oy, sty, iy, vey, bsy⟩)), (C, cn, sealed (fun _ => 0) (encA ⟨lx, sx, ox, stx, ix, vex, bsx⟩)), (Bw, kw, tbw), (Bz, kz, tbz), (Ay, ny, bsy), (Ax, nx, bsx)] [(Iw, imw, Lw), (Iz, imz, Lz)] [(g_w7, (fun _ => 0))]) (by kernel_rfl) (HK.out.drew) (fun hHeld => ?_)
              have HBr := Lib.hid (HB.out.drew)
              clear HK HB
              refine wpAnyH_take (i := 0) (oi := ⟨some 39, _, _, _, _, _⟩) (v := ?_) rfl (by as_aux_lemma => kernel_rfl) (by as_aux_lemma => kernel_rfl) (by as_aux_lemma => kernel_rfl) (fun _ _ _ h => h) (Or.inl ⟨by rfl, ?_⟩) (by assumption) ?_
              rotate_left
              · intro w hSw
                (try dsimp only at hSw)
                go_simp
                all_goals (with_reducible rfl)
              try simp only [Act.put, List.setIfInBounds_toArray, List.set_cons_zero, List.set_cons_succ]
              refine wpAnyH_take (i := 1) (oi := ⟨some 40, _, _, _, _, _⟩) (v := ?_) rfl (by as_aux_lemma => kernel_rfl) (by as_aux_lemma => kernel_rfl) (by as_aux_lemma => kernel_rfl) (fun _ _ _ h => h) (Or.inl ⟨by rfl, ?_⟩) (by assumption) ?_
              rotate_left
              · intro w hSw
                (try dsimp only at hSw)
                go_simp
                all_goals (with_reducible rfl)
              try simp only [Act.put, List.setIfInBounds_toArray, List.set_cons_zero, List.set_cons_succ]
              refine wpAnyH_take (i := 2) (oi := ⟨some 41, _, _, _, _, _⟩) (v := ?_) rfl (by as_aux_lemma => kernel_rfl) (by as_aux_lemma => kernel_rfl) (by as_aux_lemma => kernel_rfl) (fun _ _ _ h => h) (Or.inl ⟨by rfl, ?_⟩) (by assumption) ?_
              rotate_left
              · intro w hSw
                (try dsimp only at hSw)
                go_simp
                all_goals (with_reducible rfl)
              try simp only [Act.put, List.setIfInBounds_toArray, List.set_cons_zero, List.set_cons_succ]
              refine wpAnyH_take (i := 3) (oi := ⟨some 42, _, _, _, _, _⟩) (v := ?_) rfl (by as_aux_lemma => kernel_rfl) (by as_aux_lemma => kernel_rfl) (by as_aux_lemma => kernel_rfl) (fun _ _ _ h => h) (Or.inl ⟨by rfl, ?_⟩) (by assumption) ?_
              rotate_left
              · intro w hSw
                (try dsimp only at hSw)
                go_simp
                all_goals (with_reducible rfl)
              try simp only [Act.put, List.setIfInBounds_toArray, List.set_cons_zero, List.set_cons_succ]
              refine wpAnyH_take (i := 4) (oi := ⟨some 43, _, _, _, _, _⟩) (v := ?_) rfl (by as_aux_lemma => kernel_rfl) (by as_aux_lemma => kernel_rfl) (by as_aux_lemma => kernel_rfl) (fun _ _ _ h => h) (Or.inl ⟨by rfl, ?_⟩) (by assumption) ?_
              rotate_left
              · intro w hSw
                (try dsimp only at hSw)
                go_simp
                all_goals (with_reducible rfl)
              try simp only [Act.put, List.setIfInBounds_toArray, List.set_cons_zero, List.set_cons_succ]
              refine wpAnyH_take (i := 5) (oi := ⟨some 44, _, _, _, _, _⟩) (v := ?_) rfl (by as_aux_lemma => kernel_rfl) (by as_aux_lemma => kernel_rfl) (by as_aux_lemma => kernel_rfl) (fun _ _ _ h => h) (Or.inl ⟨by rfl, ?_⟩) (by assumption) ?_
              rotate_left
              · intro w hSw
                (try dsimp only at hSw)
                go_simp
                all_goals (with_reducible rfl)
              try simp only [Act.put, List.setIfInBounds_toArray, List.set_cons_zero, List.set_cons_succ]
              refine wpAnyH_take (i := 6) (oi := ⟨some 45, _, _, _, _, _⟩) (v := ?_) rfl (by as_aux_lemma => kernel_rfl) (by as_aux_lemma => kernel_rfl) (by as_aux_lemma => kernel_rfl) (fun _ _ _ h => h) (Or.inl ⟨by rfl, ?_⟩) (by assumption) ?_
              rotate_left
              · intro w hSw
                (try dsimp only at hSw)
                go_simp
                all_goals (with_reducible rfl)
              try simp only [Act.put, List.setIfInBounds_toArray, List.set_cons_zero, List.set_cons_succ]
              refine wpAnyH_take (i := 7) (oi := ⟨some 46, _, _, _, _, _⟩) (v := ?_) rfl (by as_aux_lemma => kernel_rfl) (by as_aux_lemma => kernel_rfl) (by as_aux_lemma => kernel_rfl) (fun _ _ _ h => h) (Or.inl ⟨by rfl, ?_⟩) (by assumption) ?_
              rotate_left
              · intro w hSw
                (try dsimp only at hSw)
                go_simp
                all_goals (with_reducible rfl)
              try simp only [Act.put, List.setIfInBounds_toArray, List.set_cons_zero, List.set_cons_succ]
              refine wpAnyH_take (i := 8) (oi := ⟨some 47, _, _, _, _, _⟩) (v := ?_) rfl (by as_aux_lemma => kernel_rfl) (by as_aux_lemma => kernel_rfl) (by as_aux_lemma => kernel_rfl) (fun _ _ _ h => h) (Or.inl ⟨by rfl, ?_⟩) (by assumption) ?_
              rotate_left
              · intro w hSw
                (try dsimp only at hSw)
                go_simp
                all_goals (with_reducible rfl)
              try simp only [Act.put, List.setIfInBounds_toArray, List.set_cons_zero, List.set_cons_succ]
              refine wpAnyH_take (i := 10) (oi := ⟨some 49, _, _, _, _, _⟩) (v := ?_) rfl (by as_aux_lemma => kernel_rfl) (by as_aux_lemma => kernel_rfl) (by as_aux_lemma => kernel_rfl) (fun _ _ _ h => h) (Or.inl ⟨by rfl, ?_⟩) (by assumption) ?_
              rotate_left
              · intro w hSw
                obtain ⟨l0, l1, l2, l3, l4, l5, l6⟩ := arr7 (w := w) (hSw.rows _ (.tail _ (.tail _ (.tail _ (.head _)))))
                go_simp
                all_goals (with_reducible rfl)
              try simp only [Act.put, List.setIfInBounds_toArray, List.set_cons_zero, List.set_cons_succ]
              refine wpAnyH_take (i := 11) (oi := ⟨some 50, _, _, _, _, _⟩) (v := ?_) rfl (by as_aux_lemma => kernel_rfl) (by as_aux_lemma => kernel_rfl) (by as_aux_lemma => kernel_rfl) (fun _ _ _ h => h) (Or.inl ⟨by rfl, ?_⟩) (by assumption) ?_
              rotate_left
              · intro w hSw
                obtain ⟨l0, l1, l2, l3, l4, l5, l6⟩ := arr7 (w := w) (hSw.rows _ (.tail _ (.tail _ (.head _))))
                go_simp
                all_goals (with_reducible rfl)
              try simp only [Act.put, List.setIfInBounds_toArray, List.set_cons_zero, List.set_cons_succ]
              obtain ⟨q, hq⟩ : ∃ q, decide ((⟨lx, sx, ox, stx, ix, vex, bsx⟩ : AskP) = ⟨ly, sy, oy, sty, iy, vey, bsy⟩) = q := ⟨_, rfl⟩
              refine wpAnyH_ready (rs := [9]) (by as_aux_lemma => kernel_rfl) (by simp) (AllReadyH.cons (o := ⟨some 48, _, _, _, _, _⟩) rfl (fun K hK => ?_) AllReadyH.nil)
              go_simp
              refine (sameB_is _ (hHeld.reads _ (.tail _ (.head _))) (hHeld.reads _ (.head _)) (q := q) (by rw [putA_same HRx.out HRy.out]; exact hq)).mono ?_
              rintro e _ ⟨rfl, rfl⟩
              have hS2 := hHeld.below (Below.refl _ _) (Nat.le_refl _)
              replace HBr := Lib.hid (HBr.out.trans ((Below.refl _ _).mono HBr.out.size))
              refine hK.out _ _ hS2 (fun hHeld => ?_)
              clear hK K hS2
              try simp only [Act.put, List.setIfInBounds_toArray, List.set_cons_zero, List.set_cons_succ]
              refine wpAnyH_ready (rs := [12]) (by as_aux_lemma => kernel_rfl) (by simp) (AllReadyH.cons (o := ⟨some 51, _, _, _, _, _⟩) rfl (fun K hK => ?_) AllReadyH.nil)
              go_simp
              refine (sameA_is _ lx sx ox stx ix vex ly sy oy sty iy vey bsx bsy (hHeld.reads _ (.tail _ (.tail _ (.tail _ (.tail _ (.tail _ (.head _))))))) (hHeld.reads _ (.tail _ (.tail _ (.tail _ (.tail _ (.head _)))))) hq).mono ?_
              rintro e u1 ⟨rfl, hb⟩
              have hS2 := hHeld.below hb (Nat.le_refl _)
              replace HBr := Lib.hid (HBr.out.trans (hb.mono HBr.out.size))
              refine hK.out _ _ hS2 (fun hHeld => ?_)
              clear hK K hS2
              try simp only [Act.put, List.setIfInBounds_toArray, List.set_cons_zero, List.set_cons_succ]
              clear hb
              refine wpAnyH_take (i := 13) (oi := ⟨some 52, _, _, _, _, _⟩) (v := ?_) rfl (by as_aux_lemma => kernel_rfl) (by as_aux_lemma => kernel_rfl) (by as_aux_lemma => kernel_rfl) (fun _ _ _ h => h) (Or.inl ⟨by rfl, ?_⟩) (by assumption) ?_
              rotate_left
              · intro w hSw
                (try dsimp only at hSw)
                go_simp
                all_goals (with_reducible rfl)
              try simp only [Act.put, List.setIfInBounds_toArray, List.set_cons_zero, List.set_cons_succ]
              refine wpAnyH_take (i := 14) (oi := ⟨some 53, _, _, _, _, _⟩) (v := ?_) rfl (by as_aux_lemma => kernel_rfl) (by as_aux_lemma => kernel_rfl) (by as_aux_lemma => kernel_rfl) (fun _ _ _ h => h) (Or.inl ⟨by rfl, ?_⟩) (by assumption) ?_
              rotate_left
              · intro w hSw
                (try dsimp only at hSw)
                go_simp
                all_goals (with_reducible rfl)
              try simp only [Act.put, List.setIfInBounds_toArray, List.set_cons_zero, List.set_cons_succ]
              refine wpAnyH_done (by kernel_rfl) ?_ _
              have HK := Lib.hid hHeld
              have HB := HBr
              clear HBr hHeld
              obtain ⟨a0, a1, a2, a3, a4, a5, a6⟩ := arr7 (w := u1) (by exact (HK.out.rows _ (.tail _ (.head _))))
              have putx : putT (fun _ => 0) ⟨tlz, tsz, toz, tez, Lz, tbz, trz⟩ = (sealed (fun _ => 0) (encT ⟨tlz, tsz, toz, tez, Lz, tbz, trz⟩), 0) := by unfold putT; rw [if_pos HRz.out]
              have HPz := Lib.hid putx
              clear putx
              go_wp2_with fail
              refine (putT_is u1 (HK.out.tabs _ (.head _)).1 (HK.out.tabs _ (.head _)).2 tlz tsz toz tez trz (HK.out.ils _ (.tail _ (.head _))) (show imz ≤ 1000000 by omega) tbz (HK.out.reads _ (.tail _ (.tail _ (.tail _ (.head _))))) (show kz ≤ 1000000 by omega)).mono ?_
              rintro e w11 ⟨G, gn, gc, rfl, hoc, hb⟩
              rw [HPz.out] at hoc ⊢
              simp only at hoc ⊢
              clear a0 a1 a2 a3 a4 a5 a6
              have hW : Below u1.heap.size u1 w11 := hb
              replace HK := Lib.hid (HK.out.below hW (Nat.le_refl _))
              replace HB := Lib.hid (HB.out.trans (hW.mono HB.out.size))
              clear hW
              replace HK := Lib.hid (HK.out.read (hoc.rd))
              clear hoc hb
              obtain ⟨a0, a1, a2, a3, a4, a5, a6⟩ := arr7 (w := w11) (by exact (HK.out.rows _ (.head _)))
              obtain ⟨py, hpy⟩ : ∃ x, putT (fun _ => 0) ⟨tlw, tsw, tow, tew, Lw, tbw, trw⟩ = x := ⟨_, rfl⟩
              obtain ⟨bE, eE⟩ := py
              have putx : putT (fun _ => 0) ⟨tlw, tsw, tow, tew, Lw, tbw, trw⟩ = ([], 110) := by unfold putT; rw [if_neg HRw.out]
              rw [putx] at hpy
              injection hpy with h1 h2
              subst h1 h2
              have hpy := putx
              clear putx
              have HPw := Lib.hid hpy
              clear hpy
              go_wp2_with fail
              refine (putT_is w11 (HK.out.tabs _ (.head _)).1 (HK.out.tabs _ (.head _)).2 tlw tsw tow tew trw (HK.out.ils _ (.head _)) (show imw ≤ 1000000 by omega) tbw (HK.out.reads _ (.tail _ (.tail _ (.tail _ (.head _))))) (show kw ≤ 1000000 by omega)).mono ?_
              rintro e w12 ⟨H, hn, hc, rfl, hod, hb⟩
              rw [HPw.out] at hod ⊢
              simp only at hod ⊢
              clear a0 a1 a2 a3 a4 a5 a6
              have hW : Below w11.heap.size w11 w12 := hb
              replace HK := Lib.hid (HK.out.below hW (Nat.le_refl _))
              replace HB := Lib.hid (HB.out.trans (hW.mono HB.out.size))
              clear hW
              replace HK := Lib.hid (HK.out.read (hod.rd))
              clear hod hb
              go_wp2_with fail
              refine wp_region_held_drew (S := fun u => Keep u [(g + 1 + 1 + 1, #[.int .i64 tlw, .int .i64 tsw, .int .u8 tow, .int .i64 tew, .slice Iw imw mcw, .slice Bw kw dw, .int .i64 trw], 34), (g + 1 + 1, #[.int .i64 tlz, .int .i64 tsz, .int .u8 toz, .int .i64 tez, .slice Iz imz mcz, .slice Bz kz dz, .int .i64 trz], 34), (g + 1, #[.int .i64 ly, .int .i64 sy, .int .u8 oy, .int .i64 sty, .int .i64 iy, .int .i64 vey, .slice Ay ny cy], 25), (g, #[.int .i64 lx, .int .i64 sx, .int .u8 ox, .int .i64 stx, .int .i64 ix, .int .i64 vex, .slice Ax nx cx], 25)] [(H, hn, []), (G, gn, sealed (fun _ => 0) (encT ⟨tlz, tsz, toz, tez, Lz, tbz, trz⟩)), (D, dn, sealed (fun _ => 0) (encA ⟨ly, sy, oy, sty, iy, vey, bsy⟩)), (C, cn, sealed (fun _ => 0) (encA ⟨lx, sx, ox, stx, ix, vex, bsx⟩)), (Bw, kw, tbw), (Bz, kz, tbz), (Ay, ny, bsy), (Ax, nx, bsx)] [(Iw, imw, Lw), (Iz, imz, Lz)] [(g_w7, (fun _ => 0))]) (by kernel_rfl) (HK.out.drew) (fun hHeld => ?_)
              have HBr := Lib.hid (HB.out.drew)
              clear HK HB
              refine wpAnyH_take (i := 0) (oi := ⟨some 64, _, _, _, _, _⟩) (v := ?_) rfl (by as_aux_lemma => kernel_rfl) (by as_aux_lemma => kernel_rfl) (by as_aux_lemma => kernel_rfl) (fun _ _ _ h => h) (Or.inl ⟨by rfl, ?_⟩) (by assumption) ?_
              rotate_left
              · intro w hSw
                (try dsimp only at hSw)
                go_simp
                all_goals (with_reducible rfl)
              try simp only [Act.put, List.setIfInBounds_toArray, List.set_cons_zero, List.set_cons_succ]
              refine wpAnyH_take (i := 1) (oi := ⟨some 65, _, _, _, _, _⟩) (v := ?_) rfl (by as_aux_lemma => kernel_rfl) (by as_aux_lemma => kernel_rfl) (by as_aux_lemma => kernel_rfl) (fun _ _ _ h => h) (Or.inl ⟨by rfl, ?_⟩) (by assumption) ?_
              rotate_left
              · intro w hSw
                (try dsimp only at hSw)
                go_simp
                all_goals (with_reducible rfl)
              try simp only [Act.put, List.setIfInBounds_toArray, List.set_cons_zero, List.set_cons_succ]
              refine wpAnyH_take (i := 2) (oi := ⟨some 66, _, _, _, _, _⟩) (v := ?_) rfl (by as_aux_lemma => kernel_rfl) (by as_aux_lemma => kernel_rfl) (by as_aux_lemma => kernel_rfl) (fun _ _ _ h => h) (Or.inl ⟨by rfl, ?_⟩) (by assumption) ?_
              rotate_left
              · intro w hSw
                (try dsimp only at hSw)
                go_simp
                all_goals (with_reducible rfl)
              try simp only [Act.put, List.setIfInBounds_toArray, List.set_cons_zero, List.set_cons_succ]
              refine wpAnyH_take (i := 3) (oi := ⟨some 67, _, _, _, _, _⟩) (v := ?_) rfl (by as_aux_lemma => kernel_rfl) (by as_aux_lemma => kernel_rfl) (by as_aux_lemma => kernel_rfl) (fun _ _ _ h => h) (Or.inl ⟨by rfl, ?_⟩) (by assumption) ?_
              rotate_left
              · intro w hSw
                (try dsimp only at hSw)
                go_simp
                all_goals (with_reducible rfl)
              try simp only [Act.put, List.setIfInBounds_toArray, List.set_cons_zero, List.set_cons_succ]
              refine wpAnyH_take (i := 4) (oi := ⟨some 68, _, _, _, _, _⟩) (v := ?_) rfl (by as_aux_lemma => kernel_rfl) (by as_aux_lemma => kernel_rfl) (by as_aux_lemma => kernel_rfl) (fun _ _ _ h => h) (Or.inl ⟨by rfl, ?_⟩) (by assumption) ?_
              rotate_left
              · intro w hSw
                (try dsimp only at hSw)
                go_simp
                all_goals (with_reducible rfl)
              try simp only [Act.put, List.setIfInBounds_toArray, List.set_cons_zero, List.set_cons_succ]
              refine wpAnyH_take (i := 5) (oi := ⟨some 69, _, _, _, _, _⟩) (v := ?_) rfl (by as_aux_lemma => kernel_rfl) (by as_aux_lemma => kernel_rfl) (by as_aux_lemma => kernel_rfl) (fun _ _ _ h => h) (Or.inl ⟨by rfl, ?_⟩) (by assumption) ?_
              rotate_left
              · intro w hSw
                (try dsimp only at hSw)
                go_simp
                all_goals (with_reducible rfl)
              try simp only [Act.put, List.setIfInBounds_toArray, List.set_cons_zero, List.set_cons_succ]
              refine wpAnyH_take (i := 6) (oi := ⟨some 70, _, _, _, _, _⟩) (v := ?_) rfl (by as_aux_lemma => kernel_rfl) (by as_aux_lemma => kernel_rfl) (by as_aux_lemma => kernel_rfl) (fun _ _ _ h => h) (Or.inl ⟨by rfl, ?_⟩) (by assumption) ?_
              rotate_left
              · intro w hSw
                (try dsimp only at hSw)
                go_simp
                all_goals (with_reducible rfl)
              try simp only [Act.put, List.setIfInBounds_toArray, List.set_cons_zero, List.set_cons_succ]
              refine wpAnyH_take (i := 7) (oi := ⟨some 71, _, _, _, _, _⟩) (v := undef) rfl (by as_aux_lemma => kernel_rfl) (by as_aux_lemma => kernel_rfl) (by as_aux_lemma => kernel_rfl) (fun _ _ _ h => h) (Or.inr ⟨by rfl, rfl⟩) (by assumption) ?_
              try simp only [Act.put, List.setIfInBounds_toArray, List.set_cons_zero, List.set_cons_succ]
              refine wpAnyH_take (i := 8) (oi := ⟨some 72, _, _, _, _, _⟩) (v := undef) rfl (by as_aux_lemma => kernel_rfl) (by as_aux_lemma => kernel_rfl) (by as_aux_lemma => kernel_rfl) (fun _ _ _ h => h) (Or.inr ⟨by rfl, rfl⟩) (by assumption) ?_
              try simp only [Act.put, List.setIfInBounds_toArray, List.set_cons_zero, List.set_cons_succ]
              refine wpAnyH_take (i := 9) (oi := ⟨some 73, _, _, _, _, _⟩) (v := undef) rfl (by as_aux_lemma => kernel_rfl) (by as_aux_lemma => kernel_rfl) (by as_aux_lemma => kernel_rfl) (fun _ _ _ h => h) (Or.inr ⟨by rfl, rfl⟩) (by assumption) ?_
              try simp only [Act.put, List.setIfInBounds_toArray, List.set_cons_zero, List.set_cons_succ]
              refine wpAnyH_take (i := 10) (oi := ⟨some 74, _, _, _, _, _⟩) (v := undef) rfl (by as_aux_lemma => kernel_rfl) (by as_aux_lemma => kernel_rfl) (by as_aux_lemma => kernel_rfl) (fun _ _ _ h => h) (Or.inr ⟨by rfl, rfl⟩) (by assumption) ?_
              try simp only [Act.put, List.setIfInBounds_toArray, List.set_cons_zero, List.set_cons_succ]
              refine wpAnyH_take (i := 11) (oi := ⟨some 75, _, _, _, _, _⟩) (v := undef) rfl (by as_aux_lemma => kernel_rfl) (by as_aux_lemma => kernel_rfl) (by as_aux_lemma => kernel_rfl) (fun _ _ _ h => h) (Or.inr ⟨by rfl, rfl⟩) (by assumption) ?_
              try simp only [Act.put, List.setIfInBounds_toArray, List.set_cons_zero, List.set_cons_succ]
              refine wpAnyH_take (i := 12) (oi := ⟨some 76, _, _, _, _, _⟩) (v := undef) rfl (by as_aux_lemma => kernel_rfl) (by as_aux_lemma => kernel_rfl) (by as_aux_lemma => kernel_rfl) (fun _ _ _ h => h) (Or.inr ⟨by rfl, rfl⟩) (by assumption) ?_
              try simp only [Act.put, List.setIfInBounds_toArray, List.set_cons_zero, List.set_cons_succ]
              refine wpAnyH_take (i := 13) (oi := ⟨some 77, _, _, _, _, _⟩) (v := undef) rfl (by as_aux_lemma => kernel_rfl) (by as_aux_lemma => kernel_rfl) (by as_aux_lemma => kernel_rfl) (fun _ _ _ h => h) (Or.inr ⟨by rfl, rfl⟩) (by assumption) ?_
              try simp only [Act.put, List.setIfInBounds_toArray, List.set_cons_zero, List.set_cons_succ]
              refine wpAnyH_take (i := 14) (oi := ⟨some 78, _, _, _, _, _⟩) (v := ?_) rfl (by as_aux_lemma => kernel_rfl) (by as_aux_lemma => kernel_rfl) (by as_aux_lemma => kernel_rfl) (fun _ _ _ h => h) (Or.inl ⟨by rfl, ?_⟩) (by assumption) ?_
              rotate_left
              · intro w hSw
                (try dsimp only at hSw)
                go_simp
                all_goals (with_reducible rfl)
              try simp only [Act.put, List.setIfInBounds_toArray, List.set_cons_zero, List.set_cons_succ]
              refine wpAnyH_take (i := 15) (oi := ⟨some 79, _, _, _, _, _⟩) (v := ?_) rfl (by as_aux_lemma => kernel_rfl) (by as_aux_lemma => kernel_rfl) (by as_aux_lemma => kernel_rfl) (fun _ _ _ h => h) (Or.inl ⟨by rfl, ?_⟩) (by assumption) ?_
              rotate_left
              · intro w hSw
                (try dsimp only at hSw)
                go_simp
                all_goals (with_reducible rfl)
              try simp only [Act.put, List.setIfInBounds_toArray, List.set_cons_zero, List.set_cons_succ]
              refine wpAnyH_ready (rs := [16]) (by as_aux_lemma => kernel_rfl) (by simp) (AllReadyH.cons (o := ⟨some 80, _, _, _, _, _⟩) rfl (fun K hK => ?_) AllReadyH.nil)
              go_simp
              refine (awake_is _).mono ?_
              rintro e u5 ⟨rfl, hb⟩
              have hS2 := hHeld.below hb (Nat.le_refl _)
              replace HBr := Lib.hid (HBr.out.trans (hb.mono HBr.out.size))
              refine hK.out _ _ hS2 (fun hHeld => ?_)
              clear hK K hS2
              try simp only [Act.put, List.setIfInBounds_toArray, List.set_cons_zero, List.set_cons_succ]
              refine wpAnyH_take (i := 17) (oi := ⟨some 81, _, _, _, _, _⟩) (v := ?_) rfl (by as_aux_lemma => kernel_rfl) (by as_aux_lemma => kernel_rfl) (by as_aux_lemma => kernel_rfl) (fun _ _ _ h => h) (Or.inl ⟨by rfl, ?_⟩) (by assumption) ?_
              rotate_left
              · intro w hSw
                (try dsimp only at hSw)
                go_simp
                all_goals (with_reducible rfl)
              try simp only [Act.put, List.setIfInBounds_toArray, List.set_cons_zero, List.set_cons_succ]
              refine wpAnyH_take (i := 18) (oi := ⟨some 8, _, _, _, _, _⟩) (v := ?_) rfl (by as_aux_lemma => kernel_rfl) (by as_aux_lemma => kernel_rfl) (by as_aux_lemma => kernel_rfl) (fun _ _ _ h => h) (Or.inl ⟨by rfl, ?_⟩) (by assumption) ?_
              rotate_left
              · intro w hSw
                (try dsimp only at hSw)
                go_simp
                all_goals (with_reducible rfl)
              try simp only [Act.put, List.setIfInBounds_toArray, List.set_cons_zero, List.set_cons_succ]
              refine wpAnyH_done (by kernel_rfl) ?_ _
              have HK := Lib.hid hHeld
              have HB := HBr
              clear HBr hHeld
              go_wp2
              go_ret
              exact told_mk (by simp) HB.out
          · replace HRz := Lib.hid HRz
            have hs1 := q1
            have hs2 := q2
            have q1 := Lib.hid (decide_eq_true q1)
            have q2 := Lib.hid (decide_eq_true q2)
            go_enter Try.func6, Try.ntmps6
            obtain ⟨a0, a1, a2, a3, a4, a5, a6⟩ := arr7 (w := (World.alloc (World.alloc (World.alloc (World.alloc w (.cells #[.int .i64 lx, .int .i64 sx, .int .u8 ox, .int .i64 stx, .int .i64 ix, .int .i64 vex, .slice Ax nx cx] 25)) (.cells #[.int .i64 ly, .int .i64 sy, .int .u8 oy, .int .i64 sty, .int .i64 iy, .int .i64 vey, .slice Ay ny cy] 25)) (.cells #[.int .i64 tlz, .int .i64 tsz, .int .u8 toz, .int .i64 tez, .slice Iz imz mcz, .slice Bz kz dz, .int .i64 trz] 34)) (.cells #[.int .i64 tlw, .int .i64 tsw, .int .u8 tow, .int .i64 tew, .slice Iw imw mcw, .slice Bw kw dw, .int .i64 trw] 34))) (by rw [Ew1.out, Ew2.out, Ew3.out, Ew4.out]; exact (HK.out.rows _ (.tail _ (.tail _ (.tail _ (.head _))))))
            obtain ⟨b0, b1, b2, b3, b4, b5, b6⟩ := arr7 (w := (World.alloc (World.alloc (World.alloc (World.alloc w (.cells #[.int .i64 lx, .int .i64 sx, .int .u8 ox, .int .i64 stx, .int .i64 ix, .int .i64 vex, .slice Ax nx cx] 25)) (.cells #[.int .i64 ly, .int .i64 sy, .int .u8 oy, .int .i64 sty, .int .i64 iy, .int .i64 vey, .slice Ay ny cy] 25)) (.cells #[.int .i64 tlz, .int .i64 tsz, .int .u8 toz, .int .i64 tez, .slice Iz imz mcz, .slice Bz kz dz, .int .i64 trz] 34)) (.cells #[.int .i64 tlw, .int .i64 tsw, .int .u8 tow, .int .i64 tew, .slice Iw imw mcw, .slice Bw kw dw, .int .i64 trw] 34))) (by rw [Ew1.out, Ew2.out, Ew3.out, Ew4.out]; exact (HK.out.rows _ (.tail _ (.head _))))
            go_wp2_with fail
            rw [Ew1.out]
            rw [Ew2.out]
            rw [Ew3.out]
            rw [Ew4.out]
            clear Ew1 Ew2 Ew3 Ew4
            refine (small_is w4 lx sx ox stx ix vex tlz tsz toz tez trz q1.out).mono ?_
            rintro e w5 ⟨rfl, hb⟩
            have hW : Below w4.heap.size w4 w5 := hb
            replace HK := Lib.hid (HK.out.below hW (Nat.le_refl _))
            replace HB := Lib.hid (HB.out.trans (hW.mono HB.out.size))
            clear hW
            clear a0 a1 a2 a3 a4 a5 a6 b0 b1 b2 b3 b4 b5 b6 hb
            obtain ⟨a0, a1, a2, a3, a4, a5, a6⟩ := arr7 (w := w5) (by exact (HK.out.rows _ (.tail _ (.tail _ (.head _)))))
            obtain ⟨b0, b1, b2, b3, b4, b5, b6⟩ := arr7 (w := w5) (by exact (HK.out.rows _ (.head _)))
            go_wp2_with fail
            refine (small_is w5 ly sy oy sty iy vey tlw tsw tow tew trw q2.out).mono ?_
            rintro e w6 ⟨rfl, hb⟩
            have hW : Below w5.heap.size w5 w6 := hb
            replace HK := Lib.hid (HK.out.below hW (Nat.le_refl _))
            replace HB := Lib.hid (HB.out.trans (hW.mono HB.out.size))
            clear hW
            clear a0 a1 a2 a3 a4 a5 a6 b0 b1 b2 b3 b4 b5 b6 hb
            obtain ⟨g_w7, h_w7⟩ : ∃ g, w6.heap.size = g := ⟨_, rfl⟩
            obtain ⟨w7, e⟩ : ∃ x, w6.alloc (.cells Z0 39) = x := ⟨_, rfl⟩
            obtain ⟨hW, hx⟩ := box_new e
            rw [h_w7] at hx
            have Ew7 := Lib.hid e
            clear e
            replace hx := Lib.hid hx
            replace HK := Lib.hid (HK.out.below hW (Nat.le_refl _))
            replace HB := Lib.hid (HB.out.trans (hW.mono HB.out.size))
            clear hW
            clear hx
            have hTb : Tb w7 g_w7 (fun _ => 0) := by rw [← Ew7.out]; exact tab_nought w6 h_w7
            replace HK := Lib.hid (HK.out.tab (hTb))
            clear hTb
            have hz39 := zeroT39
            obtain ⟨a0, a1, a2, a3, a4, a5, a6⟩ := arr7 (w := (World.alloc w6 (.cells Z0 39))) (by rw [Ew7.out]; exact (HK.out.rows _ (.tail _ (.tail _ (.tail _ (.head _))))))
            have putx : putA (fun _ => 0) ⟨lx, sx, ox, stx, ix, vex, bsx⟩ = (sealed (fun _ => 0) (encA ⟨lx, sx, ox, stx, ix, vex, bsx⟩), 0) := by unfold putA; rw [if_pos HRx.out]
            have HPx := Lib.hid putx
            clear putx
            go_wp2_with fail
            rw [Ew7.out]
            clear Ew7
            refine (putA_is w7 (HK.out.tabs _ (.head _)).1 (HK.out.tabs _ (.head _)).2 lx sx ox stx ix vex bsx (HK.out.reads _ (.tail _ (.tail _ (.tail _ (.head _))))) (show nx ≤ 1000000 by omega)).mono ?_
            rintro e w8 ⟨C, cn, cc, rfl, hoc, hb⟩
            rw [HPx.out] at hoc ⊢
            simp only at hoc ⊢
            clear a0 a1 a2 a3 a4 a5 a6 hz39
            have hW : Below w7.heap.size w7 w8 := hb
            replace HK := Lib.hid (HK.out.below hW (Nat.le_refl _))
            replace HB := Lib.hid (HB.out.trans (hW.mono HB.out.size))
            clear hW
            replace HK := Lib.hid (HK.out.read (hoc.rd))
            clear hoc hb
            obtain ⟨a0, a1, a2, a3, a4, a5, a6⟩ := arr7 (w := w8) (by exact (HK.out.rows _ (.tail _ (.tail _ (.head _)))))
            obtain ⟨py, hpy⟩ : ∃ x, putA (fun _ => 0) ⟨ly, sy, oy, sty, iy, vey, bsy⟩ = x := ⟨_, rfl⟩
            obtain ⟨bD, eD⟩ := py
            have putx : putA (fun _ => 0) ⟨ly, sy, oy, sty, iy, vey, bsy⟩ = (sealed (fun _ => 0) (encA ⟨ly, sy, oy, sty, iy, vey, bsy⟩), 0) := by unfold putA; rw [if_pos HRy.out]
            rw [putx] at hpy
            injection hpy with h1 h2
            subst h1 h2
            have hpy := putx
            clear putx
            have HPy := Lib.hid hpy
            clear hpy
            go_wp2_with fail
            refine (putA_is w8 (HK.out.tabs _ (.head _)).1 (HK.out.tabs _ (.head _)).2 ly sy oy sty iy vey bsy (HK.out.reads _ (.tail _ (.tail _ (.tail _ (.head _))))) (show ny ≤ 1000000 by omega)).mono ?_
            rintro e w9 ⟨D, dn, dc, rfl, hod, hb⟩
            rw [HPy.out] at hod ⊢
            simp only at hod ⊢
            clear a0 a1 a2 a3 a4 a5 a6
            have hW : Below w8.heap.size w8 w9 := hb
            replace HK := Lib.hid (HK.out.below hW (Nat.le_refl _))
            replace HB := Lib.hid (HB.out.trans (hW.mono HB.out.size))
            clear hW
            replace HK := Lib.hid (HK.out.read (hod.rd))
            clear hod hb
            go_wp2_with fail
            refine wp_region_held_drew (S := fun u => Keep u [(g + 1 + 1 + 1, #[.int .i64 tlw, .int .i64 tsw, .int .u8 tow, .int .i64 tew, .slice Iw imw mcw, .slice Bw kw dw, .int .i64 trw], 34), (g + 1 + 1, #[.int .i64 tlz, .int .i64 tsz, .int .u8 toz, .int .i64 tez, .slice Iz imz mcz, .slice Bz kz dz, .int .i64 trz], 34), (g + 1, #[.int .i64 ly, .int .i64 sy, .int .u8 oy, .int .i64 sty, .int .i64 iy, .int .i64 vey, .slice Ay ny cy], 25), (g, #[.int .i64 lx, .int .i64 sx, .int .u8 ox, .int .i64 stx, .int .i64 ix, .int .i64 vex, .slice Ax nx cx], 25)] [(D, dn, sealed (fun _ => 0) (encA ⟨ly, sy, oy, sty, iy, vey, bsy⟩)), (C, cn, sealed (fun _ => 0) (encA ⟨lx, sx, ox, stx, ix, vex, bsx⟩)), (Bw, kw, tbw), (Bz, kz, tbz), (Ay, ny, bsy), (Ax, nx, bsx)] [(Iw, imw, Lw), (Iz, imz, Lz)] [(g_w7, (fun _ => 0))]) (by kernel_rfl) (HK.out.drew) (fun hHeld => ?_)
            have HBr := Lib.hid (HB.out.drew)
            clear HK HB
            refine wpAnyH_take (i := 0) (oi := ⟨some 39, _, _, _, _, _⟩) (v := ?_) rfl (by as_aux_lemma => kernel_rfl) (by as_aux_lemma => kernel_rfl) (by as_aux_lemma => kernel_rfl) (fun _ _ _ h => h) (Or.inl ⟨by rfl, ?_⟩) (by assumption) ?_
            rotate_left
            · intro w hSw
              (try dsimp only at hSw)
              go_simp
              all_goals (with_reducible rfl)
            try simp only [Act.put, List.setIfInBounds_toArray, List.set_cons_zero, List.set_cons_succ]
            refine wpAnyH_take (i := 1) (oi := ⟨some 40, _, _, _, _, _⟩) (v := ?_) rfl (by as_aux_lemma => kernel_rfl) (by as_aux_lemma => kernel_rfl) (by as_aux_lemma => kernel_rfl) (fun _ _ _ h => h) (Or.inl ⟨by rfl, ?_⟩) (by assumption) ?_
            rotate_left
            · intro w hSw
              (try dsimp only at hSw)
              go_simp
              all_goals (with_reducible rfl)
            try simp only [Act.put, List.setIfInBounds_toArray, List.set_cons_zero, List.set_cons_succ]
            refine wpAnyH_take (i := 2) (oi := ⟨some 41, _, _, _, _, _⟩) (v := ?_) rfl (by as_aux_lemma => kernel_rfl) (by as_aux_lemma => kernel_rfl) (by as_aux_lemma => kernel_rfl) (fun _ _ _ h => h) (Or.inl ⟨by rfl, ?_⟩) (by assumption) ?_
            rotate_left
            · intro w hSw
              (try dsimp only at hSw)
              go_simp
              all_goals (with_reducible rfl)
            try simp only [Act.put, List.setIfInBounds_toArray, List.set_cons_zero, List.set_cons_succ]
            refine wpAnyH_take (i := 3) (oi := ⟨some 42, _, _, _, _, _⟩) (v := ?_) rfl (by as_aux_lemma => kernel_rfl) (by as_aux_lemma => kernel_rfl) (by as_aux_lemma => kernel_rfl) (fun _ _ _ h => h) (Or.inl ⟨by rfl, ?_⟩) (by assumption) ?_
            rotate_left
            · intro w hSw
              (try dsimp only at hSw)
              go_simp
              all_goals (with_reducible rfl)
            try simp only [Act.put, List.setIfInBounds_toArray, List.set_cons_zero, List.set_cons_succ]
            refine wpAnyH_take (i := 4) (oi := ⟨some 43, _, _, _, _, _⟩) (v := ?_) rfl (by as_aux_lemma => kernel_rfl) (by as_aux_lemma => kernel_rfl) (by as_aux_lemma => kernel_rfl) (fun _ _ _ h => h) (Or.inl ⟨by rfl, ?_⟩) (by assumption) ?_
            rotate_left
            · intro w hSw
              (try dsimp only at hSw)
              go_simp
              all_goals (with_reducible rfl)
            try simp only [Act.put, List.setIfInBounds_toArray, List.set_cons_zero, List.set_cons_succ]
            refine wpAnyH_take (i := 5) (oi := ⟨some 44, _, _, _, _, _⟩) (v := ?_) rfl (by as_aux_lemma => kernel_rfl) (by as_aux_lemma => kernel_rfl) (by as_aux_lemma => kernel_rfl) (fun _ _ _ h => h) (Or.inl ⟨by rfl, ?_⟩) (by assumption) ?_
            rotate_left
            · intro w hSw
              (try dsimp only at hSw)
              go_simp
              all_goals (with_reducible rfl)
            try simp only [Act.put, List.setIfInBounds_toArray, List.set_cons_zero, List.set_cons_succ]
            refine wpAnyH_take (i := 6) (oi := ⟨some 45, _, _, _, _, _⟩) (v := ?_) rfl (by as_aux_lemma => kernel_rfl) (by as_aux_lemma => kernel_rfl) (by as_aux_lemma => kernel_rfl) (fun _ _ _ h => h) (Or.inl ⟨by rfl, ?_⟩) (by assumption) ?_
            rotate_left
            · intro w hSw
              (try dsimp only at hSw)
              go_simp
              all_goals (with_reducible rfl)
            try simp only [Act.put, List.setIfInBounds_toArray, List.set_cons_zero, List.set_cons_succ]
            refine wpAnyH_take (i := 7) (oi := ⟨some 46, _, _, _, _, _⟩) (v := ?_) rfl (by as_aux_lemma => kernel_rfl) (by as_aux_lemma => kernel_rfl) (by as_aux_lemma => kernel_rfl) (fun _ _ _ h => h) (Or.inl ⟨by rfl, ?_⟩) (by assumption) ?_
            rotate_left
            · intro w hSw
              (try dsimp only at hSw)
              go_simp
              all_goals (with_reducible rfl)
            try simp only [Act.put, List.setIfInBounds_toArray, List.set_cons_zero, List.set_cons_succ]
            refine wpAnyH_take (i := 8) (oi := ⟨some 47, _, _, _, _, _⟩) (v := ?_) rfl (by as_aux_lemma => kernel_rfl) (by as_aux_lemma => kernel_rfl) (by as_aux_lemma => kernel_rfl) (fun _ _ _ h => h) (Or.inl ⟨by rfl, ?_⟩) (by assumption) ?_
            rotate_left
            · intro w hSw
              (try dsimp only at hSw)
              go_simp
              all_goals (with_reducible rfl)
            try simp only [Act.put, List.setIfInBounds_toArray, List.set_cons_zero, List.set_cons_succ]
            refine wpAnyH_take (i := 10) (oi := ⟨some 49, _, _, _, _, _⟩) (v := ?_) rfl (by as_aux_lemma => kernel_rfl) (by as_aux_lemma => kernel_rfl) (by as_aux_lemma => kernel_rfl) (fun _ _ _ h => h) (Or.inl ⟨by rfl, ?_⟩) (by assumption) ?_
            rotate_left
            · intro w hSw
              obtain ⟨l0, l1, l2, l3, l4, l5, l6⟩ := arr7 (w := w) (hSw.rows _ (.tail _ (.tail _ (.tail _ (.head _)))))
              go_simp
              all_goals (with_reducible rfl)
            try simp only [Act.put, List.setIfInBounds_toArray, List.set_cons_zero, List.set_cons_succ]
            refine wpAnyH_take (i := 11) (oi := ⟨some 50, _, _, _, _, _⟩) (v := ?_) rfl (by as_aux_lemma => kernel_rfl) (by as_aux_lemma => kernel_rfl) (by as_aux_lemma => kernel_rfl) (fun _ _ _ h => h) (Or.inl ⟨by rfl, ?_⟩) (by assumption) ?_
            rotate_left
            · intro w hSw
              obtain ⟨l0, l1, l2, l3, l4, l5, l6⟩ := arr7 (w := w) (hSw.rows _ (.tail _ (.tail _ (.head _))))
              go_simp
              all_goals (with_reducible rfl)
            try simp only [Act.put, List.setIfInBounds_toArray, List.set_cons_zero, List.set_cons_succ]
            obtain ⟨q, hq⟩ : ∃ q, decide ((⟨lx, sx, ox, stx, ix, vex, bsx⟩ : AskP) = ⟨ly, sy, oy, sty, iy, vey, bsy⟩) = q := ⟨_, rfl⟩
            refine wpAnyH_ready (rs := [9]) (by as_aux_lemma => kernel_rfl) (by simp) (AllReadyH.cons (o := ⟨some 48, _, _, _, _, _⟩) rfl (fun K hK => ?_) AllReadyH.nil)
            go_simp
            refine (sameB_is _ (hHeld.reads _ (.tail _ (.head _))) (hHeld.reads _ (.head _)) (q := q) (by rw [putA_same HRx.out HRy.out]; exact hq)).mono ?_
            rintro e _ ⟨rfl, rfl⟩
            have hS2 := hHeld.below (Below.refl _ _) (Nat.le_refl _)
            replace HBr := Lib.hid (HBr.out.trans ((Below.refl _ _).mono HBr.out.size))
            refine hK.out _ _ hS2 (fun hHeld => ?_)
            clear hK K hS2
            try simp only [Act.put, List.setIfInBounds_toArray, List.set_cons_zero, List.set_cons_succ]
            refine wpAnyH_ready (rs := [12]) (by as_aux_lemma => kernel_rfl) (by simp) (AllReadyH.cons (o := ⟨some 51, _, _, _, _, _⟩) rfl (fun K hK => ?_) AllReadyH.nil)
            go_simp
            refine (sameA_is _ lx sx ox stx ix vex ly sy oy sty iy vey bsx bsy (hHeld.reads _ (.tail _ (.tail _ (.tail _ (.tail _ (.tail _ (.head _))))))) (hHeld.reads _ (.tail _ (.tail _ (.tail _ (.tail _ (.head _)))))) hq).mono ?_
            rintro e u1 ⟨rfl, hb⟩
            have hS2 := hHeld.below hb (Nat.le_refl _)
            replace HBr := Lib.hid (HBr.out.trans (hb.mono HBr.out.size))
            refine hK.out _ _ hS2 (fun hHeld => ?_)
            clear hK K hS2
            try simp only [Act.put, List.setIfInBounds_toArray, List.set_cons_zero, List.set_cons_succ]
            clear hb
            refine wpAnyH_take (i := 13) (oi := ⟨some 52, _, _, _, _, _⟩) (v := ?_) rfl (by as_aux_lemma => kernel_rfl) (by as_aux_lemma => kernel_rfl) (by as_aux_lemma => kernel_rfl) (fun _ _ _ h => h) (Or.inl ⟨by rfl, ?_⟩) (by assumption) ?_
            rotate_left
            · intro w hSw
              (try dsimp only at hSw)
              go_simp
              all_goals (with_reducible rfl)
            try simp only [Act.put, List.setIfInBounds_toArray, List.set_cons_zero, List.set_cons_succ]
            refine wpAnyH_take (i := 14) (oi := ⟨some 53, _, _, _, _, _⟩) (v := ?_) rfl (by as_aux_lemma => kernel_rfl) (by as_aux_lemma => kernel_rfl) (by as_aux_lemma => kernel_rfl) (fun _ _ _ h => h) (Or.inl ⟨by rfl, ?_⟩) (by assumption) ?_
            rotate_left
            · intro w hSw
              (try dsimp only at hSw)
              go_simp
              all_goals (with_reducible rfl)
            try simp only [Act.put, List.setIfInBounds_toArray, List.set_cons_zero, List.set_cons_succ]
            refine wpAnyH_done (by kernel_rfl) ?_ _
            have HK := Lib.hid hHeld
            have HB := HBr
            clear HBr hHeld
            obtain ⟨a0, a1, a2, a3, a4, a5, a6⟩ := arr7 (w := u1) (by exact (HK.out.rows _ (.tail _ (.head _))))
            have putx : putT (fun _ => 0) ⟨tlz, tsz, toz, tez, Lz, tbz, trz⟩ = ([], 110) := by unfold putT; rw [if_neg HRz.out]
            have HPz := Lib.hid putx
            clear putx
            go_wp2_with fail
            refine (putT_is u1 (HK.out.tabs _ (.head _)).1 (HK.out.tabs _ (.head _)).2 tlz tsz toz tez trz (HK.out.ils _ (.tail _ (.head _))) (show imz ≤ 1000000 by omega) tbz (HK.out.reads _ (.tail _ (.tail _ (.tail _ (.head _))))) (show kz ≤ 1000000 by omega)).mono ?_
            rintro e w11 ⟨G, gn, gc, rfl, hoc, hb⟩
            rw [HPz.out] at hoc ⊢
            simp only at hoc ⊢
            clear a0 a1 a2 a3 a4 a5 a6
            have hW : Below u1.heap.size u1 w11 := hb
            replace HK := Lib.hid (HK.out.below hW (Nat.le_refl _))
            replace HB := Lib.hid (HB.out.trans (hW.mono HB.out.size))
            clear hW
            replace HK := Lib.hid (HK.out.read (hoc.rd))
            clear hoc hb
            obtain ⟨a0, a1, a2, a3, a4, a5, a6⟩ := arr7 (w := w11) (by exact (HK.out.rows _ (.head _)))
            obtain ⟨py, hpy⟩ : ∃ x, putT (fun _ => 0) ⟨tlw, tsw, tow, tew, Lw, tbw, trw⟩ = x := ⟨_, rfl⟩
            obtain ⟨bE, eE⟩ := py
            have HPw := Lib.hid hpy
            clear hpy
            go_wp2_with fail
            refine (putT_is w11 (HK.out.tabs _ (.head _)).1 (HK.out.tabs _ (.head _)).2 tlw tsw tow tew trw (HK.out.ils _ (.head _)) (show imw ≤ 1000000 by omega) tbw (HK.out.reads _ (.tail _ (.tail _ (.tail _ (.head _))))) (show kw ≤ 1000000 by omega)).mono ?_
            rintro e w12 ⟨H, hn, hc, rfl, hod, hb⟩
            rw [HPw.out] at hod ⊢
            simp only at hod ⊢
            clear a0 a1 a2 a3 a4 a5 a6
            have hW : Below w11.heap.size w11 w12 := hb
            replace HK := Lib.hid (HK.out.below hW (Nat.le_refl _))
            replace HB := Lib.hid (HB.out.trans (hW.mono HB.out.size))
            clear hW
            replace HK := Lib.hid (HK.out.read (hod.rd))
            clear hod hb
            go_wp2_with fail
            refine wp_region_held_drew (S := fun u => Keep u [(g + 1 + 1 + 1, #[.int .i64 tlw, .int .i64 tsw, .int .u8 tow, .int .i64 tew, .slice Iw imw mcw, .slice Bw kw dw, .int .i64 trw], 34), (g + 1 + 1, #[.int .i64 tlz, .int .i64 tsz, .int .u8 toz, .int .i64 tez, .slice Iz imz mcz, .slice Bz kz dz, .int .i64 trz], 34), (g + 1, #[.int .i64 ly, .int .i64 sy, .int .u8 oy, .int .i64 sty, .int .i64 iy, .int .i64 vey, .slice Ay ny cy], 25), (g, #[.int .i64 lx, .int .i64 sx, .int .u8 ox, .int .i64 stx, .int .i64 ix, .int .i64 vex, .slice Ax nx cx], 25)] [(H, hn, bE), (G, gn, []), (D, dn, sealed (fun _ => 0) (encA ⟨ly, sy, oy, sty, iy, vey, bsy⟩)), (C, cn, sealed (fun _ => 0) (encA ⟨lx, sx, ox, stx, ix, vex, bsx⟩)), (Bw, kw, tbw), (Bz, kz, tbz), (Ay, ny, bsy), (Ax, nx, bsx)] [(Iw, imw, Lw), (Iz, imz, Lz)] [(g_w7, (fun _ => 0))]) (by kernel_rfl) (HK.out.drew) (fun hHeld => ?_)
            have HBr := Lib.hid (HB.out.drew)
            clear HK HB
            refine wpAnyH_take (i := 0) (oi := ⟨some 64, _, _, _, _, _⟩) (v := ?_) rfl (by as_aux_lemma => kernel_rfl) (by as_aux_lemma => kernel_rfl) (by as_aux_lemma => kernel_rfl) (fun _ _ _ h => h) (Or.inl ⟨by rfl, ?_⟩) (by assumption) ?_
            rotate_left
            · intro w hSw
              (try dsimp only at hSw)
              go_simp
              all_goals (with_reducible rfl)
            try simp only [Act.put, List.setIfInBounds_toArray, List.set_cons_zero, List.set_cons_succ]
            refine wpAnyH_take (i := 1) (oi := ⟨some 65, _, _, _, _, _⟩) (v := ?_) rfl (by as_aux_lemma => kernel_rfl) (by as_aux_lemma => kernel_rfl) (by as_aux_lemma => kernel_rfl) (fun _ _ _ h => h) (Or.inl ⟨by rfl, ?_⟩) (by assumption) ?_
            rotate_left
            · intro w hSw
              (try dsimp only at hSw)
              go_simp
              all_goals (with_reducible rfl)
            try simp only [Act.put, List.setIfInBounds_toArray, List.set_cons_zero, List.set_cons_succ]
            refine wpAnyH_take (i := 2) (oi := ⟨some 66, _, _, _, _, _⟩) (v := ?_) rfl (by as_aux_lemma => kernel_rfl) (by as_aux_lemma => kernel_rfl) (by as_aux_lemma => kernel_rfl) (fun _ _ _ h => h) (Or.inl ⟨by rfl, ?_⟩) (by assumption) ?_
            rotate_left
            · intro w hSw
              (try dsimp only at hSw)
              go_simp
              all_goals (with_reducible rfl)
            try simp only [Act.put, List.setIfInBounds_toArray, List.set_cons_zero, List.set_cons_succ]
            refine wpAnyH_take (i := 3) (oi := ⟨some 67, _, _, _, _, _⟩) (v := undef) rfl (by as_aux_lemma => kernel_rfl) (by as_aux_lemma => kernel_rfl) (by as_aux_lemma => kernel_rfl) (fun _ _ _ h => h) (Or.inr ⟨by rfl, rfl⟩) (by assumption) ?_
            try simp only [Act.put, List.setIfInBounds_toArray, List.set_cons_zero, List.set_cons_succ]
            refine wpAnyH_take (i := 4) (oi := ⟨some 68, _, _, _, _, _⟩) (v := undef) rfl (by as_aux_lemma => kernel_rfl) (by as_aux_lemma => kernel_rfl) (by as_aux_lemma => kernel_rfl) (fun _ _ _ h => h) (Or.inr ⟨by rfl, rfl⟩) (by assumption) ?_
            try simp only [Act.put, List.setIfInBounds_toArray, List.set_cons_zero, List.set_cons_succ]
            refine wpAnyH_take (i := 5) (oi := ⟨some 69, _, _, _, _, _⟩) (v := ?_) rfl (by as_aux_lemma => kernel_rfl) (by as_aux_lemma => kernel_rfl) (by as_aux_lemma => kernel_rfl) (fun _ _ _ h => h) (Or.inl ⟨by rfl, ?_⟩) (by assumption) ?_
            rotate_left
            · intro w hSw
              (try dsimp only at hSw)
              go_simp
              all_goals (with_reducible rfl)
            try simp only [Act.put, List.setIfInBounds_toArray, List.set_cons_zero, List.set_cons_succ]
            refine wpAnyH_take (i := 6) (oi := ⟨some 70, _, _, _, _, _⟩) (v := ?_) rfl (by as_aux_lemma => kernel_rfl) (by as_aux_lemma => kernel_rfl) (by as_aux_lemma => kernel_rfl) (fun _ _ _ h => h) (Or.inl ⟨by rfl, ?_⟩) (by assumption) ?_
            rotate_left
            · intro w hSw
              (try dsimp only at hSw)
              go_simp
              all_goals (with_reducible rfl)
            try simp only [Act.put, List.setIfInBounds_toArray, List.set_cons_zero, List.set_cons_succ]
            refine wpAnyH_take (i := 7) (oi := ⟨some 71, _, _, _, _, _⟩) (v := undef) rfl (by as_aux_lemma => kernel_rfl) (by as_aux_lemma => kernel_rfl) (by as_aux_lemma => kernel_rfl) (fun _ _ _ h => h) (Or.inr ⟨by rfl, rfl⟩) (by assumption) ?_
            try simp only [Act.put, List.setIfInBounds_toArray, List.set_cons_zero, List.set_cons_succ]
            refine wpAnyH_take (i := 8) (oi := ⟨some 72, _, _, _, _, _⟩) (v := undef) rfl (by as_aux_lemma => kernel_rfl) (by as_aux_lemma => kernel_rfl) (by as_aux_lemma => kernel_rfl) (fun _ _ _ h => h) (Or.inr ⟨by rfl, rfl⟩) (by assumption) ?_
            try simp only [Act.put, List.setIfInBounds_toArray, List.set_cons_zero, List.set_cons_succ]
            refine wpAnyH_take (i := 9) (oi := ⟨some 73, _, _, _, _, _⟩) (v := undef) rfl (by as_aux_lemma => kernel_rfl) (by as_aux_lemma => kernel_rfl) (by as_aux_lemma => kernel_rfl) (fun _ _ _ h => h) (Or.inr ⟨by rfl, rfl⟩) (by assumption) ?_
            try simp only [Act.put, List.setIfInBounds_toArray, List.set_cons_zero, List.set_cons_succ]
            refine wpAnyH_take (i := 10) (oi := ⟨some 74, _, _, _, _, _⟩) (v := undef) rfl (by as_aux_lemma => kernel_rfl) (by as_aux_lemma => kernel_rfl) (by as_aux_lemma => kernel_rfl) (fun _ _ _ h => h) (Or.inr ⟨by rfl, rfl⟩) (by assumption) ?_
            try simp only [Act.put, List.setIfInBounds_toArray, List.set_cons_zero, List.set_cons_succ]
            refine wpAnyH_take (i := 11) (oi := ⟨some 75, _, _, _, _, _⟩) (v := undef) rfl (by as_aux_lemma => kernel_rfl) (by as_aux_lemma => kernel_rfl) (by as_aux_lemma => kernel_rfl) (fun _ _ _ h => h) (Or.inr ⟨by rfl, rfl⟩) (by assumption) ?_
            try simp only [Act.put, List.setIfInBounds_toArray, List.set_cons_zero, List.set_cons_succ]
            refine wpAnyH_take (i := 12) (oi := ⟨some 76, _, _, _, _, _⟩) (v := undef) rfl (by as_aux_lemma => kernel_rfl) (by as_aux_lemma => kernel_rfl) (by as_aux_lemma => kernel_rfl) (fun _ _ _ h => h) (Or.inr ⟨by rfl, rfl⟩) (by assumption) ?_
            try simp only [Act.put, List.setIfInBounds_toArray, List.set_cons_zero, List.set_cons_succ]
            refine wpAnyH_take (i := 13) (oi := ⟨some 77, _, _, _, _, _⟩) (v := undef) rfl (by as_aux_lemma => kernel_rfl) (by as_aux_lemma => kernel_rfl) (by as_aux_lemma => kernel_rfl) (fun _ _ _ h => h) (Or.inr ⟨by rfl, rfl⟩) (by assumption) ?_
            try simp only [Act.put, List.setIfInBounds_toArray, List.set_cons_zero, List.set_cons_succ]
            refine wpAnyH_take (i := 14) (oi := ⟨some 78, _, _, _, _, _⟩) (v := ?_) rfl (by as_aux_lemma => kernel_rfl) (by as_aux_lemma => kernel_rfl) (by as_aux_lemma => kernel_rfl) (fun _ _ _ h => h) (Or.inl ⟨by rfl, ?_⟩) (by assumption) ?_
            rotate_left
            · intro w hSw
              (try dsimp only at hSw)
              go_simp
              all_goals (with_reducible rfl)
            try simp only [Act.put, List.setIfInBounds_toArray, List.set_cons_zero, List.set_cons_succ]
            refine wpAnyH_take (i := 15) (oi := ⟨some 79, _, _, _, _, _⟩) (v := ?_) rfl (by as_aux_lemma => kernel_rfl) (by as_aux_lemma => kernel_rfl) (by as_aux_lemma => kernel_rfl) (fun _ _ _ h => h) (Or.inl ⟨by rfl, ?_⟩) (by assumption) ?_
            rotate_left
            · intro w hSw
              (try dsimp only at hSw)
              go_simp
              all_goals (with_reducible rfl)
            try simp only [Act.put, List.setIfInBounds_toArray, List.set_cons_zero, List.set_cons_succ]
            refine wpAnyH_ready (rs := [16]) (by as_aux_lemma => kernel_rfl) (by simp) (AllReadyH.cons (o := ⟨some 80, _, _, _, _, _⟩) rfl (fun K hK => ?_) AllReadyH.nil)
            go_simp
            refine (awake_is _).mono ?_
            rintro e u5 ⟨rfl, hb⟩
            have hS2 := hHeld.below hb (Nat.le_refl _)
            replace HBr := Lib.hid (HBr.out.trans (hb.mono HBr.out.size))
            refine hK.out _ _ hS2 (fun hHeld => ?_)
            clear hK K hS2
            try simp only [Act.put, List.setIfInBounds_toArray, List.set_cons_zero, List.set_cons_succ]
            refine wpAnyH_take (i := 17) (oi := ⟨some 81, _, _, _, _, _⟩) (v := ?_) rfl (by as_aux_lemma => kernel_rfl) (by as_aux_lemma => kernel_rfl) (by as_aux_lemma => kernel_rfl) (fun _ _ _ h => h) (Or.inl ⟨by rfl, ?_⟩) (by assumption) ?_
            rotate_left
            · intro w hSw
              (try dsimp only at hSw)
              go_simp
              all_goals (with_reducible rfl)
            try simp only [Act.put, List.setIfInBounds_toArray, List.set_cons_zero, List.set_cons_succ]
            refine wpAnyH_take (i := 18) (oi := ⟨some 8, _, _, _, _, _⟩) (v := ?_) rfl (by as_aux_lemma => kernel_rfl) (by as_aux_lemma => kernel_rfl) (by as_aux_lemma => kernel_rfl) (fun _ _ _ h => h) (Or.inl ⟨by rfl, ?_⟩) (by assumption) ?_
            rotate_left
            · intro w hSw
              (try dsimp only at hSw)
              go_simp
              all_goals (with_reducible rfl)
            try simp only [Act.put, List.setIfInBounds_toArray, List.set_cons_zero, List.set_cons_succ]
            refine wpAnyH_done (by kernel_rfl) ?_ _
            have HK := Lib.hid hHeld
            have HB := HBr
            clear HBr hHeld
            go_wp2
            go_ret
            exact told_mk (by simp) HB.out
        · replace HRy := Lib.hid HRy
          by_cases HRz : RightT ⟨tlz, tsz, toz, tez, Lz, tbz, trz⟩
          · replace HRz := Lib.hid HRz
            by_cases HRw : RightT ⟨tlw, tsw, tow, tew, Lw, tbw, trw⟩
            · replace HRw := Lib.hid HRw
              have hs1 := q1
              have hs2 := q2
              have q1 := Lib.hid (decide_eq_true q1)
              have q2 := Lib.hid (decide_eq_true q2)
              go_enter Try.func6, Try.ntmps6
              obtain ⟨a0, a1, a2, a3, a4, a5, a6⟩ := arr7 (w := (World.alloc (World.alloc (World.alloc (World.alloc w (.cells #[.int .i64 lx, .int .i64 sx, .int .u8 ox, .int .i64 stx, .int .i64 ix, .int .i64 vex, .slice Ax nx cx] 25)) (.cells #[.int .i64 ly, .int .i64 sy, .int .u8 oy, .int .i64 sty, .int .i64 iy, .int .i64 vey, .slice Ay ny cy] 25)) (.cells #[.int .i64 tlz, .int .i64 tsz, .int .u8 toz, .int .i64 tez, .slice Iz imz mcz, .slice Bz kz dz, .int .i64 trz] 34)) (.cells #[.int .i64 tlw, .int .i64 tsw, .int .u8 tow, .int .i64 tew, .slice Iw imw mcw, .slice Bw kw dw, .int .i64 trw] 34))) (by rw [Ew1.out, Ew2.out, Ew3.out, Ew4.out]; exact (HK.out.rows _ (.tail _ (.tail _ (.tail _ (.head _))))))
              obtain ⟨b0, b1, b2, b3, b4, b5, b6⟩ := arr7 (w := (World.alloc (World.alloc (World.alloc (World.alloc w (.cells #[.int .i64 lx, .int .i64 sx, .int .u8 ox, .int .i64 stx, .int .i64 ix, .int .i64 vex, .slice Ax nx cx] 25)) (.cells #[.int .i64 ly, .int .i64 sy, .int .u8 oy, .int .i64 sty, .int .i64 iy, .int .i64 vey, .slice Ay ny cy] 25)) (.cells #[.int .i64 tlz, .int .i64 tsz, .int .u8 toz, .int .i64 tez, .slice Iz imz mcz, .slice Bz kz dz, .int .i64 trz] 34)) (.cells #[.int .i64 tlw, .int .i64 tsw, .int .u8 tow, .int .i64 tew, .slice Iw imw mcw, .slice Bw kw dw, .int .i64 trw] 34))) (by rw [Ew1.out, Ew2.out, Ew3.out, Ew4.out]; exact (HK.out.rows _ (.tail _ (.head _))))
              go_wp2_with fail
              rw [Ew1.out]
              rw [Ew2.out]
              rw [Ew3.out]
              rw [Ew4.out]
              clear Ew1 Ew2 Ew3 Ew4
              refine (small_is w4 lx sx ox stx ix vex tlz tsz toz tez trz q1.out).mono ?_
              rintro e w5 ⟨rfl, hb⟩
              have hW : Below w4.heap.size w4 w5 := hb
              replace HK := Lib.hid (HK.out.below hW (Nat.le_refl _))
              replace HB := Lib.hid (HB.out.trans (hW.mono HB.out.size))
              clear hW
              clear a0 a1 a2 a3 a4 a5 a6 b0 b1 b2 b3 b4 b5 b6 hb
              obtain ⟨a0, a1, a2, a3, a4, a5, a6⟩ := arr7 (w := w5) (by exact (HK.out.rows _ (.tail _ (.tail _ (.head _)))))
              obtain ⟨b0, b1, b2, b3, b4, b5, b6⟩ := arr7 (w := w5) (by exact (HK.out.rows _ (.head _)))
              go_wp2_with fail
              refine (small_is w5 ly sy oy sty iy vey tlw tsw tow tew trw q2.out).mono ?_
              rintro e w6 ⟨rfl, hb⟩
              have hW : Below w5.heap.size w5 w6 := hb
              replace HK := Lib.hid (HK.out.below hW (Nat.le_refl _))
              replace HB := Lib.hid (HB.out.trans (hW.mono HB.out.size))
              clear hW
              clear a0 a1 a2 a3 a4 a5 a6 b0 b1 b2 b3 b4 b5 b6 hb
              obtain ⟨g_w7, h_w7⟩ : ∃ g, w6.heap.size = g := ⟨_, rfl⟩
              obtain ⟨w7, e⟩ : ∃ x, w6.alloc (.cells Z0 39) = x := ⟨_, rfl⟩
              obtain ⟨hW, hx⟩ := box_new e
              rw [h_w7] at hx
              have Ew7 := Lib.hid e
              clear e
              replace hx := Lib.hid hx
              replace HK := Lib.hid (HK.out.below hW (Nat.le_refl _))
              replace HB := Lib.hid (HB.out.trans (hW.mono HB.out.size))
              clear hW
              clear hx
              have hTb : Tb w7 g_w7 (fun _ => 0) := by rw [← Ew7.out]; exact tab_nought w6 h_w7
              replace HK := Lib.hid (HK.out.tab (hTb))
              clear hTb
              have hz39 := zeroT39
              obtain ⟨a0, a1, a2, a3, a4, a5, a6⟩ := arr7 (w := (World.alloc w6 (.cells Z0 39))) (by rw [Ew7.out]; exact (HK.out.rows _ (.tail _ (.tail _ (.tail _ (.head _))))))
              have putx : putA (fun _ => 0) ⟨lx, sx, ox, stx, ix, vex, bsx⟩ = (sealed (fun _ => 0) (encA ⟨lx, sx, ox, stx, ix, vex, bsx⟩), 0) := by unfold putA; rw [if_pos HRx.out]
              have HPx := Lib.hid putx
              clear putx
              go_wp2_with fail
              rw [Ew7.out]
              clear Ew7
              refine (putA_is w7 (HK.out.tabs _ (.head _)).1 (HK.out.tabs _ (.head _)).2 lx sx ox stx ix vex bsx (HK.out.reads _ (.tail _ (.tail _ (.tail _ (.head _))))) (show nx ≤ 1000000 by omega)).mono ?_
              rintro e w8 ⟨C, cn, cc, rfl, hoc, hb⟩
              rw [HPx.out] at hoc ⊢
              simp only at hoc ⊢
              clear a0 a1 a2 a3 a4 a5 a6 hz39
              have hW : Below w7.heap.size w7 w8 := hb
              replace HK := Lib.hid (HK.out.below hW (Nat.le_refl _))
              replace HB := Lib.hid (HB.out.trans (hW.mono HB.out.size))
              clear hW
              replace HK := Lib.hid (HK.out.read (hoc.rd))
              clear hoc hb
              obtain ⟨a0, a1, a2, a3, a4, a5, a6⟩ := arr7 (w := w8) (by exact (HK.out.rows _ (.tail _ (.tail _ (.head _)))))
              obtain ⟨py, hpy⟩ : ∃ x, putA (fun _ => 0) ⟨ly, sy, oy, sty, iy, vey, bsy⟩ = x := ⟨_, rfl⟩
              obtain ⟨bD, eD⟩ := py
              have putx : putA (fun _ => 0) ⟨ly, sy, oy, sty, iy, vey, bsy⟩ = ([], 110) := by unfold putA; rw [if_neg HRy.out]
              rw [putx] at hpy
              injection hpy with h1 h2
              subst h1 h2
              have hpy := putx
              clear putx
              have HPy := Lib.hid hpy
              clear hpy
              go_wp2_with fail
              refine (putA_is w8 (HK.out.tabs _ (.head _)).1 (HK.out.tabs _ (.head _)).2 ly sy oy sty iy vey bsy (HK.out.reads _ (.tail _ (.tail _ (.tail _ (.head _))))) (show ny ≤ 1000000 by omega)).mono ?_
              rintro e w9 ⟨D, dn, dc, rfl, hod, hb⟩
              rw [HPy.out] at hod ⊢
              simp only at hod ⊢
              clear a0 a1 a2 a3 a4 a5 a6
              have hW : Below w8.heap.size w8 w9 := hb
              replace HK := Lib.hid (HK.out.below hW (Nat.le_refl _))
              replace HB := Lib.hid (HB.out.trans (hW.mono HB.out.size))
              clear hW
              replace HK := Lib.hid (HK.out.read (hod.rd))
              clear hod hb
              go_wp2_with fail
              refine wp_region_held_drew (S := fun u => Keep u [(g + 1 + 1 + 1, #[.int .i64 tlw, .int .i64 tsw, .int .u8 tow, .int .i64 tew, .slice Iw imw mcw, .slice Bw kw dw, .int .i64 trw], 34), (g + 1 + 1, #[.int .i64 tlz, .int .i64 tsz, .int .u8 toz, .int .i64 tez, .slice Iz imz mcz, .slice Bz kz dz, .int .i64 trz], 34), (g + 1, #[.int .i64 ly, .int .i64 sy, .int .u8 oy, .int .i64 sty, .int .i64 iy, .int .i64 vey, .slice Ay ny cy], 25), (g, #[.int .i64 lx, .int .i64 sx, .int .u8 ox, .int .i64 stx, .int .i64 ix, .int .i64 vex, .slice Ax nx cx], 25)] [(D, dn, []), (C, cn, sealed (fun _ => 0) (encA ⟨lx, sx, ox, stx, ix, vex, bsx⟩)), (Bw, kw, tbw), (Bz, kz, tbz), (Ay, ny, bsy), (Ax, nx, bsx)] [(Iw, imw, Lw), (Iz, imz, Lz)] [(g_w7, (fun _ => 0))]) (by kernel_rfl) (HK.out.drew) (fun hHeld => ?_)
              have HBr := Lib.hid (HB.out.drew)
              clear HK HB
              refine wpAnyH_take (i := 0) (oi := ⟨some 39, _, _, _, _, _⟩) (v := ?_) rfl (by as_aux_lemma => kernel_rfl) (by as_aux_lemma => kernel_rfl) (by as_aux_lemma => kernel_rfl) (fun _ _ _ h => h) (Or.inl ⟨by rfl, ?_⟩) (by assumption) ?_
              rotate_left
              · intro w hSw
                (try dsimp only at hSw)
                go_simp
                all_goals (with_reducible rfl)
              try simp only [Act.put, List.setIfInBounds_toArray, List.set_cons_zero, List.set_cons_succ]
              refine wpAnyH_take (i := 1) (oi := ⟨some 40, _, _, _, _, _⟩) (v := ?_) rfl (by as_aux_lemma => kernel_rfl) (by as_aux_lemma => kernel_rfl) (by as_aux_lemma => kernel_rfl) (fun _ _ _ h => h) (Or.inl ⟨by rfl, ?_⟩) (by assumption) ?_
              rotate_left
              · intro w hSw
                (try dsimp only at hSw)
                go_simp
                all_goals (with_reducible rfl)
              try simp only [Act.put, List.setIfInBounds_toArray, List.set_cons_zero, List.set_cons_succ]
              refine wpAnyH_take (i := 2) (oi := ⟨some 41, _, _, _, _, _⟩) (v := ?_) rfl (by as_aux_lemma => kernel_rfl) (by as_aux_lemma => kernel_rfl) (by as_aux_lemma => kernel_rfl) (fun _ _ _ h => h) (Or.inl ⟨by rfl, ?_⟩) (by assumption) ?_
              rotate_left
              · intro w hSw
                (try dsimp only at hSw)
                go_simp
                all_goals (with_reducible rfl)
              try simp only [Act.put, List.setIfInBounds_toArray, List.set_cons_zero, List.set_cons_succ]
              refine wpAnyH_take (i := 3) (oi := ⟨some 42, _, _, _, _, _⟩) (v := ?_) rfl (by as_aux_lemma => kernel_rfl) (by as_aux_lemma => kernel_rfl) (by as_aux_lemma => kernel_rfl) (fun _ _ _ h => h) (Or.inl ⟨by rfl, ?_⟩) (by assumption) ?_
              rotate_left
              · intro w hSw
                (try dsimp only at hSw)
                go_simp
                all_goals (with_reducible rfl)
              try simp only [Act.put, List.setIfInBounds_toArray, List.set_cons_zero, List.set_cons_succ]
              refine wpAnyH_take (i := 4) (oi := ⟨some 43, _, _, _, _, _⟩) (v := ?_) rfl (by as_aux_lemma => kernel_rfl) (by as_aux_lemma => kernel_rfl) (by as_aux_lemma => kernel_rfl) (fun _ _ _ h => h) (Or.inl ⟨by rfl, ?_⟩) (by assumption) ?_
              rotate_left
              · intro w hSw
                (try dsimp only at hSw)
                go_simp
                all_goals (with_reducible rfl)
              try simp only [Act.put, List.setIfInBounds_toArray, List.set_cons_zero, List.set_cons_succ]
              refine wpAnyH_take (i := 5) (oi := ⟨some 44, _, _, _, _, _⟩) (v := ?_) rfl (by as_aux_lemma => kernel_rfl) (by as_aux_lemma => kernel_rfl) (by as_aux_lemma => kernel_rfl) (fun _ _ _ h => h) (Or.inl ⟨by rfl, ?_⟩) (by assumption) ?_
              rotate_left
              · intro w hSw
                (try dsimp only at hSw)
                go_simp
                all_goals (with_reducible rfl)
              try simp only [Act.put, List.setIfInBounds_toArray, List.set_cons_zero, List.set_cons_succ]
              refine wpAnyH_take (i := 6) (oi := ⟨some 45, _, _, _, _, _⟩) (v := ?_) rfl (by as_aux_lemma => kernel_rfl) (by as_aux_lemma => kernel_rfl) (by as_aux_lemma => kernel_rfl) (fun _ _ _ h => h) (Or.inl ⟨by rfl, ?_⟩) (by assumption) ?_
              rotate_left
              · intro w hSw
                (try dsimp only at hSw)
                go_simp
                all_goals (with_reducible rfl)
              try simp only [Act.put, List.setIfInBounds_toArray, List.set_cons_zero, List.set_cons_succ]
              refine wpAnyH_take (i := 7) (oi := ⟨some 46, _, _, _, _, _⟩) (v := undef) rfl (by as_aux_lemma => kernel_rfl) (by as_aux_lemma => kernel_rfl) (by as_aux_lemma => kernel_rfl) (fun _ _ _ h => h) (Or.inr ⟨by rfl, rfl⟩) (by assumption) ?_
              try simp only [Act.put, List.setIfInBounds_toArray, List.set_cons_zero, List.set_cons_succ]
              refine wpAnyH_take (i := 8) (oi := ⟨some 47, _, _, _, _, _⟩) (v := undef) rfl (by as_aux_lemma => kernel_rfl) (by as_aux_lemma => kernel_rfl) (by as_aux_lemma => kernel_rfl) (fun _ _ _ h => h) (Or.inr ⟨by rfl, rfl⟩) (by assumption) ?_
              try simp only [Act.put, List.setIfInBounds_toArray, List.set_cons_zero, List.set_cons_succ]
              refine wpAnyH_take (i := 9) (oi := ⟨some 48, _, _, _, _, _⟩) (v := undef) rfl (by as_aux_lemma => kernel_rfl) (by as_aux_lemma => kernel_rfl) (by as_aux_lemma => kernel_rfl) (fun _ _ _ h => h) (Or.inr ⟨by rfl, rfl⟩) (by assumption) ?_
              try simp only [Act.put, List.setIfInBounds_toArray, List.set_cons_zero, List.set_cons_succ]
              refine wpAnyH_take (i := 10) (oi := ⟨some 49, _, _, _, _, _⟩) (v := undef) rfl (by as_aux_lemma => kernel_rfl) (by as_aux_lemma => kernel_rfl) (by as_aux_lemma => kernel_rfl) (fun _ _ _ h => h) (Or.inr ⟨by rfl, rfl⟩) (by assumption) ?_
              try simp only [Act.put, List.setIfInBounds_toArray, List.set_cons_zero, List.set_cons_succ]
              refine wpAnyH_take (i := 11) (oi := ⟨some 50, _, _, _, _, _⟩) (v := undef) rfl (by as_aux_lemma => kernel_rfl) (by as_aux_lemma => kernel_rfl) (by as_aux_lemma => kernel_rfl) (fun _ _ _ h => h) (Or.inr ⟨by rfl, rfl⟩) (by assumption) ?_
              try simp only [Act.put, List.setIfInBounds_toArray, List.set_cons_zero, List.set_cons_succ]
              refine wpAnyH_take (i := 12) (oi := ⟨some 51, _, _, _, _, _⟩) (v := undef) rfl (by as_aux_lemma => kernel_rfl) (by as_aux_lemma => kernel_rfl) (by as_aux_lemma => kernel_rfl) (fun _ _ _ h => h) (Or.inr ⟨by rfl, rfl⟩) (by assumption) ?_
              try simp only [Act.put, List.setIfInBounds_toArray, List.set_cons_zero, List.set_cons_succ]
              refine wpAnyH_take (i := 13) (oi := ⟨some 52, _, _, _, _, _⟩) (v := undef) rfl (by as_aux_lemma => kernel_rfl) (by as_aux_lemma => kernel_rfl) (by as_aux_lemma => kernel_rfl) (fun _ _ _ h => h) (Or.inr ⟨by rfl, rfl⟩) (by assumption) ?_
              try simp only [Act.put, List.setIfInBounds_toArray, List.set_cons_zero, List.set_cons_succ]
              refine wpAnyH_take (i := 14) (oi := ⟨some 53, _, _, _, _, _⟩) (v := ?_) rfl (by as_aux_lemma => kernel_rfl) (by as_aux_lemma => kernel_rfl) (by as_aux_lemma => kernel_rfl) (fun _ _ _ h => h) (Or.inl ⟨by rfl, ?_⟩) (by assumption) ?_
              rotate_left
              · intro w hSw
                (try dsimp only at hSw)
                go_simp
                all_goals (with_reducible rfl)
              try simp only [Act.put, List.setIfInBounds_toArray, List.set_cons_zero, List.set_cons_succ]
              refine wpAnyH_done (by kernel_rfl) ?_ _
              have HK := Lib.hid hHeld
              have HB := HBr
              clear HBr hHeld
              obtain ⟨u1, hu1⟩ : ∃ x, w9.drew = x := ⟨_, rfl⟩
              rw [hu1] at HK HB ⊢
              clear hu1
              obtain ⟨a0, a1, a2, a3, a4, a5, a6⟩ := arr7 (w := u1) (by exact (HK.out.rows _ (.tail _ (.head _))))
              have putx : putT (fun _ => 0) ⟨tlz, tsz, toz, tez, Lz, tbz, trz⟩ = (sealed (fun _ => 0) (encT ⟨tlz, tsz, toz, tez, Lz, tbz, trz⟩), 0) := by unfold putT; rw [if_pos HRz.out]
              have HPz := Lib.hid putx
              clear putx
              go_wp2_with fail
              refine (putT_is u1 (HK.out.tabs _ (.head _)).1 (HK.out.tabs _ (.head _)).2 tlz tsz toz tez trz (HK.out.ils _ (.tail _ (.head _))) (show imz ≤ 1000000 by omega) tbz (HK.out.reads _ (.tail _ (.tail _ (.tail _ (.head _))))) (show kz ≤ 1000000 by omega)).mono ?_
              rintro e w11 ⟨G, gn, gc, rfl, hoc, hb⟩
              rw [HPz.out] at hoc ⊢
              simp only at hoc ⊢
              clear a0 a1 a2 a3 a4 a5 a6
              have hW : Below u1.heap.size u1 w11 := hb
              replace HK := Lib.hid (HK.out.below hW (Nat.le_refl _))
              replace HB := Lib.hid (HB.out.trans (hW.mono HB.out.size))
              clear hW
              replace HK := Lib.hid (HK.out.read (hoc.rd))
              clear hoc hb
              obtain ⟨a0, a1, a2, a3, a4, a5, a6⟩ := arr7 (w := w11) (by exact (HK.out.rows _ (.head _)))
              obtain ⟨py, hpy⟩ : ∃ x, putT (fun _ => 0) ⟨tlw, tsw, tow, tew, Lw, tbw, trw⟩ = x := ⟨_, rfl⟩
              obtain ⟨bE, eE⟩ := py
              have putx : putT (fun _ => 0) ⟨tlw, tsw, tow, tew, Lw, tbw, trw⟩ = (sealed (fun _ => 0) (encT ⟨tlw, tsw, tow, tew, Lw, tbw, trw⟩), 0) := by unfold putT; rw [if_pos HRw.out]
              rw [putx] at hpy
              injection hpy with h1 h2
              subst h1 h2
              have hpy := putx
              clear putx
              have HPw := Lib.hid hpy
              clear hpy
              go_wp2_with fail
              refine (putT_is w11 (HK.out.tabs _ (.head _)).1 (HK.out.tabs _ (.head _)).2 tlw tsw tow tew trw (HK.out.ils _ (.head _)) (show imw ≤ 1000000 by omega) tbw (HK.out.reads _ (.tail _ (.tail _ (.tail _ (.head _))))) (show kw ≤ 1000000 by omega)).mono ?_
              rintro e w12 ⟨H, hn, hc, rfl, hod, hb⟩
              rw [HPw.out] at hod ⊢
              simp only at hod ⊢
              clear a0 a1 a2 a3 a4 a5 a6
              have hW : Below w11.heap.size w11 w12 := hb
              replace HK := Lib.hid (HK.out.below hW (Nat.le_refl _))
              replace HB := Lib.hid (HB.out.trans (hW.mono HB.out.size))
              clear hW
              replace HK := Lib.hid (HK.out.read (hod.rd))
              clear hod hb
              go_wp2_with fail
              refine wp_region_held_drew (S := fun u => Keep u [(g + 1 + 1 + 1, #[.int .i64 tlw, .int .i64 tsw, .int .u8 tow, .int .i64 tew, .slice Iw imw mcw, .slice Bw kw dw, .int .i64 trw], 34), (g + 1 + 1, #[.int .i64 tlz, .int .i64 tsz, .int .u8 toz, .int .i64 tez, .slice Iz imz mcz, .slice Bz kz dz, .int .i64 trz], 34), (g + 1, #[.int .i64 ly, .int .i64 sy, .int .u8 oy, .int .i64 sty, .int .i64 iy, .int .i64 vey, .slice Ay ny cy], 25), (g, #[.int .i64 lx, .int .i64 sx, .int .u8 ox, .int .i64 stx, .int .i64 ix, .int .i64 vex, .slice Ax nx cx], 25)] [(H, hn, sealed (fun _ => 0) (encT ⟨tlw, tsw, tow, tew, Lw, tbw, trw⟩)), (G, gn, sealed (fun _ => 0) (encT ⟨tlz, tsz, toz, tez, Lz, tbz, trz⟩)), (D, dn, []), (C, cn, sealed (fun _ => 0) (encA ⟨lx, sx, ox, stx, ix, vex, bsx⟩)), (Bw, kw, tbw), (Bz, kz, tbz), (Ay, ny, bsy), (Ax, nx, bsx)] [(Iw, imw, Lw), (Iz, imz, Lz)] [(g_w7, (fun _ => 0))]) (by kernel_rfl) (HK.out.drew) (fun hHeld => ?_)
              have HBr := Lib.hid (HB.out.drew)
              clear HK HB
              refine wpAnyH_take (i := 0) (oi := ⟨some 64, _, _, _, _, _⟩) (v := ?_) rfl (by as_aux_lemma => kernel_rfl) (by as_aux_lemma => kernel_rfl) (by as_aux_lemma => kernel_rfl) (fun _ _ _ h => h) (Or.inl ⟨by rfl, ?_⟩) (by assumption) ?_
              rotate_left
              · intro w hSw
                (try dsimp only at hSw)
                go_simp
                all_goals (with_reducible rfl)
              try simp only [Act.put, List.setIfInBounds_toArray, List.set_cons_zero, List.set_cons_succ]
              refine wpAnyH_take (i := 1) (oi := ⟨some 65, _, _, _, _, _⟩) (v := ?_) rfl (by as_aux_lemma => kernel_rfl) (by as_aux_lemma => kernel_rfl) (by as_aux_lemma => kernel_rfl) (fun _ _ _ h => h) (Or.inl ⟨by rfl, ?_⟩) (by assumption) ?_
              rotate_left
              · intro w hSw
                (try dsimp only at hSw)
                go_simp
                all_goals (with_reducible rfl)
              try simp only [Act.put, List.setIfInBounds_toArray, List.set_cons_zero, List.set_cons_succ]
              refine wpAnyH_take (i := 2) (oi := ⟨some 66, _, _, _, _, _⟩) (v := ?_) rfl (by as_aux_lemma => kernel_rfl) (by as_aux_lemma => kernel_rfl) (by as_aux_lemma => kernel_rfl) (fun _ _ _ h => h) (Or.inl ⟨by rfl, ?_⟩) (by assumption) ?_
              rotate_left
              · intro w hSw
                (try dsimp only at hSw)
                go_simp
                all_goals (with_reducible rfl)
              try simp only [Act.put, List.setIfInBounds_toArray, List.set_cons_zero, List.set_cons_succ]
              refine wpAnyH_take (i := 3) (oi := ⟨some 67, _, _, _, _, _⟩) (v := ?_) rfl (by as_aux_lemma => kernel_rfl) (by as_aux_lemma => kernel_rfl) (by as_aux_lemma => kernel_rfl) (fun _ _ _ h => h) (Or.inl ⟨by rfl, ?_⟩) (by assumption) ?_
              rotate_left
              · intro w hSw
                (try dsimp only at hSw)
                go_simp
                all_goals (with_reducible rfl)
              try simp only [Act.put, List.setIfInBounds_toArray, List.set_cons_zero, List.set_cons_succ]
              refine wpAnyH_take (i := 4) (oi := ⟨some 68, _, _, _, _, _⟩) (v := ?_) rfl (by as_aux_lemma => kernel_rfl) (by as_aux_lemma => kernel_rfl) (by as_aux_lemma => kernel_rfl) (fun _ _ _ h => h) (Or.inl ⟨by rfl, ?_⟩) (by assumption) ?_
              rotate_left
              · intro w hSw
                (try dsimp only at hSw)
                go_simp
                all_goals (with_reducible rfl)
              try simp only [Act.put, List.setIfInBounds_toArray, List.set_cons_zero, List.set_cons_succ]
              refine wpAnyH_take (i := 5) (oi := ⟨some 69, _, _, _, _, _⟩) (v := ?_) rfl (by as_aux_lemma => kernel_rfl) (by as_aux_lemma => kernel_rfl) (by as_aux_lemma => kernel_rfl) (fun _ _ _ h => h) (Or.inl ⟨by rfl, ?_⟩) (by assumption) ?_
              rotate_left
              · intro w hSw
                (try dsimp only at hSw)
                go_simp
                all_goals (with_reducible rfl)
              try simp only [Act.put, List.setIfInBounds_toArray, List.set_cons_zero, List.set_cons_succ]
              refine wpAnyH_take (i := 6) (oi := ⟨some 70, _, _, _, _, _⟩) (v := ?_) rfl (by as_aux_lemma => kernel_rfl) (by as_aux_lemma => kernel_rfl) (by as_aux_lemma => kernel_rfl) (fun _ _ _ h => h) (Or.inl ⟨by rfl, ?_⟩) (by assumption) ?_
              rotate_left
              · intro w hSw
                (try dsimp only at hSw)
                go_simp
                all_goals (with_reducible rfl)
              try simp only [Act.put, List.setIfInBounds_toArray, List.set_cons_zero, List.set_cons_succ]
              refine wpAnyH_take (i := 7) (oi := ⟨some 71, _, _, _, _, _⟩) (v := ?_) rfl (by as_aux_lemma => kernel_rfl) (by as_aux_lemma => kernel_rfl) (by as_aux_lemma => kernel_rfl) (fun _ _ _ h => h) (Or.inl ⟨by rfl, ?_⟩) (by assumption) ?_
              rotate_left
              · intro w hSw
                (try dsimp only at hSw)
                go_simp
                all_goals (with_reducible rfl)
              try simp only [Act.put, List.setIfInBounds_toArray, List.set_cons_zero, List.set_cons_succ]
              refine wpAnyH_take (i := 8) (oi := ⟨some 72, _, _, _, _, _⟩) (v := ?_) rfl (by as_aux_lemma => kernel_rfl) (by as_aux_lemma => kernel_rfl) (by as_aux_lemma => kernel_rfl) (fun _ _ _ h => h) (Or.inl ⟨by rfl, ?_⟩) (by assumption) ?_
              rotate_left
              · intro w hSw
                (try dsimp only at hSw)
                go_simp
                all_goals (with_reducible rfl)
              try simp only [Act.put, List.setIfInBounds_toArray, List.set_cons_zero, List.set_cons_succ]
              refine wpAnyH_take (i := 10) (oi := ⟨some 74, _, _, _, _, _⟩) (v := ?_) rfl (by as_aux_lemma => kernel_rfl) (by as_aux_lemma => kernel_rfl) (by as_aux_lemma => kernel_rfl) (fun _ _ _ h => h) (Or.inl ⟨by rfl, ?_⟩) (by assumption) ?_
              rotate_left
              · intro w hSw
                obtain ⟨l0, l1, l2, l3, l4, l5, l6⟩ := arr7 (w := w) (hSw.rows _ (.tail _ (.head _)))
                go_simp
                all_goals (with_reducible rfl)
              try simp only [Act.put, List.setIfInBounds_toArray, List.set_cons_zero, List.set_cons_succ]
              refine wpAnyH_take (i := 11) (oi := ⟨some 75, _, _, _, _, _⟩) (v := ?_) rfl (by as_aux_lemma => kernel_rfl) (by as_aux_lemma => kernel_rfl) (by as_aux_lemma => kernel_rfl) (fun _ _ _ h => h) (Or.inl ⟨by rfl, ?_⟩) (by assumption) ?_
              rotate_left
              · intro w hSw
                obtain ⟨l0, l1, l2, l3, l4, l5, l6⟩ := arr7 (w := w) (hSw.rows _ (.head _))
                go_simp
                all_goals (with_reducible rfl)
              try simp only [Act.put, List.setIfInBounds_toArray, List.set_cons_zero, List.set_cons_succ]
              obtain ⟨q3, hq3⟩ : ∃ q, decide ((⟨tlz, tsz, toz, tez, Lz, tbz, trz⟩ : TelP) = ⟨tlw, tsw, tow, tew, Lw, tbw, trw⟩) = q := ⟨_, rfl⟩
              refine wpAnyH_ready (rs := [9]) (by as_aux_lemma => kernel_rfl) (by simp) (AllReadyH.cons (o := ⟨some 73, _, _, _, _, _⟩) rfl (fun K hK => ?_) AllReadyH.nil)
              go_simp
              refine (sameB_is _ (hHeld.reads _ (.tail _ (.head _))) (hHeld.reads _ (.head _)) (q := q3) (by rw [putT_same HRz.out HRw.out]; exact hq3)).mono ?_
              rintro e _ ⟨rfl, rfl⟩
              have hS2 := hHeld.below (Below.refl _ _) (Nat.le_refl _)
              replace HBr := Lib.hid (HBr.out.trans ((Below.refl _ _).mono HBr.out.size))
              refine hK.out _ _ hS2 (fun hHeld => ?_)
              clear hK K hS2
              try simp only [Act.put, List.setIfInBounds_toArray, List.set_cons_zero, List.set_cons_succ]
              refine wpAnyH_ready (rs := [12]) (by as_aux_lemma => kernel_rfl) (by simp) (AllReadyH.cons (o := ⟨some 76, _, _, _, _, _⟩) rfl (fun K hK => ?_) AllReadyH.nil)
              go_simp
              refine (sameT_is _ tlz tsz toz tez trz tlw tsw tow tew trw Lz Lw tbz tbw (hHeld.ils _ (.tail _ (.head _))) (hHeld.ils _ (.head _)) (show imz ≤ 1000000 by omega) (hHeld.reads _ (.tail _ (.tail _ (.tail _ (.tail _ (.tail _ (.head _))))))) (hHeld.reads _ (.tail _ (.tail _ (.tail _ (.tail _ (.head _)))))) hq3).mono ?_
              rintro e u3 ⟨rfl, hb⟩
              have hS2 := hHeld.below hb (Nat.le_refl _)
              replace HBr := Lib.hid (HBr.out.trans (hb.mono HBr.out.size))
              refine hK.out _ _ hS2 (fun hHeld => ?_)
              clear hK K hS2
              try simp only [Act.put, List.setIfInBounds_toArray, List.set_cons_zero, List.set_cons_succ]
              clear hb
              refine wpAnyH_take (i := 13) (oi := ⟨some 77, _, _, _, _, _⟩) (v := ?_) rfl (by as_aux_lemma => kernel_rfl) (by as_aux_lemma => kernel_rfl) (by as_aux_lemma => kernel_rfl) (fun _ _ _ h => h) (Or.inl ⟨by rfl, ?_⟩) (by assumption) ?_
              rotate_left
              · intro w hSw
                (try dsimp only at hSw)
                go_simp
                all_goals (with_reducible rfl)
              try simp only [Act.put, List.setIfInBounds_toArray, List.set_cons_zero, List.set_cons_succ]
              refine wpAnyH_take (i := 14) (oi := ⟨some 78, _, _, _, _, _⟩) (v := ?_) rfl (by as_aux_lemma => kernel_rfl) (by as_aux_lemma => kernel_rfl) (by as_aux_lemma => kernel_rfl) (fun _ _ _ h => h) (Or.inl ⟨by rfl, ?_⟩) (by assumption) ?_
              rotate_left
              · intro w hSw
                (try dsimp only at hSw)
                go_simp
                all_goals (with_reducible rfl)
              try simp only [Act.put, List.setIfInBounds_toArray, List.set_cons_zero, List.set_cons_succ]
              refine wpAnyH_take (i := 15) (oi := ⟨some 79, _, _, _, _, _⟩) (v := ?_) rfl (by as_aux_lemma => kernel_rfl) (by as_aux_lemma => kernel_rfl) (by as_aux_lemma => kernel_rfl) (fun _ _ _ h => h) (Or.inl ⟨by rfl, ?_⟩) (by assumption) ?_
              rotate_left
              · intro w hSw
                (try dsimp only at hSw)
                go_simp
                all_goals (with_reducible rfl)
              try simp only [Act.put, List.setIfInBounds_toArray, List.set_cons_zero, List.set_cons_succ]
              refine wpAnyH_ready (rs := [16]) (by as_aux_lemma => kernel_rfl) (by simp) (AllReadyH.cons (o := ⟨some 80, _, _, _, _, _⟩) rfl (fun K hK => ?_) AllReadyH.nil)
              go_simp
              refine (awake_is _).mono ?_
              rintro e u5 ⟨rfl, hb⟩
              have hS2 := hHeld.below hb (Nat.le_refl _)
              replace HBr := Lib.hid (HBr.out.trans (hb.mono HBr.out.size))
              refine hK.out _ _ hS2 (fun hHeld => ?_)
              clear hK K hS2
              try simp only [Act.put, List.setIfInBounds_toArray, List.set_cons_zero, List.set_cons_succ]
              refine wpAnyH_take (i := 17) (oi := ⟨some 81, _, _, _, _, _⟩) (v := ?_) rfl (by as_aux_lemma => kernel_rfl) (by as_aux_lemma => kernel_rfl) (by as_aux_lemma => kernel_rfl) (fun _ _ _ h => h) (Or.inl ⟨by rfl, ?_⟩) (by assumption) ?_
              rotate_left
              · intro w hSw
                (try dsimp only at hSw)
                go_simp
                all_goals (with_reducible rfl)
              try simp only [Act.put, List.setIfInBounds_toArray, List.set_cons_zero, List.set_cons_succ]
              refine wpAnyH_take (i := 18) (oi := ⟨some 8, _, _, _, _, _⟩) (v := ?_) rfl (by as_aux_lemma => kernel_rfl) (by as_aux_lemma => kernel_rfl) (by as_aux_lemma => kernel_rfl) (fun _ _ _ h => h) (Or.inl ⟨by rfl, ?_⟩) (by assumption) ?_
              rotate_left
              · intro w hSw
                (try dsimp only at hSw)
                go_simp
                all_goals (with_reducible rfl)
              try simp only [Act.put, List.setIfInBounds_toArray, List.set_cons_zero, List.set_cons_succ]
              refine wpAnyH_done (by kernel_rfl) ?_ _
              have HK := Lib.hid hHeld
              have HB := HBr
              clear HBr hHeld
              go_wp2
              go_ret
              exact told_mk (by simp) HB.out
            · replace HRw := Lib.hid HRw
              have hs1 := q1
              have hs2 := q2
              have q1 := Lib.hid (decide_eq_true q1)
              have q2 := Lib.hid (decide_eq_true q2)
              go_enter Try.func6, Try.ntmps6
              obtain ⟨a0, a1, a2, a3, a4, a5, a6⟩ := arr7 (w := (World.alloc (World.alloc (World.alloc (World.alloc w (.cells #[.int .i64 lx, .int .i64 sx, .int .u8 ox, .int .i64 stx, .int .i64 ix, .int .i64 vex, .slice Ax nx cx] 25)) (.cells #[.int .i64 ly, .int .i64 sy, .int .u8 oy, .int .i64 sty, .int .i64 iy, .int .i64 vey, .slice Ay ny cy] 25)) (.cells #[.int .i64 tlz, .int .i64 tsz, .int .u8 toz, .int .i64 tez, .slice Iz imz mcz, .slice Bz kz dz, .int .i64 trz] 34)) (.cells #[.int .i64 tlw, .int .i64 tsw, .int .u8 tow, .int .i64 tew, .slice Iw imw mcw, .slice Bw kw dw, .int .i64 trw] 34))) (by rw [Ew1.out, Ew2.out, Ew3.out, Ew4.out]; exact (HK.out.rows _ (.tail _ (.tail _ (.tail _ (.head _))))))
              obtain ⟨b0, b1, b2, b3, b4, b5, b6⟩ := arr7 (w := (World.alloc (World.alloc (World.alloc (World.alloc w (.cells #[.int .i64 lx, .int .i64 sx, .int .u8 ox, .int .i64 stx, .int .i64 ix, .int .i64 vex, .slice Ax nx cx] 25)) (.cells #[.int .i64 ly, .int .i64 sy, .int .u8 oy, .int .i64 sty, .int .i64 iy, .int .i64 vey, .slice Ay ny cy] 25)) (.cells #[.int .i64 tlz, .int .i64 tsz, .int .u8 toz, .int .i64 tez, .slice Iz imz mcz, .slice Bz kz dz, .int .i64 trz] 34)) (.cells #[.int .i64 tlw, .int .i64 tsw, .int .u8 tow, .int .i64 tew, .slice Iw imw mcw, .slice Bw kw dw, .int .i64 trw] 34))) (by rw [Ew1.out, Ew2.out, Ew3.out, Ew4.out]; exact (HK.out.rows _ (.tail _ (.head _))))
              go_wp2_with fail
              rw [Ew1.out]
              rw [Ew2.out]
              rw [Ew3.out]
              rw [Ew4.out]
              clear Ew1 Ew2 Ew3 Ew4
              refine (small_is w4 lx sx ox stx ix vex tlz tsz toz tez trz q1.out).mono ?_
              rintro e w5 ⟨rfl, hb⟩
              have hW : Below w4.heap.size w4 w5 := hb
              replace HK := Lib.hid (HK.out.below hW (Nat.le_refl _))
              replace HB := Lib.hid (HB.out.trans (hW.mono HB.out.size))
              clear hW
              clear a0 a1 a2 a3 a4 a5 a6 b0 b1 b2 b3 b4 b5 b6 hb
              obtain ⟨a0, a1, a2, a3, a4, a5, a6⟩ := arr7 (w := w5) (by exact (HK.out.rows _ (.tail _ (.tail _ (.head _)))))
              obtain ⟨b0, b1, b2, b3, b4, b5, b6⟩ := arr7 (w := w5) (by exact (HK.out.rows _ (.head _)))
              go_wp2_with fail
              refine (small_is w5 ly sy oy sty iy vey tlw tsw tow tew trw q2.out).mono ?_
              rintro e w6 ⟨rfl, hb⟩
              have hW : Below w5.heap.size w5 w6 := hb
              replace HK := Lib.hid (HK.out.below hW (Nat.le_refl _))
              replace HB := Lib.hid (HB.out.trans (hW.mono HB.out.size))
              clear hW
              clear a0 a1 a2 a3 a4 a5 a6 b0 b1 b2 b3 b4 b5 b6 hb
              obtain ⟨g_w7, h_w7⟩ : ∃ g, w6.heap.size = g := ⟨_, rfl⟩
              obtain ⟨w7, e⟩ : ∃ x, w6.alloc (.cells Z0 39) = x := ⟨_, rfl⟩
              obtain ⟨hW, hx⟩ := box_new e
              rw [h_w7] at hx
              have Ew7 := Lib.hid e
              clear e
              replace hx := Lib.hid hx
              replace HK := Lib.hid (HK.out.below hW (Nat.le_refl _))
              replace HB := Lib.hid (HB.out.trans (hW.mono HB.out.size))
              clear hW
              clear hx
              have hTb : Tb w7 g_w7 (fun _ => 0) := by rw [← Ew7.out]; exact tab_nought w6 h_w7
              replace HK := Lib.hid (HK.out.tab (hTb))
              clear hTb
              have hz39 := zeroT39
              obtain ⟨a0, a1, a2, a3, a4, a5, a6⟩ := arr7 (w := (World.alloc w6 (.cells Z0 39))) (by rw [Ew7.out]; exact (HK.out.rows _ (.tail _ (.tail _ (.tail _ (.head _))))))
              have putx : putA (fun _ => 0) ⟨lx, sx, ox, stx, ix, vex, bsx⟩ = (sealed (fun _ => 0) (encA ⟨lx, sx, ox, stx, ix, vex, bsx⟩), 0) := by unfold putA; rw [if_pos HRx.out]
              have HPx := Lib.hid putx
              clear putx
              go_wp2_with fail
              rw [Ew7.out]
              clear Ew7
              refine (putA_is w7 (HK.out.tabs _ (.head _)).1 (HK.out.tabs _ (.head _)).2 lx sx ox stx ix vex bsx (HK.out.reads _ (.tail _ (.tail _ (.tail _ (.head _))))) (show nx ≤ 1000000 by omega)).mono ?_
              rintro e w8 ⟨C, cn, cc, rfl, hoc, hb⟩
              rw [HPx.out] at hoc ⊢
              simp only at hoc ⊢
              clear a0 a1 a2 a3 a4 a5 a6 hz39
              have hW : Below w7.heap.size w7 w8 := hb
              replace HK := Lib.hid (HK.out.below hW (Nat.le_refl _))
              replace HB := Lib.hid (HB.out.trans (hW.mono HB.out.size))
              clear hW
              replace HK := Lib.hid (HK.out.read (hoc.rd))
              clear hoc hb
              obtain ⟨a0, a1, a2, a3, a4, a5, a6⟩ := arr7 (w := w8) (by exact (HK.out.rows _ (.tail _ (.tail _ (.head _)))))
              obtain ⟨py, hpy⟩ : ∃ x, putA (fun _ => 0) ⟨ly, sy, oy, sty, iy, vey, bsy⟩ = x := ⟨_, rfl⟩
              obtain ⟨bD, eD⟩ := py
              have putx : putA (fun _ => 0) ⟨ly, sy, oy, sty, iy, vey, bsy⟩ = ([], 110) := by unfold putA; rw [if_neg HRy.out]
              rw [putx] at hpy
              injection hpy with h1 h2
              subst h1 h2
              have hpy := putx
              clear putx
              have HPy := Lib.hid hpy
              clear hpy
              go_wp2_with fail
              refine (putA_is w8 (HK.out.tabs _ (.head _)).1 (HK.out.tabs _ (.head _)).2 ly sy oy sty iy vey bsy (HK.out.reads _ (.tail _ (.tail _ (.tail _ (.head _))))) (show ny ≤ 1000000 by omega)).mono ?_
              rintro e w9 ⟨D, dn, dc, rfl, hod, hb⟩
              rw [HPy.out] at hod ⊢
              simp only at hod ⊢
              clear a0 a1 a2 a3 a4 a5 a6
              have hW : Below w8.heap.size w8 w9 := hb
              replace HK := Lib.hid (HK.out.below hW (Nat.le_refl _))
              replace HB := Lib.hid (HB.out.trans (hW.mono HB.out.size))
              clear hW
              replace HK := Lib.hid (HK.out.read (hod.rd))
              clear hod hb
              go_wp2_with fail
              refine wp_region_held_drew (S := fun u => Keep u [(g + 1 + 1 + 1, #[.int .i64 tlw, .int .i64 tsw, .int .u8 tow, .int .i64 tew, .slice Iw imw mcw, .slice Bw kw dw, .int .i64 trw], 34), (g + 1 + 1, #[.int .i64 tlz, .int .i64 tsz, .int .u8 toz, .int .i64 tez, .slice Iz imz mcz, .slice Bz kz dz, .int .i64 trz], 34), (g + 1, #[.int .i64 ly, .int .i64 sy, .int .u8 oy, .int .i64 sty, .int .i64 iy, .int .i64 vey, .slice Ay ny cy], 25), (g, #[.int .i64 lx, .int .i64 sx, .int .u8 ox, .int .i64 stx, .int .i64 ix, .int .i64 vex, .slice Ax nx cx], 25)] [(D, dn, []), (C, cn, sealed (fun _ => 0) (encA ⟨lx, sx, ox, stx, ix, vex, bsx⟩)), (Bw, kw, tbw), (Bz, kz, tbz), (Ay, ny, bsy), (Ax, nx, bsx)] [(Iw, imw, Lw), (Iz, imz, Lz)] [(g_w7, (fun _ => 0))]) (by kernel_rfl) (HK.out.drew) (fun hHeld => ?_)
              have HBr := Lib.hid (HB.out.drew)
              clear HK HB
              refine wpAnyH_take (i := 0) (oi := ⟨some 39, _, _, _, _, _⟩) (v := ?_) rfl (by as_aux_lemma => kernel_rfl) (by as_aux_lemma => kernel_rfl) (by as_aux_lemma => kernel_rfl) (fun _ _ _ h => h) (Or.inl ⟨by rfl, ?_⟩) (by assumption) ?_
              rotate_left
              · intro w hSw
                (try dsimp only at hSw)
                go_simp
                all_goals (with_reducible rfl)
              try simp only [Act.put, List.setIfInBounds_toArray, List.set_cons_zero, List.set_cons_succ]
              refine wpAnyH_take (i := 1) (oi := ⟨some 40, _, _, _, _, _⟩) (v := ?_) rfl (by as_aux_lemma => kernel_rfl) (by as_aux_lemma => kernel_rfl) (by as_aux_lemma => kernel_rfl) (fun _ _ _ h => h) (Or.inl ⟨by rfl, ?_⟩) (by assumption) ?_
              rotate_left
              · intro w hSw
                (try dsimp only at hSw)
                go_simp
                all_goals (with_reducible rfl)
              try simp only [Act.put, List.setIfInBounds_toArray, List.set_cons_zero, List.set_cons_succ]
              refine wpAnyH_take (i := 2) (oi := ⟨some 41, _, _, _, _, _⟩) (v := ?_) rfl (by as_aux_lemma => kernel_rfl) (by as_aux_lemma => kernel_rfl) (by as_aux_lemma => kernel_rfl) (fun _ _ _ h => h) (Or.inl ⟨by rfl, ?_⟩) (by assumption) ?_
              rotate_left
              · intro w hSw
                (try dsimp only at hSw)
                go_simp
                all_goals (with_reducible rfl)
              try simp only [Act.put, List.setIfInBounds_toArray, List.set_cons_zero, List.set_cons_succ]
              refine wpAnyH_take (i := 3) (oi := ⟨some 42, _, _, _, _, _⟩) (v := ?_) rfl (by as_aux_lemma => kernel_rfl) (by as_aux_lemma => kernel_rfl) (by as_aux_lemma => kernel_rfl) (fun _ _ _ h => h) (Or.inl ⟨by rfl, ?_⟩) (by assumption) ?_
              rotate_left
              · intro w hSw
                (try dsimp only at hSw)
                go_simp
                all_goals (with_reducible rfl)
              try simp only [Act.put, List.setIfInBounds_toArray, List.set_cons_zero, List.set_cons_succ]
              refine wpAnyH_take (i := 4) (oi := ⟨some 43, _, _, _, _, _⟩) (v := ?_) rfl (by as_aux_lemma => kernel_rfl) (by as_aux_lemma => kernel_rfl) (by as_aux_lemma => kernel_rfl) (fun _ _ _ h => h) (Or.inl ⟨by rfl, ?_⟩) (by assumption) ?_
              rotate_left
              · intro w hSw
                (try dsimp only at hSw)
                go_simp
                all_goals (with_reducible rfl)
              try simp only [Act.put, List.setIfInBounds_toArray, List.set_cons_zero, List.set_cons_succ]
              refine wpAnyH_take (i := 5) (oi := ⟨some 44, _, _, _, _, _⟩) (v := ?_) rfl (by as_aux_lemma => kernel_rfl) (by as_aux_lemma => kernel_rfl) (by as_aux_lemma => kernel_rfl) (fun _ _ _ h => h) (Or.inl ⟨by rfl, ?_⟩) (by assumption) ?_
              rotate_left
              · intro w hSw
                (try dsimp only at hSw)
                go_simp
                all_goals (with_reducible rfl)
              try simp only [Act.put, List.setIfInBounds_toArray, List.set_cons_zero, List.set_cons_succ]
              refine wpAnyH_take (i := 6) (oi := ⟨some 45, _, _, _, _, _⟩) (v := ?_) rfl (by as_aux_lemma => kernel_rfl) (by as_aux_lemma => kernel_rfl) (by as_aux_lemma => kernel_rfl) (fun _ _ _ h => h) (Or.inl ⟨by rfl, ?_⟩) (by assumption) ?_
              rotate_left
              · intro w hSw
                (try dsimp only at hSw)
                go_simp
                all_goals (with_reducible rfl)
              try simp only [Act.put, List.setIfInBounds_toArray, List.set_cons_zero, List.set_cons_succ]
              refine wpAnyH_take (i := 7) (oi := ⟨some 46, _, _, _, _, _⟩) (v := undef) rfl (by as_aux_lemma => kernel_rfl) (by as_aux_lemma => kernel_rfl) (by as_aux_lemma => kernel_rfl) (fun _ _ _ h => h) (Or.inr ⟨by rfl, rfl⟩) (by assumption) ?_
              try simp only [Act.put, List.setIfInBounds_toArray, List.set_cons_zero, List.set_cons_succ]
              refine wpAnyH_take (i := 8) (oi := ⟨some 47, _, _, _, _, _⟩) (v := undef) rfl (by as_aux_lemma => kernel_rfl) (by as_aux_lemma => kernel_rfl) (by as_aux_lemma => kernel_rfl) (fun _ _ _ h => h) (Or.inr ⟨by rfl, rfl⟩) (by assumption) ?_
              try simp only [Act.put, List.setIfInBounds_toArray, List.set_cons_zero, List.set_cons_succ]
              refine wpAnyH_take (i := 9) (oi := ⟨some 48, _, _, _, _, _⟩) (v := undef) rfl (by as_aux_lemma => kernel_rfl) (by as_aux_lemma => kernel_rfl) (by as_aux_lemma => kernel_rfl) (fun _ _ _ h => h) (Or.inr ⟨by rfl, rfl⟩) (by assumption) ?_
              try simp only [Act.put, List.setIfInBounds_toArray, List.set_cons_zero, List.set_cons_succ]
              refine wpAnyH_take (i := 10) (oi := ⟨some 49, _, _, _, _, _⟩) (v := undef) rfl (by as_aux_lemma => kernel_rfl) (by as_aux_lemma => kernel_rfl) (by as_aux_lemma => kernel_rfl) (fun _ _ _ h => h) (Or.inr ⟨by rfl, rfl⟩) (by assumption) ?_
              try simp only [Act.put, List.setIfInBounds_toArray, List.set_cons_zero, List.set_cons_succ]
              refine wpAnyH_take (i := 11) (oi := ⟨some 50, _, _, _, _, _⟩) (v := undef) rfl (by as_aux_lemma => kernel_rfl) (by as_aux_lemma => kernel_rfl) (by as_aux_lemma => kernel_rfl) (fun _ _ _ h => h) (Or.inr ⟨by rfl, rfl⟩) (by assumption) ?_
              try simp only [Act.put, List.setIfInBounds_toArray, List.set_cons_zero, List.set_cons_succ]
              refine wpAnyH_take (i := 12) (oi := ⟨some 51, _, _, _, _, _⟩) (v := undef) rfl (by as_aux_lemma => kernel_rfl) (by as_aux_lemma => kernel_rfl) (by as_aux_lemma => kernel_rfl) (fun _ _ _ h => h) (Or.inr ⟨by rfl, rfl⟩) (by assumption) ?_
              try simp only [Act.put, List.setIfInBounds_toArray, List.set_cons_zero, List.set_cons_succ]
              refine wpAnyH_take (i := 13) (oi := ⟨some 52, _, _, _, _, _⟩) (v := undef) rfl (by as_aux_lemma => kernel_rfl) (by as_aux_lemma => kernel_rfl) (by as_aux_lemma => kernel_rfl) (fun _ _ _ h => h) (Or.inr ⟨by rfl, rfl⟩) (by assumption) ?_
              try simp only [Act.put, List.setIfInBounds_toArray, List.set_cons_zero, List.set_cons_succ]
              refine wpAnyH_take (i := 14) (oi := ⟨some 53, _, _, _, _, _⟩) (v := ?_) rfl (by as_aux_lemma => kernel_rfl) (by as_aux_lemma => kernel_rfl) (by as_aux_lemma => kernel_rfl) (fun _ _ _ h => h) (Or.inl ⟨by rfl, ?_⟩) (by assumption) ?_
              rotate_left
              · intro w hSw
                (try dsimp only at hSw)
                go_simp
                all_goals (with_reducible rfl)
              try simp only [Act.put, List.setIfInBounds_toArray, List.set_cons_zero, List.set_cons_succ]
              refine wpAnyH_done (by kernel_rfl) ?_ _
              have HK := Lib.hid hHeld
              have HB := HBr
              clear HBr hHeld
              obtain ⟨u1, hu1⟩ : ∃ x, w9.drew = x := ⟨_, rfl⟩
              rw [hu1] at HK HB ⊢
              clear hu1
              obtain ⟨a0, a1, a2, a3, a4, a5, a6⟩ := arr7 (w := u1) (by exact (HK.out.rows _ (.tail _ (.head _))))
              have putx : putT (fun _ => 0) ⟨tlz, tsz, toz, tez, Lz, tbz, trz⟩ = (sealed (fun _ => 0) (encT ⟨tlz, tsz, toz, tez, Lz, tbz, trz⟩), 0) := by unfold putT; rw [if_pos HRz.out]
              have HPz := Lib.hid putx
              clear putx
              go_wp2_with fail
              refine (putT_is u1 (HK.out.tabs _ (.head _)).1 (HK.out.tabs _ (.head _)).2 tlz tsz toz tez trz (HK.out.ils _ (.tail _ (.head _))) (show imz ≤ 1000000 by omega) tbz (HK.out.reads _ (.tail _ (.tail _ (.tail _ (.head _))))) (show kz ≤ 1000000 by omega)).mono ?_
              rintro e w11 ⟨G, gn, gc, rfl, hoc, hb⟩
              rw [HPz.out] at hoc ⊢
              simp only at hoc ⊢
              clear a0 a1 a2 a3 a4 a5 a6
              have hW : Below u1.heap.size u1 w11 := hb
              replace HK := Lib.hid (HK.out.below hW (Nat.le_refl _))
              replace HB := Lib.hid (HB.out.trans (hW.mono HB.out.size))
              clear hW
              replace HK := Lib.hid (HK.out.read (hoc.rd))
              clear hoc hb
              obtain ⟨a0, a1, a2, a3, a4, a5, a6⟩ := arr7 (w := w11) (by exact (HK.out.rows _ (.head _)))
              obtain ⟨py, hpy⟩ : ∃ x, putT (fun _ => 0) ⟨tlw, tsw, tow, tew, Lw, tbw, trw⟩ = x := ⟨_, rfl⟩
              obtain ⟨bE, eE⟩ := py
              have putx : putT (fun _ => 0) ⟨tlw, tsw, tow, tew, Lw, tbw, trw⟩ = ([], 110) := by unfold putT; rw [if_neg HRw.out]
              rw [putx] at hpy
              injection hpy with h1 h2
              subst h1 h2
              have hpy := putx
              clear putx
              have HPw := Lib.hid hpy
              clear hpy
              go_wp2_with fail
              refine (putT_is w11 (HK.out.tabs _ (.head _)).1 (HK.out.tabs _ (.head _)).2 tlw tsw tow tew trw (HK.out.ils _ (.head _)) (show imw ≤ 1000000 by omega) tbw (HK.out.reads _ (.tail _ (.tail _ (.tail _ (.head _))))) (show kw ≤ 1000000 by omega)).mono ?_
              rintro e w12 ⟨H, hn, hc, rfl, hod, hb⟩
              rw [HPw.out] at hod ⊢
              simp only at hod ⊢
              clear a0 a1 a2 a3 a4 a5 a6
              have hW : Below w11.heap.size w11 w12 := hb
              replace HK := Lib.hid (HK.out.below hW (Nat.le_refl _))
              replace HB := Lib.hid (HB.out.trans (hW.mono HB.out.size))
              clear hW
              replace HK := Lib.hid (HK.out.read (hod.rd))
              clear hod hb
              go_wp2_with fail
              refine wp_region_held_drew (S := fun u => Keep u [(g + 1 + 1 + 1, #[.int .i64 tlw, .int .i64 tsw, .int .u8 tow, .int .i64 tew, .slice Iw imw mcw, .slice Bw kw dw, .int .i64 trw], 34), (g + 1 + 1, #[.int .i64 tlz, .int .i64 tsz, .int .u8 toz, .int .i64 tez, .slice Iz imz mcz, .slice Bz kz dz, .int .i64 trz], 34), (g + 1, #[.int .i64 ly, .int .i64 sy, .int .u8 oy, .int .i64 sty, .int .i64 iy, .int .i64 vey, .slice Ay ny cy], 25), (g, #[.int .i64 lx, .int .i64 sx, .int .u8 ox, .int .i64 stx, .int .i64 ix, .int .i64 vex, .slice Ax nx cx], 25)] [(H, hn, []), (G, gn, sealed (fun _ => 0) (encT ⟨tlz, tsz, toz, tez, Lz, tbz, trz⟩)), (D, dn, []), (C, cn, sealed (fun _ => 0) (encA ⟨lx, sx, ox, stx, ix, vex, bsx⟩)), (Bw, kw, tbw), (Bz, kz, tbz), (Ay, ny, bsy), (Ax, nx, bsx)] [(Iw, imw, Lw), (Iz, imz, Lz)] [(g_w7, (fun _ => 0))]) (by kernel_rfl) (HK.out.drew) (fun hHeld => ?_)
              have HBr := Lib.hid (HB.out.drew)
              clear HK HB
              refine wpAnyH_take (i := 0) (oi := ⟨some 64, _, _, _, _, _⟩) (v := ?_) rfl (by as_aux_lemma => kernel_rfl) (by as_aux_lemma => kernel_rfl) (by as_aux_lemma => kernel_rfl) (fun _ _ _ h => h) (Or.inl ⟨by rfl, ?_⟩) (by assumption) ?_
              rotate_left
              · intro w hSw
                (try dsimp only at hSw)
                go_simp
                all_goals (with_reducible rfl)
              try simp only [Act.put, List.setIfInBounds_toArray, List.set_cons_zero, List.set_cons_succ]
              refine wpAnyH_take (i := 1) (oi := ⟨some 65, _, _, _, _, _⟩) (v := ?_) rfl (by as_aux_lemma => kernel_rfl) (by as_aux_lemma => kernel_rfl) (by as_aux_lemma => kernel_rfl) (fun _ _ _ h => h) (Or.inl ⟨by rfl, ?_⟩) (by assumption) ?_
              rotate_left
              · intro w hSw
                (try dsimp only at hSw)
                go_simp
                all_goals (with_reducible rfl)
              try simp only [Act.put, List.setIfInBounds_toArray, List.set_cons_zero, List.set_cons_succ]
              refine wpAnyH_take (i := 2) (oi := ⟨some 66, _, _, _, _, _⟩) (v := ?_) rfl (by as_aux_lemma => kernel_rfl) (by as_aux_lemma => kernel_rfl) (by as_aux_lemma => kernel_rfl) (fun _ _ _ h => h) (Or.inl ⟨by rfl, ?_⟩) (by assumption) ?_
              rotate_left
              · intro w hSw
                (try dsimp only at hSw)
                go_simp
                all_goals (with_reducible rfl)
              try simp only [Act.put, List.setIfInBounds_toArray, List.set_cons_zero, List.set_cons_succ]
              refine wpAnyH_take (i := 3) (oi := ⟨some 67, _, _, _, _, _⟩) (v := ?_) rfl (by as_aux_lemma => kernel_rfl) (by as_aux_lemma => kernel_rfl) (by as_aux_lemma => kernel_rfl) (fun _ _ _ h => h) (Or.inl ⟨by rfl, ?_⟩) (by assumption) ?_
              rotate_left
              · intro w hSw
                (try dsimp only at hSw)
                go_simp
                all_goals (with_reducible rfl)
              try simp only [Act.put, List.setIfInBounds_toArray, List.set_cons_zero, List.set_cons_succ]
              refine wpAnyH_take (i := 4) (oi := ⟨some 68, _, _, _, _, _⟩) (v := ?_) rfl (by as_aux_lemma => kernel_rfl) (by as_aux_lemma => kernel_rfl) (by as_aux_lemma => kernel_rfl) (fun _ _ _ h => h) (Or.inl ⟨by rfl, ?_⟩) (by assumption) ?_
              rotate_left
              · intro w hSw
                (try dsimp only at hSw)
                go_simp
                all_goals (with_reducible rfl)
              try simp only [Act.put, List.setIfInBounds_toArray, List.set_cons_zero, List.set_cons_succ]
              refine wpAnyH_take (i := 5) (oi := ⟨some 69, _, _, _, _, _⟩) (v := ?_) rfl (by as_aux_lemma => kernel_rfl) (by as_aux_lemma => kernel_rfl) (by as_aux_lemma => kernel_rfl) (fun _ _ _ h => h) (Or.inl ⟨by rfl, ?_⟩) (by assumption) ?_
              rotate_left
              · intro w hSw
                (try dsimp only at hSw)
                go_simp
                all_goals (with_reducible rfl)
              try simp only [Act.put, List.setIfInBounds_toArray, List.set_cons_zero, List.set_cons_succ]
              refine wpAnyH_take (i := 6) (oi := ⟨some 70, _, _, _, _, _⟩) (v := ?_) rfl (by as_aux_lemma => kernel_rfl) (by as_aux_lemma => kernel_rfl) (by as_aux_lemma => kernel_rfl) (fun _ _ _ h => h) (Or.inl ⟨by rfl, ?_⟩) (by assumption) ?_
              rotate_left
              · intro w hSw
                (try dsimp only at hSw)
                go_simp
                all_goals (with_reducible rfl)
              try simp only [Act.put, List.setIfInBounds_toArray, List.set_cons_zero, List.set_cons_succ]
              refine wpAnyH_take (i := 7) (oi := ⟨some 71, _, _, _, _, _⟩) (v := undef) rfl (by as_aux_lemma => kernel_rfl) (by as_aux_lemma => kernel_rfl) (by as_aux_lemma => kernel_rfl) (fun _ _ _ h => h) (Or.inr ⟨by rfl, rfl⟩) (by assumption) ?_
              try simp only [Act.put, List.setIfInBounds_toArray, List.set_cons_zero, List.set_cons_succ]
              refine wpAnyH_take (i := 8) (oi := ⟨some 72, _, _, _, _, _⟩) (v := undef) rfl (by as_aux_lemma => kernel_rfl) (by as_aux_lemma => kernel_rfl) (by as_aux_lemma => kernel_rfl) (fun _ _ _ h => h) (Or.inr ⟨by rfl, rfl⟩) (by assumption) ?_
              try simp only [Act.put, List.setIfInBounds_toArray, List.set_cons_zero, List.set_cons_succ]
              refine wpAnyH_take (i := 9) (oi := ⟨some 73, _, _, _, _, _⟩) (v := undef) rfl (by as_aux_lemma => kernel_rfl) (by as_aux_lemma => kernel_rfl) (by as_aux_lemma => kernel_rfl) (fun _ _ _ h => h) (Or.inr ⟨by rfl, rfl⟩) (by assumption) ?_
              try simp only [Act.put, List.setIfInBounds_toArray, List.set_cons_zero, List.set_cons_succ]
              refine wpAnyH_take (i := 10) (oi := ⟨some 74, _, _, _, _, _⟩) (v := undef) rfl (by as_aux_lemma => kernel_rfl) (by as_aux_lemma => kernel_rfl) (by as_aux_lemma => kernel_rfl) (fun _ _ _ h => h) (Or.inr ⟨by rfl, rfl⟩) (by assumption) ?_
              try simp only [Act.put, List.setIfInBounds_toArray, List.set_cons_zero, List.set_cons_succ]
              refine wpAnyH_take (i := 11) (oi := ⟨some 75, _, _, _, _, _⟩) (v := undef) rfl (by as_aux_lemma => kernel_rfl) (by as_aux_lemma => kernel_rfl) (by as_aux_lemma => kernel_rfl) (fun _ _ _ h => h) (Or.inr ⟨by rfl, rfl⟩) (by assumption) ?_
              try simp only [Act.put, List.setIfInBounds_toArray, List.set_cons_zero, List.set_cons_succ]
              refine wpAnyH_take (i := 12) (oi := ⟨some 76, _, _, _, _, _⟩) (v := undef) rfl (by as_aux_lemma => kernel_rfl) (by as_aux_lemma => kernel_rfl) (by as_aux_lemma => kernel_rfl) (fun _ _ _ h => h) (Or.inr ⟨by rfl, rfl⟩) (by assumption) ?_
              try simp only [Act.put, List.setIfInBounds_toArray, List.set_cons_zero, List.set_cons_succ]
              refine wpAnyH_take (i := 13) (oi := ⟨some 77, _, _, _, _, _⟩) (v := undef) rfl (by as_aux_lemma => kernel_rfl) (by as_aux_lemma => kernel_rfl) (by as_aux_lemma => kernel_rfl) (fun _ _ _ h => h) (Or.inr ⟨by rfl, rfl⟩) (by assumption) ?_
              try simp only [Act.put, List.setIfInBounds_toArray, List.set_cons_zero, List.set_cons_succ]
              refine wpAnyH_take (i := 14) (oi := ⟨some 78, _, _, _, _, _⟩) (v := ?_) rfl (by as_aux_lemma => kernel_rfl) (by as_aux_lemma => kernel_rfl) (by as_aux_lemma => kernel_rfl) (fun _ _ _ h => h) (Or.inl ⟨by rfl, ?_⟩) (by assumption) ?_
              rotate_left
              · intro w hSw
                (try dsimp only at hSw)
                go_simp
                all_goals (with_reducible rfl)
              try simp only [Act.put, List.setIfInBounds_toArray, List.set_cons_zero, List.set_cons_succ]
              refine wpAnyH_take (i := 15) (oi := ⟨some 79, _, _, _, _, _⟩) (v := ?_) rfl (by as_aux_lemma => kernel_rfl) (by as_aux_lemma => kernel_rfl) (by as_aux_lemma => kernel_rfl) (fun _ _ _ h => h) (Or.inl ⟨by rfl, ?_⟩) (by assumption) ?_
              rotate_left
              · intro w hSw
                (try dsimp only at hSw)
                go_simp
                all_goals (with_reducible rfl)
              try simp only [Act.put, List.setIfInBounds_toArray, List.set_cons_zero, List.set_cons_succ]
              refine wpAnyH_ready (rs := [16]) (by as_aux_lemma => kernel_rfl) (by simp) (AllReadyH.cons (o := ⟨some 80, _, _, _, _, _⟩) rfl (fun K hK => ?_) AllReadyH.nil)
              go_simp
              refine (awake_is _).mono ?_
              rintro e u5 ⟨rfl, hb⟩
              have hS2 := hHeld.below hb (Nat.le_refl _)
              replace HBr := Lib.hid (HBr.out.trans (hb.mono HBr.out.size))
              refine hK.out _ _ hS2 (fun hHeld => ?_)
              clear hK K hS2
              try simp only [Act.put, List.setIfInBounds_toArray, List.set_cons_zero, List.set_cons_succ]
              refine wpAnyH_take (i := 17) (oi := ⟨some 81, _, _, _, _, _⟩) (v := ?_) rfl (by as_aux_lemma => kernel_rfl) (by as_aux_lemma => kernel_rfl) (by as_aux_lemma => kernel_rfl) (fun _ _ _ h => h) (Or.inl ⟨by rfl, ?_⟩) (by assumption) ?_
              rotate_left
              · intro w hSw
                (try dsimp only at hSw)
                go_simp
                all_goals (with_reducible rfl)
              try simp only [Act.put, List.setIfInBounds_toArray, List.set_cons_zero, List.set_cons_succ]
              refine wpAnyH_take (i := 18) (oi := ⟨some 8, _, _, _, _, _⟩) (v := ?_) rfl (by as_aux_lemma => kernel_rfl) (by as_aux_lemma => kernel_rfl) (by as_aux_lemma => kernel_rfl) (fun _ _ _ h => h) (Or.inl ⟨by rfl, ?_⟩) (by assumption) ?_
              rotate_left
              · intro w hSw
                (try dsimp only at hSw)
                go_simp
                all_goals (with_reducible rfl)
              try simp only [Act.put, List.setIfInBounds_toArray, List.set_cons_zero, List.set_cons_succ]
              refine wpAnyH_done (by kernel_rfl) ?_ _
              have HK := Lib.hid hHeld
              have HB := HBr
              clear HBr hHeld
              go_wp2
              go_ret
              exact told_mk (by simp) HB.out
          · replace HRz := Lib.hid HRz
            have hs1 := q1
            have hs2 := q2
            have q1 := Lib.hid (decide_eq_true q1)
            have q2 := Lib.hid (decide_eq_true q2)
            go_enter Try.func6, Try.ntmps6
            obtain ⟨a0, a1, a2, a3, a4, a5, a6⟩ := arr7 (w := (World.alloc (World.alloc (World.alloc (World.alloc w (.cells #[.int .i64 lx, .int .i64 sx, .int .u8 ox, .int .i64 stx, .int .i64 ix, .int .i64 vex, .slice Ax nx cx] 25)) (.cells #[.int .i64 ly, .int .i64 sy, .int .u8 oy, .int .i64 sty, .int .i64 iy, .int .i64 vey, .slice Ay ny cy] 25)) (.cells #[.int .i64 tlz, .int .i64 tsz, .int .u8 toz, .int .i64 tez, .slice Iz imz mcz, .slice Bz kz dz, .int .i64 trz] 34)) (.cells #[.int .i64 tlw, .int .i64 tsw, .int .u8 tow, .int .i64 tew, .slice Iw imw mcw, .slice Bw kw dw, .int .i64 trw] 34))) (by rw [Ew1.out, Ew2.out, Ew3.out, Ew4.out]; exact (HK.out.rows _ (.tail _ (.tail _ (.tail _ (.head _))))))
            obtain ⟨b0, b1, b2, b3, b4, b5, b6⟩ := arr7 (w := (World.alloc (World.alloc (World.alloc (World.alloc w (.cells #[.int .i64 lx, .int .i64 sx, .int .u8 ox, .int .i64 stx, .int .i64 ix, .int .i64 vex, .slice Ax nx cx] 25)) (.cells #[.int .i64 ly, .int .i64 sy, .int .u8 oy, .int .i64 sty, .int .i64 iy, .int .i64 vey, .slice Ay ny cy] 25)) (.cells #[.int .i64 tlz, .int .i64 tsz, .int .u8 toz, .int .i64 tez, .slice Iz imz mcz, .slice Bz kz dz, .int .i64 trz] 34)) (.cells #[.int .i64 tlw, .int .i64 tsw, .int .u8 tow, .int .i64 tew, .slice Iw imw mcw, .slice Bw kw dw, .int .i64 trw] 34))) (by rw [Ew1.out, Ew2.out, Ew3.out, Ew4.out]; exact (HK.out.rows _ (.tail _ (.head _))))
            go_wp2_with fail
            rw [Ew1.out]
            rw [Ew2.out]
            rw [Ew3.out]
            rw [Ew4.out]
            clear Ew1 Ew2 Ew3 Ew4
            refine (small_is w4 lx sx ox stx ix vex tlz tsz toz tez trz q1.out).mono ?_
            rintro e w5 ⟨rfl, hb⟩
            have hW : Below w4.heap.size w4 w5 := hb
            replace HK := Lib.hid (HK.out.below hW (Nat.le_refl _))
            replace HB := Lib.hid (HB.out.trans (hW.mono HB.out.size))
            clear hW
            clear a0 a1 a2 a3 a4 a5 a6 b0 b1 b2 b3 b4 b5 b6 hb
            obtain ⟨a0, a1, a2, a3, a4, a5, a6⟩ := arr7 (w := w5) (by exact (HK.out.rows _ (.tail _ (.tail _ (.head _)))))
            obtain ⟨b0, b1, b2, b3, b4, b5, b6⟩ := arr7 (w := w5) (by exact (HK.out.rows _ (.head _)))
            go_wp2_with fail
            refine (small_is w5 ly sy oy sty iy vey tlw tsw tow tew trw q2.out).mono ?_
            rintro e w6 ⟨rfl, hb⟩
            have hW : Below w5.heap.size w5 w6 := hb
            replace HK := Lib.hid (HK.out.below hW (Nat.le_refl _))
            replace HB := Lib.hid (HB.out.trans (hW.mono HB.out.size))
            clear hW
            clear a0 a1 a2 a3 a4 a5 a6 b0 b1 b2 b3 b4 b5 b6 hb
            obtain ⟨g_w7, h_w7⟩ : ∃ g, w6.heap.size = g := ⟨_, rfl⟩
            obtain ⟨w7, e⟩ : ∃ x, w6.alloc (.cells Z0 39) = x := ⟨_, rfl⟩
            obtain ⟨hW, hx⟩ := box_new e
            rw [h_w7] at hx
            have Ew7 := Lib.hid e
            clear e
            replace hx := Lib.hid hx
            replace HK := Lib.hid (HK.out.below hW (Nat.le_refl _))
            replace HB := Lib.hid (HB.out.trans (hW.mono HB.out.size))
            clear hW
            clear hx
            have hTb : Tb w7 g_w7 (fun _ => 0) := by rw [← Ew7.out]; exact tab_nought w6 h_w7
            replace HK := Lib.hid (HK.out.tab (hTb))
            clear hTb
            have hz39 := zeroT39
            obtain ⟨a0, a1, a2, a3, a4, a5, a6⟩ := arr7 (w := (World.alloc w6 (.cells Z0 39))) (by rw [Ew7.out]; exact (HK.out.rows _ (.tail _ (.tail _ (.tail _ (.head _))))))
            have putx : putA (fun _ => 0) ⟨lx, sx, ox, stx, ix, vex, bsx⟩ = (sealed (fun _ => 0) (encA ⟨lx, sx, ox, stx, ix, vex, bsx⟩), 0) := by unfold putA; rw [if_pos HRx.out]
            have HPx := Lib.hid putx
            clear putx
            go_wp2_with fail
            rw [Ew7.out]
            clear Ew7
            refine (putA_is w7 (HK.out.tabs _ (.head _)).1 (HK.out.tabs _ (.head _)).2 lx sx ox stx ix vex bsx (HK.out.reads _ (.tail _ (.tail _ (.tail _ (.head _))))) (show nx ≤ 1000000 by omega)).mono ?_
            rintro e w8 ⟨C, cn, cc, rfl, hoc, hb⟩
            rw [HPx.out] at hoc ⊢
            simp only at hoc ⊢
            clear a0 a1 a2 a3 a4 a5 a6 hz39
            have hW : Below w7.heap.size w7 w8 := hb
            replace HK := Lib.hid (HK.out.below hW (Nat.le_refl _))
            replace HB := Lib.hid (HB.out.trans (hW.mono HB.out.size))
            clear hW
            replace HK := Lib.hid (HK.out.read (hoc.rd))
            clear hoc hb
            obtain ⟨a0, a1, a2, a3, a4, a5, a6⟩ := arr7 (w := w8) (by exact (HK.out.rows _ (.tail _ (.tail _ (.head _)))))
            obtain ⟨py, hpy⟩ : ∃ x, putA (fun _ => 0) ⟨ly, sy, oy, sty, iy, vey, bsy⟩ = x := ⟨_, rfl⟩
            obtain ⟨bD, eD⟩ := py
            have putx : putA (fun _ => 0) ⟨ly, sy, oy, sty, iy, vey, bsy⟩ = ([], 110) := by unfold putA; rw [if_neg HRy.out]
            rw [putx] at hpy
            injection hpy with h1 h2
            subst h1 h2
            have hpy := putx
            clear putx
            have HPy := Lib.hid hpy
            clear hpy
            go_wp2_with fail
            refine (putA_is w8 (HK.out.tabs _ (.head _)).1 (HK.out.tabs _ (.head _)).2 ly sy oy sty iy vey bsy (HK.out.reads _ (.tail _ (.tail _ (.tail _ (.head _))))) (show ny ≤ 1000000 by omega)).mono ?_
            rintro e w9 ⟨D, dn, dc, rfl, hod, hb⟩
            rw [HPy.out] at hod ⊢
            simp only at hod ⊢
            clear a0 a1 a2 a3 a4 a5 a6
            have hW : Below w8.heap.size w8 w9 := hb
            replace HK := Lib.hid (HK.out.below hW (Nat.le_refl _))
            replace HB := Lib.hid (HB.out.trans (hW.mono HB.out.size))
            clear hW
            replace HK := Lib.hid (HK.out.read (hod.rd))
            clear hod hb
            go_wp2_with fail
            refine wp_region_held_drew (S := fun u => Keep u [(g + 1 + 1 + 1, #[.int .i64 tlw, .int .i64 tsw, .int .u8 tow, .int .i64 tew, .slice Iw imw mcw, .slice Bw kw dw, .int .i64 trw], 34), (g + 1 + 1, #[.int .i64 tlz, .int .i64 tsz, .int .u8 toz, .int .i64 tez, .slice Iz imz mcz, .slice Bz kz dz, .int .i64 trz], 34), (g + 1, #[.int .i64 ly, .int .i64 sy, .int .u8 oy, .int .i64 sty, .int .i64 iy, .int .i64 vey, .slice Ay ny cy], 25), (g, #[.int .i64 lx, .int .i64 sx, .int .u8 ox, .int .i64 stx, .int .i64 ix, .int .i64 vex, .slice Ax nx cx], 25)] [(D, dn, []), (C, cn, sealed (fun _ => 0) (encA ⟨lx, sx, ox, stx, ix, vex, bsx⟩)), (Bw, kw, tbw), (Bz, kz, tbz), (Ay, ny, bsy), (Ax, nx, bsx)] [(Iw, imw, Lw), (Iz, imz, Lz)] [(g_w7, (fun _ => 0))]) (by kernel_rfl) (HK.out.drew) (fun hHeld => ?_)
            have HBr := Lib.hid (HB.out.drew)
            clear HK HB
            refine wpAnyH_take (i := 0) (oi := ⟨some 39, _, _, _, _, _⟩) (v := ?_) rfl (by as_aux_lemma => kernel_rfl) (by as_aux_lemma => kernel_rfl) (by as_aux_lemma => kernel_rfl) (fun _ _ _ h => h) (Or.inl ⟨by rfl, ?_⟩) (by assumption) ?_
            rotate_left
            · intro w hSw
              (try dsimp only at hSw)
              go_simp
              all_goals (with_reducible rfl)
            try simp only [Act.put, List.setIfInBounds_toArray, List.set_cons_zero, List.set_cons_succ]
            refine wpAnyH_take (i := 1) (oi := ⟨some 40, _, _, _, _, _⟩) (v := ?_) rfl (by as_aux_lemma => kernel_rfl) (by as_aux_lemma => kernel_rfl) (by as_aux_lemma => kernel_rfl) (fun _ _ _ h => h) (Or.inl ⟨by rfl, ?_⟩) (by assumption) ?_
            rotate_left
            · intro w hSw
              (try dsimp only at hSw)
              go_simp
              all_goals (with_reducible rfl)
            try simp only [Act.put, List.setIfInBounds_toArray, List.set_cons_zero, List.set_cons_succ]
            refine wpAnyH_take (i := 2) (oi := ⟨some 41, _, _, _, _, _⟩) (v := ?_) rfl (by as_aux_lemma => kernel_rfl) (by as_aux_lemma => kernel_rfl) (by as_aux_lemma => kernel_rfl) (fun _ _ _ h => h) (Or.inl ⟨by rfl, ?_⟩) (by assumption) ?_
            rotate_left
            · intro w hSw
              (try dsimp only at hSw)
              go_simp
              all_goals (with_reducible rfl)
            try simp only [Act.put, List.setIfInBounds_toArray, List.set_cons_zero, List.set_cons_succ]
            refine wpAnyH_take (i := 3) (oi := ⟨some 42, _, _, _, _, _⟩) (v := ?_) rfl (by as_aux_lemma => kernel_rfl) (by as_aux_lemma => kernel_rfl) (by as_aux_lemma => kernel_rfl) (fun _ _ _ h => h) (Or.inl ⟨by rfl, ?_⟩) (by assumption) ?_
            rotate_left
            · intro w hSw
              (try dsimp only at hSw)
              go_simp
              all_goals (with_reducible rfl)
            try simp only [Act.put, List.setIfInBounds_toArray, List.set_cons_zero, List.set_cons_succ]
            refine wpAnyH_take (i := 4) (oi := ⟨some 43, _, _, _, _, _⟩) (v := ?_) rfl (by as_aux_lemma => kernel_rfl) (by as_aux_lemma => kernel_rfl) (by as_aux_lemma => kernel_rfl) (fun _ _ _ h => h) (Or.inl ⟨by rfl, ?_⟩) (by assumption) ?_
            rotate_left
            · intro w hSw
              (try dsimp only at hSw)
              go_simp
              all_goals (with_reducible rfl)
            try simp only [Act.put, List.setIfInBounds_toArray, List.set_cons_zero, List.set_cons_succ]
            refine wpAnyH_take (i := 5) (oi := ⟨some 44, _, _, _, _, _⟩) (v := ?_) rfl (by as_aux_lemma => kernel_rfl) (by as_aux_lemma => kernel_rfl) (by as_aux_lemma => kernel_rfl) (fun _ _ _ h => h) (Or.inl ⟨by rfl, ?_⟩) (by assumption) ?_
            rotate_left
            · intro w hSw
              (try dsimp only at hSw)
              go_simp
              all_goals (with_reducible rfl)
            try simp only [Act.put, List.setIfInBounds_toArray, List.set_cons_zero, List.set_cons_succ]
            refine wpAnyH_take (i := 6) (oi := ⟨some 45, _, _, _, _, _⟩) (v := ?_) rfl (by as_aux_lemma => kernel_rfl) (by as_aux_lemma => kernel_rfl) (by as_aux_lemma => kernel_rfl) (fun _ _ _ h => h) (Or.inl ⟨by rfl, ?_⟩) (by assumption) ?_
            rotate_left
            · intro w hSw
              (try dsimp only at hSw)
              go_simp
              all_goals (with_reducible rfl)
            try simp only [Act.put, List.setIfInBounds_toArray, List.set_cons_zero, List.set_cons_succ]
            refine wpAnyH_take (i := 7) (oi := ⟨some 46, _, _, _, _, _⟩) (v := undef) rfl (by as_aux_lemma => kernel_rfl) (by as_aux_lemma => kernel_rfl) (by as_aux_lemma => kernel_rfl) (fun _ _ _ h => h) (Or.inr ⟨by rfl, rfl⟩) (by assumption) ?_
            try simp only [Act.put, List.setIfInBounds_toArray, List.set_cons_zero, List.set_cons_succ]
            refine wpAnyH_take (i := 8) (oi := ⟨some 47, _, _, _, _, _⟩) (v := undef) rfl (by as_aux_lemma => kernel_rfl) (by as_aux_lemma => kernel_rfl) (by as_aux_lemma => kernel_rfl) (fun _ _ _ h => h) (Or.inr ⟨by rfl, rfl⟩) (by assumption) ?_
            try simp only [Act.put, List.setIfInBounds_toArray, List.set_cons_zero, List.set_cons_succ]
            refine wpAnyH_take (i := 9) (oi := ⟨some 48, _, _, _, _, _⟩) (v := undef) rfl (by as_aux_lemma => kernel_rfl) (by as_aux_lemma => kernel_rfl) (by as_aux_lemma => kernel_rfl) (fun _ _ _ h => h) (Or.inr ⟨by rfl, rfl⟩) (by assumption) ?_
            try simp only [Act.put, List.setIfInBounds_toArray, List.set_cons_zero, List.set_cons_succ]
            refine wpAnyH_take (i := 10) (oi := ⟨some 49, _, _, _, _, _⟩) (v := undef) rfl (by as_aux_lemma => kernel_rfl) (by as_aux_lemma => kernel_rfl) (by as_aux_lemma => kernel_rfl) (fun _ _ _ h => h) (Or.inr ⟨by rfl, rfl⟩) (by assumption) ?_
            try simp only [Act.put, List.setIfInBounds_toArray, List.set_cons_zero, List.set_cons_succ]
            refine wpAnyH_take (i := 11) (oi := ⟨some 50, _, _, _, _, _⟩) (v := undef) rfl (by as_aux_lemma => kernel_rfl) (by as_aux_lemma => kernel_rfl) (by as_aux_lemma => kernel_rfl) (fun _ _ _ h => h) (Or.inr ⟨by rfl, rfl⟩) (by assumption) ?_
            try simp only [Act.put, List.setIfInBounds_toArray, List.set_cons_zero, List.set_cons_succ]
            refine wpAnyH_take (i := 12) (oi := ⟨some 51, _, _, _, _, _⟩) (v := undef) rfl (by as_aux_lemma => kernel_rfl) (by as_aux_lemma => kernel_rfl) (by as_aux_lemma => kernel_rfl) (fun _ _ _ h => h) (Or.inr ⟨by rfl, rfl⟩) (by assumption) ?_
            try simp only [Act.put, List.setIfInBounds_toArray, List.set_cons_zero, List.set_cons_succ]
            refine wpAnyH_take (i := 13) (oi := ⟨some 52, _, _, _, _, _⟩) (v := undef) rfl (by as_aux_lemma => kernel_rfl) (by as_aux_lemma => kernel_rfl) (by as_aux_lemma => kernel_rfl) (fun _ _ _ h => h) (Or.inr ⟨by rfl, rfl⟩) (by assumption) ?_
            try simp only [Act.put, List.setIfInBounds_toArray, List.set_cons_zero, List.set_cons_succ]
            refine wpAnyH_take (i := 14) (oi := ⟨some 53, _, _, _, _, _⟩) (v := ?_) rfl (by as_aux_lemma => kernel_rfl) (by as_aux_lemma => kernel_rfl) (by as_aux_lemma => kernel_rfl) (fun _ _ _ h => h) (Or.inl ⟨by rfl, ?_⟩) (by assumption) ?_
            rotate_left
            · intro w hSw
              (try dsimp only at hSw)
              go_simp
              all_goals (with_reducible rfl)
            try simp only [Act.put, List.setIfInBounds_toArray, List.set_cons_zero, List.set_cons_succ]
            refine wpAnyH_done (by kernel_rfl) ?_ _
            have HK := Lib.hid hHeld
            have HB := HBr
            clear HBr hHeld
            obtain ⟨u1, hu1⟩ : ∃ x, w9.drew = x := ⟨_, rfl⟩
            rw [hu1] at HK HB ⊢
            clear hu1
            obtain ⟨a0, a1, a2, a3, a4, a5, a6⟩ := arr7 (w := u1) (by exact (HK.out.rows _ (.tail _ (.head _))))
            have putx : putT (fun _ => 0) ⟨tlz, tsz, toz, tez, Lz, tbz, trz⟩ = ([], 110) := by unfold putT; rw [if_neg HRz.out]
            have HPz := Lib.hid putx
            clear putx
            go_wp2_with fail
            refine (putT_is u1 (HK.out.tabs _ (.head _)).1 (HK.out.tabs _ (.head _)).2 tlz tsz toz tez trz (HK.out.ils _ (.tail _ (.head _))) (show imz ≤ 1000000 by omega) tbz (HK.out.reads _ (.tail _ (.tail _ (.tail _ (.head _))))) (show kz ≤ 1000000 by omega)).mono ?_
            rintro e w11 ⟨G, gn, gc, rfl, hoc, hb⟩
            rw [HPz.out] at hoc ⊢
            simp only at hoc ⊢
            clear a0 a1 a2 a3 a4 a5 a6
            have hW : Below u1.heap.size u1 w11 := hb
            replace HK := Lib.hid (HK.out.below hW (Nat.le_refl _))
            replace HB := Lib.hid (HB.out.trans (hW.mono HB.out.size))
            clear hW
            replace HK := Lib.hid (HK.out.read (hoc.rd))
            clear hoc hb
            obtain ⟨a0, a1, a2, a3, a4, a5, a6⟩ := arr7 (w := w11) (by exact (HK.out.rows _ (.head _)))
            obtain ⟨py, hpy⟩ : ∃ x, putT (fun _ => 0) ⟨tlw, tsw, tow, tew, Lw, tbw, trw⟩ = x := ⟨_, rfl⟩
            obtain ⟨bE, eE⟩ := py
            have HPw := Lib.hid hpy
            clear hpy
            go_wp2_with fail
            refine (putT_is w11 (HK.out.tabs _ (.head _)).1 (HK.out.tabs _ (.head _)).2 tlw tsw tow tew trw (HK.out.ils _ (.head _)) (show imw ≤ 1000000 by omega) tbw (HK.out.reads _ (.tail _ (.tail _ (.tail _ (.head _))))) (show kw ≤ 1000000 by omega)).mono ?_
            rintro e w12 ⟨H, hn, hc, rfl, hod, hb⟩
            rw [HPw.out] at hod ⊢
            simp only at hod ⊢
            clear a0 a1 a2 a3 a4 a5 a6
            have hW : Below w11.heap.size w11 w12 := hb
            replace HK := Lib.hid (HK.out.below hW (Nat.le_refl _))
            replace HB := Lib.hid (HB.out.trans (hW.mono HB.out.size))
            clear hW
            replace HK := Lib.hid (HK.out.read (hod.rd))
            clear hod hb
            go_wp2_with fail
            refine wp_region_held_drew (S := fun u => Keep u [(g + 1 + 1 + 1, #[.int .i64 tlw, .int .i64 tsw, .int .u8 tow, .int .i64 tew, .slice Iw imw mcw, .slice Bw kw dw, .int .i64 trw], 34), (g + 1 + 1, #[.int .i64 tlz, .int .i64 tsz, .int .u8 toz, .int .i64 tez, .slice Iz imz mcz, .slice Bz kz dz, .int .i64 trz], 34), (g + 1, #[.int .i64 ly, .int .i64 sy, .int .u8 oy, .int .i64 sty, .int .i64 iy, .int .i64 vey, .slice Ay ny cy], 25), (g, #[.int .i64 lx, .int .i64 sx, .int .u8 ox, .int .i64 stx, .int .i64 ix, .int .i64 vex, .slice Ax nx cx], 25)] [(H, hn, bE), (G, gn, []), (D, dn, []), (C, cn, sealed (fun _ => 0) (encA ⟨lx, sx, ox, stx, ix, vex, bsx⟩)), (Bw, kw, tbw), (Bz, kz, tbz), (Ay, ny, bsy), (Ax, nx, bsx)] [(Iw, imw, Lw), (Iz, imz, Lz)] [(g_w7, (fun _ => 0))]) (by kernel_rfl) (HK.out.drew) (fun hHeld => ?_)
            have HBr := Lib.hid (HB.out.drew)
            clear HK HB
            refine wpAnyH_take (i := 0) (oi := ⟨some 64, _, _, _, _, _⟩) (v := ?_) rfl (by as_aux_lemma => kernel_rfl) (by as_aux_lemma => kernel_rfl) (by as_aux_lemma => kernel_rfl) (fun _ _ _ h => h) (Or.inl ⟨by rfl, ?_⟩) (by assumption) ?_
            rotate_left
            · intro w hSw
              (try dsimp only at hSw)
              go_simp
              all_goals (with_reducible rfl)
            try simp only [Act.put, List.setIfInBounds_toArray, List.set_cons_zero, List.set_cons_succ]
            refine wpAnyH_take (i := 1) (oi := ⟨some 65, _, _, _, _, _⟩) (v := ?_) rfl (by as_aux_lemma => kernel_rfl) (by as_aux_lemma => kernel_rfl) (by as_aux_lemma => kernel_rfl) (fun _ _ _ h => h) (Or.inl ⟨by rfl, ?_⟩) (by assumption) ?_
            rotate_left
            · intro w hSw
              (try dsimp only at hSw)
              go_simp
              all_goals (with_reducible rfl)
            try simp only [Act.put, List.setIfInBounds_toArray, List.set_cons_zero, List.set_cons_succ]
            refine wpAnyH_take (i := 2) (oi := ⟨some 66, _, _, _, _, _⟩) (v := ?_) rfl (by as_aux_lemma => kernel_rfl) (by as_aux_lemma => kernel_rfl) (by as_aux_lemma => kernel_rfl) (fun _ _ _ h => h) (Or.inl ⟨by rfl, ?_⟩) (by assumption) ?_
            rotate_left
            · intro w hSw
              (try dsimp only at hSw)
              go_simp
              all_goals (with_reducible rfl)
            try simp only [Act.put, List.setIfInBounds_toArray, List.set_cons_zero, List.set_cons_succ]
            refine wpAnyH_take (i := 3) (oi := ⟨some 67, _, _, _, _, _⟩) (v := undef) rfl (by as_aux_lemma => kernel_rfl) (by as_aux_lemma => kernel_rfl) (by as_aux_lemma => kernel_rfl) (fun _ _ _ h => h) (Or.inr ⟨by rfl, rfl⟩) (by assumption) ?_
            try simp only [Act.put, List.setIfInBounds_toArray, List.set_cons_zero, List.set_cons_succ]
            refine wpAnyH_take (i := 4) (oi := ⟨some 68, _, _, _, _, _⟩) (v := undef) rfl (by as_aux_lemma => kernel_rfl) (by as_aux_lemma => kernel_rfl) (by as_aux_lemma => kernel_rfl) (fun _ _ _ h => h) (Or.inr ⟨by rfl, rfl⟩) (by assumption) ?_
            try simp only [Act.put, List.setIfInBounds_toArray, List.set_cons_zero, List.set_cons_succ]
            refine wpAnyH_take (i := 5) (oi := ⟨some 69, _, _, _, _, _⟩) (v := ?_) rfl (by as_aux_lemma => kernel_rfl) (by as_aux_lemma => kernel_rfl) (by as_aux_lemma => kernel_rfl) (fun _ _ _ h => h) (Or.inl ⟨by rfl, ?_⟩) (by assumption) ?_
            rotate_left
            · intro w hSw
              (try dsimp only at hSw)
              go_simp
              all_goals (with_reducible rfl)
            try simp only [Act.put, List.setIfInBounds_toArray, List.set_cons_zero, List.set_cons_succ]
            refine wpAnyH_take (i := 6) (oi := ⟨some 70, _, _, _, _, _⟩) (v := ?_) rfl (by as_aux_lemma => kernel_rfl) (by as_aux_lemma => kernel_rfl) (by as_aux_lemma => kernel_rfl) (fun _ _ _ h => h) (Or.inl ⟨by rfl, ?_⟩) (by assumption) ?_
            rotate_left
            · intro w hSw
              (try dsimp only at hSw)
              go_simp
              all_goals (with_reducible rfl)
            try simp only [Act.put, List.setIfInBounds_toArray, List.set_cons_zero, List.set_cons_succ]
            refine wpAnyH_take (i := 7) (oi := ⟨some 71, _, _, _, _, _⟩) (v := undef) rfl (by as_aux_lemma => kernel_rfl) (by as_aux_lemma => kernel_rfl) (by as_aux_lemma => kernel_rfl) (fun _ _ _ h => h) (Or.inr ⟨by rfl, rfl⟩) (by assumption) ?_
            try simp only [Act.put, List.setIfInBounds_toArray, List.set_cons_zero, List.set_cons_succ]
            refine wpAnyH_take (i := 8) (oi := ⟨some 72, _, _, _, _, _⟩) (v := undef) rfl (by as_aux_lemma => kernel_rfl) (by as_aux_lemma => kernel_rfl) (by as_aux_lemma => kernel_rfl) (fun _ _ _ h => h) (Or.inr ⟨by rfl, rfl⟩) (by assumption) ?_
            try simp only [Act.put, List.setIfInBounds_toArray, List.set_cons_zero, List.set_cons_succ]
            refine wpAnyH_take (i := 9) (oi := ⟨some 73, _, _, _, _, _⟩) (v := undef) rfl (by as_aux_lemma => kernel_rfl) (by as_aux_lemma => kernel_rfl) (by as_aux_lemma => kernel_rfl) (fun _ _ _ h => h) (Or.inr ⟨by rfl, rfl⟩) (by assumption) ?_
            try simp only [Act.put, List.setIfInBounds_toArray, List.set_cons_zero, List.set_cons_succ]
            refine wpAnyH_take (i := 10) (oi := ⟨some 74, _, _, _, _, _⟩) (v := undef) rfl (by as_aux_lemma => kernel_rfl) (by as_aux_lemma => kernel_rfl) (by as_aux_lemma => kernel_rfl) (fun _ _ _ h => h) (Or.inr ⟨by rfl, rfl⟩) (by assumption) ?_
            try simp only [Act.put, List.setIfInBounds_toArray, List.set_cons_zero, List.set_cons_succ]
            refine wpAnyH_take (i := 11) (oi := ⟨some 75, _, _, _, _, _⟩) (v := undef) rfl (by as_aux_lemma => kernel_rfl) (by as_aux_lemma => kernel_rfl) (by as_aux_lemma => kernel_rfl) (fun _ _ _ h => h) (Or.inr ⟨by rfl, rfl⟩) (by assumption) ?_
            try simp only [Act.put, List.setIfInBounds_toArray, List.set_cons_zero, List.set_cons_succ]
            refine wpAnyH_take (i := 12) (oi := ⟨some 76, _, _, _, _, _⟩) (v := undef) rfl (by as_aux_lemma => kernel_rfl) (by as_aux_lemma => kernel_rfl) (by as_aux_lemma => kernel_rfl) (fun _ _ _ h => h) (Or.inr ⟨by rfl, rfl⟩) (by assumption) ?_
            try simp only [Act.put, List.setIfInBounds_toArray, List.set_cons_zero, List.set_cons_succ]
            refine wpAnyH_take (i := 13) (oi := ⟨some 77, _, _, _, _, _⟩) (v := undef) rfl (by as_aux_lemma => kernel_rfl) (by as_aux_lemma => kernel_rfl) (by as_aux_lemma => kernel_rfl) (fun _ _ _ h => h) (Or.inr ⟨by rfl, rfl⟩) (by assumption) ?_
            try simp only [Act.put, List.setIfInBounds_toArray, List.set_cons_zero, List.set_cons_succ]
            refine wpAnyH_take (i := 14) (oi := ⟨some 78, _, _, _, _, _⟩) (v := ?_) rfl (by as_aux_lemma => kernel_rfl) (by as_aux_lemma => kernel_rfl) (by as_aux_lemma => kernel_rfl) (fun _ _ _ h => h) (Or.inl ⟨by rfl, ?_⟩) (by assumption) ?_
            rotate_left
            · intro w hSw
              (try dsimp only at hSw)
              go_simp
              all_goals (with_reducible rfl)
            try simp only [Act.put, List.setIfInBounds_toArray, List.set_cons_zero, List.set_cons_succ]
            refine wpAnyH_take (i := 15) (oi := ⟨some 79, _, _, _, _, _⟩) (v := ?_) rfl (by as_aux_lemma => kernel_rfl) (by as_aux_lemma => kernel_rfl) (by as_aux_lemma => kernel_rfl) (fun _ _ _ h => h) (Or.inl ⟨by rfl, ?_⟩) (by assumption) ?_
            rotate_left
            · intro w hSw
              (try dsimp only at hSw)
              go_simp
              all_goals (with_reducible rfl)
            try simp only [Act.put, List.setIfInBounds_toArray, List.set_cons_zero, List.set_cons_succ]
            refine wpAnyH_ready (rs := [16]) (by as_aux_lemma => kernel_rfl) (by simp) (AllReadyH.cons (o := ⟨some 80, _, _, _, _, _⟩) rfl (fun K hK => ?_) AllReadyH.nil)
            go_simp
            refine (awake_is _).mono ?_
            rintro e u5 ⟨rfl, hb⟩
            have hS2 := hHeld.below hb (Nat.le_refl _)
            replace HBr := Lib.hid (HBr.out.trans (hb.mono HBr.out.size))
            refine hK.out _ _ hS2 (fun hHeld => ?_)
            clear hK K hS2
            try simp only [Act.put, List.setIfInBounds_toArray, List.set_cons_zero, List.set_cons_succ]
            refine wpAnyH_take (i := 17) (oi := ⟨some 81, _, _, _, _, _⟩) (v := ?_) rfl (by as_aux_lemma => kernel_rfl) (by as_aux_lemma => kernel_rfl) (by as_aux_lemma => kernel_rfl) (fun _ _ _ h => h) (Or.inl ⟨by rfl, ?_⟩) (by assumption) ?_
            rotate_left
            · intro w hSw
              (try dsimp only at hSw)
              go_simp
              all_goals (with_reducible rfl)
            try simp only [Act.put, List.setIfInBounds_toArray, List.set_cons_zero, List.set_cons_succ]
            refine wpAnyH_take (i := 18) (oi := ⟨some 8, _, _, _, _, _⟩) (v := ?_) rfl (by as_aux_lemma => kernel_rfl) (by as_aux_lemma => kernel_rfl) (by as_aux_lemma => kernel_rfl) (fun _ _ _ h => h) (Or.inl ⟨by rfl, ?_⟩) (by assumption) ?_
            rotate_left
            · intro w hSw
              (try dsimp only at hSw)
              go_simp
              all_goals (with_reducible rfl)
            try simp only [Act.put, List.setIfInBounds_toArray, List.set_cons_zero, List.set_cons_succ]
            refine wpAnyH_done (by kernel_rfl) ?_ _
            have HK := Lib.hid hHeld
            have HB := HBr
            clear HBr hHeld
            go_wp2
            go_ret
            exact told_mk (by simp) HB.out
      · replace HRx := Lib.hid HRx
        by_cases HRz : RightT ⟨tlz, tsz, toz, tez, Lz, tbz, trz⟩
        · replace HRz := Lib.hid HRz
          by_cases HRw : RightT ⟨tlw, tsw, tow, tew, Lw, tbw, trw⟩
          · replace HRw := Lib.hid HRw
            have hs1 := q1
            have hs2 := q2
            have q1 := Lib.hid (decide_eq_true q1)
            have q2 := Lib.hid (decide_eq_true q2)
            go_enter Try.func6, Try.ntmps6
            obtain ⟨a0, a1, a2, a3, a4, a5, a6⟩ := arr7 (w := (World.alloc (World.alloc (World.alloc (World.alloc w (.cells #[.int .i64 lx, .int .i64 sx, .int .u8 ox, .int .i64 stx, .int .i64 ix, .int .i64 vex, .slice Ax nx cx] 25)) (.cells #[.int .i64 ly, .int .i64 sy, .int .u8 oy, .int .i64 sty, .int .i64 iy, .int .i64 vey, .slice Ay ny cy] 25)) (.cells #[.int .i64 tlz, .int .i64 tsz, .int .u8 toz, .int .i64 tez, .slice Iz imz mcz, .slice Bz kz dz, .int .i64 trz] 34)) (.cells #[.int .i64 tlw, .int .i64 tsw, .int .u8 tow, .int .i64 tew, .slice Iw imw mcw, .slice Bw kw dw, .int .i64 trw] 34))) (by rw [Ew1.out, Ew2.out, Ew3.out, Ew4.out]; exact (HK.out.rows _ (.tail _ (.tail _ (.tail _ (.head _))))))
            obtain ⟨b0, b1, b2, b3, b4, b5, b6⟩ := arr7 (w := (World.alloc (World.alloc (World.alloc (World.alloc w (.cells #[.int .i64 lx, .int .i64 sx, .int .u8 ox, .int .i64 stx, .int .i64 ix, .int .i64 vex, .slice Ax nx cx] 25)) (.cells #[.int .i64 ly, .int .i64 sy, .int .u8 oy, .int .i64 sty, .int .i64 iy, .int .i64 vey, .slice Ay ny cy] 25)) (.cells #[.int .i64 tlz, .int .i64 tsz, .int .u8 toz, .int .i64 tez, .slice Iz imz mcz, .slice Bz kz dz, .int .i64 trz] 34)) (.cells #[.int .i64 tlw, .int .i64 tsw, .int .u8 tow, .int .i64 tew, .slice Iw imw mcw, .slice Bw kw dw, .int .i64 trw] 34))) (by rw [Ew1.out, Ew2.out, Ew3.out, Ew4.out]; exact (HK.out.rows _ (.tail _ (.head _))))
            go_wp2_with fail
            rw [Ew1.out]
            rw [Ew2.out]
            rw [Ew3.out]
            rw [Ew4.out]
            clear Ew1 Ew2 Ew3 Ew4
            refine (small_is w4 lx sx ox stx ix vex tlz tsz toz tez trz q1.out).mono ?_
            rintro e w5 ⟨rfl, hb⟩
            have hW : Below w4.heap.size w4 w5 := hb
            replace HK := Lib.hid (HK.out.below hW (Nat.le_refl _))
            replace HB := Lib.hid (HB.out.trans (hW.mono HB.out.size))
            clear hW
            clear a0 a1 a2 a3 a4 a5 a6 b0 b1 b2 b3 b4 b5 b6 hb
            obtain ⟨a0, a1, a2, a3, a4, a5, a6⟩ := arr7 (w := w5) (by exact (HK.out.rows _ (.tail _ (.tail _ (.head _)))))
            obtain ⟨b0, b1, b2, b3, b4, b5, b6⟩ := arr7 (w := w5) (by exact (HK.out.rows _ (.head _)))
            go_wp2_with fail
            refine (small_is w5 ly sy oy sty iy vey tlw tsw tow tew trw q2.out).mono ?_
            rintro e w6 ⟨rfl, hb⟩
            have hW : Below w5.heap.size w5 w6 := hb
            replace HK := Lib.hid (HK.out.below hW (Nat.le_refl _))
            replace HB := Lib.hid (HB.out.trans (hW.mono HB.out.size))
            clear hW
            clear a0 a1 a2 a3 a4 a5 a6 b0 b1 b2 b3 b4 b5 b6 hb
            obtain ⟨g_w7, h_w7⟩ : ∃ g, w6.heap.size = g := ⟨_, rfl⟩
            obtain ⟨w7, e⟩ : ∃ x, w6.alloc (.cells Z0 39) = x := ⟨_, rfl⟩
            obtain ⟨hW, hx⟩ := box_new e
            rw [h_w7] at hx
            have Ew7 := Lib.hid e
            clear e
            replace hx := Lib.hid hx
            replace HK := Lib.hid (HK.out.below hW (Nat.le_refl _))
            replace HB := Lib.hid (HB.out.trans (hW.mono HB.out.size))
            clear hW
            clear hx
            have hTb : Tb w7 g_w7 (fun _ => 0) := by rw [← Ew7.out]; exact tab_nought w6 h_w7
            replace HK := Lib.hid (HK.out.tab (hTb))
            clear hTb
            have hz39 := zeroT39
            obtain ⟨a0, a1, a2, a3, a4, a5, a6⟩ := arr7 (w := (World.alloc w6 (.cells Z0 39))) (by rw [Ew7.out]; exact (HK.out.rows _ (.tail _ (.tail _ (.tail _ (.head _))))))
            have putx : putA (fun _ => 0) ⟨lx, sx, ox, stx, ix, vex, bsx⟩ = ([], 110) := by unfold putA; rw [if_neg HRx.out]
            have HPx := Lib.hid putx
            clear putx
            go_wp2_with fail
            rw [Ew7.out]
            clear Ew7
            refine (putA_is w7 (HK.out.tabs _ (.head _)).1 (HK.out.tabs _ (.head _)).2 lx sx ox stx ix vex bsx (HK.out.reads _ (.tail _ (.tail _ (.tail _ (.head _))))) (show nx ≤ 1000000 by omega)).mono ?_
            rintro e w8 ⟨C, cn, cc, rfl, hoc, hb⟩
            rw [HPx.out] at hoc ⊢
            simp only at hoc ⊢
            clear a0 a1 a2 a3 a4 a5 a6 hz39
            have hW : Below w7.heap.size w7 w8 := hb
            replace HK := Lib.hid (HK.out.below hW (Nat.le_refl _))
            replace HB := Lib.hid (HB.out.trans (hW.mono HB.out.size))
            clear hW
            replace HK := Lib.hid (HK.out.read (hoc.rd))
            clear hoc hb
            obtain ⟨a0, a1, a2, a3, a4, a5, a6⟩ := arr7 (w := w8) (by exact (HK.out.rows _ (.tail _ (.tail _ (.head _)))))
            obtain ⟨py, hpy⟩ : ∃ x, putA (fun _ => 0) ⟨ly, sy, oy, sty, iy, vey, bsy⟩ = x := ⟨_, rfl⟩
            obtain ⟨bD, eD⟩ := py
            have HPy := Lib.hid hpy
            clear hpy
            go_wp2_with fail
            refine (putA_is w8 (HK.out.tabs _ (.head _)).1 (HK.out.tabs _ (.head _)).2 ly sy oy sty iy vey bsy (HK.out.reads _ (.tail _ (.tail _ (.tail _ (.head _))))) (show ny ≤ 1000000 by omega)).mono ?_
            rintro e w9 ⟨D, dn, dc, rfl, hod, hb⟩
            rw [HPy.out] at hod ⊢
            simp only at hod ⊢
            clear a0 a1 a2 a3 a4 a5 a6
            have hW : Below w8.heap.size w8 w9 := hb
            replace HK := Lib.hid (HK.out.below hW (Nat.le_refl _))
            replace HB := Lib.hid (HB.out.trans (hW.mono HB.out.size))
            clear hW
            replace HK := Lib.hid (HK.out.read (hod.rd))
            clear hod hb
            go_wp2_with fail
            refine wp_region_held_drew (S := fun u => Keep u [(g + 1 + 1 + 1, #[.int .i64 tlw, .int .i64 tsw, .int .u8 tow, .int .i64 tew, .slice Iw imw mcw, .slice Bw kw dw, .int .i64 trw], 34), (g + 1 + 1, #[.int .i64 tlz, .int .i64 tsz, .int .u8 toz, .int .i64 tez, .slice Iz imz mcz, .slice Bz kz dz, .int .i64 trz], 34), (g + 1, #[.int .i64 ly, .int .i64 sy, .int .u8 oy, .int .i64 sty, .int .i64 iy, .int .i64 vey, .slice Ay ny cy], 25), (g, #[.int .i64 lx, .int .i64 sx, .int .u8 ox, .int .i64 stx, .int .i64 ix, .int .i64 vex, .slice Ax nx cx], 25)] [(D, dn, bD), (C, cn, []), (Bw, kw, tbw), (Bz, kz, tbz), (Ay, ny, bsy), (Ax, nx, bsx)] [(Iw, imw, Lw), (Iz, imz, Lz)] [(g_w7, (fun _ => 0))]) (by kernel_rfl) (HK.out.drew) (fun hHeld => ?_)
            have HBr := Lib.hid (HB.out.drew)
            clear HK HB
            refine wpAnyH_take (i := 0) (oi := ⟨some 39, _, _, _, _, _⟩) (v := ?_) rfl (by as_aux_lemma => kernel_rfl) (by as_aux_lemma => kernel_rfl) (by as_aux_lemma => kernel_rfl) (fun _ _ _ h => h) (Or.inl ⟨by rfl, ?_⟩) (by assumption) ?_
            rotate_left
            · intro w hSw
              (try dsimp only at hSw)
              go_simp
              all_goals (with_reducible rfl)
            try simp only [Act.put, List.setIfInBounds_toArray, List.set_cons_zero, List.set_cons_succ]
            refine wpAnyH_take (i := 1) (oi := ⟨some 40, _, _, _, _, _⟩) (v := ?_) rfl (by as_aux_lemma => kernel_rfl) (by as_aux_lemma => kernel_rfl) (by as_aux_lemma => kernel_rfl) (fun _ _ _ h => h) (Or.inl ⟨by rfl, ?_⟩) (by assumption) ?_
            rotate_left
            · intro w hSw
              (try dsimp only at hSw)
              go_simp
              all_goals (with_reducible rfl)
            try simp only [Act.put, List.setIfInBounds_toArray, List.set_cons_zero, List.set_cons_succ]
            refine wpAnyH_take (i := 2) (oi := ⟨some 41, _, _, _, _, _⟩) (v := ?_) rfl (by as_aux_lemma => kernel_rfl) (by as_aux_lemma => kernel_rfl) (by as_aux_lemma => kernel_rfl) (fun _ _ _ h => h) (Or.inl ⟨by rfl, ?_⟩) (by assumption) ?_
            rotate_left
            · intro w hSw
              (try dsimp only at hSw)
              go_simp
              all_goals (with_reducible rfl)
            try simp only [Act.put, List.setIfInBounds_toArray, List.set_cons_zero, List.set_cons_succ]
            refine wpAnyH_take (i := 3) (oi := ⟨some 42, _, _, _, _, _⟩) (v := undef) rfl (by as_aux_lemma => kernel_rfl) (by as_aux_lemma => kernel_rfl) (by as_aux_lemma => kernel_rfl) (fun _ _ _ h => h) (Or.inr ⟨by rfl, rfl⟩) (by assumption) ?_
            try simp only [Act.put, List.setIfInBounds_toArray, List.set_cons_zero, List.set_cons_succ]
            refine wpAnyH_take (i := 4) (oi := ⟨some 43, _, _, _, _, _⟩) (v := undef) rfl (by as_aux_lemma => kernel_rfl) (by as_aux_lemma => kernel_rfl) (by as_aux_lemma => kernel_rfl) (fun _ _ _ h => h) (Or.inr ⟨by rfl, rfl⟩) (by assumption) ?_
            try simp only [Act.put, List.setIfInBounds_toArray, List.set_cons_zero, List.set_cons_succ]
            refine wpAnyH_take (i := 5) (oi := ⟨some 44, _, _, _, _, _⟩) (v := ?_) rfl (by as_aux_lemma => kernel_rfl) (by as_aux_lemma => kernel_rfl) (by as_aux_lemma => kernel_rfl) (fun _ _ _ h => h) (Or.inl ⟨by rfl, ?_⟩) (by assumption) ?_
            rotate_left
            · intro w hSw
              (try dsimp only at hSw)
              go_simp
              all_goals (with_reducible rfl)
            try simp only [Act.put, List.setIfInBounds_toArray, List.set_cons_zero, List.set_cons_succ]
            refine wpAnyH_take (i := 6) (oi := ⟨some 45, _, _, _, _, _⟩) (v := ?_) rfl (by as_aux_lemma => kernel_rfl) (by as_aux_lemma => kernel_rfl) (by as_aux_lemma => kernel_rfl) (fun _ _ _ h => h) (Or.inl ⟨by rfl, ?_⟩) (by assumption) ?_
            rotate_left
            · intro w hSw
              (try dsimp only at hSw)
              go_simp
              all_goals (with_reducible rfl)
            try simp only [Act.put, List.setIfInBounds_toArray, List.set_cons_zero, List.set_cons_succ]
            refine wpAnyH_take (i := 7) (oi := ⟨some 46, _, _, _, _, _⟩) (v := undef) rfl (by as_aux_lemma => kernel_rfl) (by as_aux_lemma => kernel_rfl) (by as_aux_lemma => kernel_rfl) (fun _ _ _ h => h) (Or.inr ⟨by rfl, rfl⟩) (by assumption) ?_
            try simp only [Act.put, List.setIfInBounds_toArray, List.set_cons_zero, List.set_cons_succ]
            refine wpAnyH_take (i := 8) (oi := ⟨some 47, _, _, _, _, _⟩) (v := undef) rfl (by as_aux_lemma => kernel_rfl) (by as_aux_lemma => kernel_rfl) (by as_aux_lemma => kernel_rfl) (fun _ _ _ h => h) (Or.inr ⟨by rfl, rfl⟩) (by assumption) ?_
            try simp only [Act.put, List.setIfInBounds_toArray, List.set_cons_zero, List.set_cons_succ]
            refine wpAnyH_take (i := 9) (oi := ⟨some 48, _, _, _, _, _⟩) (v := undef) rfl (by as_aux_lemma => kernel_rfl) (by as_aux_lemma => kernel_rfl) (by as_aux_lemma => kernel_rfl) (fun _ _ _ h => h) (Or.inr ⟨by rfl, rfl⟩) (by assumption) ?_
            try simp only [Act.put, List.setIfInBounds_toArray, List.set_cons_zero, List.set_cons_succ]
            refine wpAnyH_take (i := 10) (oi := ⟨some 49, _, _, _, _, _⟩) (v := undef) rfl (by as_aux_lemma => kernel_rfl) (by as_aux_lemma => kernel_rfl) (by as_aux_lemma => kernel_rfl) (fun _ _ _ h => h) (Or.inr ⟨by rfl, rfl⟩) (by assumption) ?_
            try simp only [Act.put, List.setIfInBounds_toArray, List.set_cons_zero, List.set_cons_succ]
            refine wpAnyH_take (i := 11) (oi := ⟨some 50, _, _, _, _, _⟩) (v := undef) rfl (by as_aux_lemma => kernel_rfl) (by as_aux_lemma => kernel_rfl) (by as_aux_lemma => kernel_rfl) (fun _ _ _ h => h) (Or.inr ⟨by rfl, rfl⟩) (by assumption) ?_
            try simp only [Act.put, List.setIfInBounds_toArray, List.set_cons_zero, List.set_cons_succ]
            refine wpAnyH_take (i := 12) (oi := ⟨some 51, _, _, _, _, _⟩) (v := undef) rfl (by as_aux_lemma => kernel_rfl) (by as_aux_lemma => kernel_rfl) (by as_aux_lemma => kernel_rfl) (fun _ _ _ h => h) (Or.inr ⟨by rfl, rfl⟩) (by assumption) ?_
            try simp only [Act.put, List.setIfInBounds_toArray, List.set_cons_zero, List.set_cons_succ]
            refine wpAnyH_take (i := 13) (oi := ⟨some 52, _, _, _, _, _⟩) (v := undef) rfl (by as_aux_lemma => kernel_rfl) (by as_aux_lemma => kernel_rfl) (by as_aux_lemma => kernel_rfl) (fun _ _ _ h => h) (Or.inr ⟨by rfl, rfl⟩) (by assumption) ?_
            try simp only [Act.put, List.setIfInBounds_toArray, List.set_cons_zero, List.set_cons_succ]
            refine wpAnyH_take (i := 14) (oi := ⟨some 53, _, _, _, _, _⟩) (v := ?_) rfl (by as_aux_lemma => kernel_rfl) (by as_aux_lemma => kernel_rfl) (by as_aux_lemma => kernel_rfl) (fun _ _ _ h => h) (Or.inl ⟨by rfl, ?_⟩) (by assumption) ?_
            rotate_left
            · intro w hSw
              (try dsimp only at hSw)
              go_simp
              all_goals (with_reducible rfl)
            try simp only [Act.put, List.setIfInBounds_toArray, List.set_cons_zero, List.set_cons_succ]
            refine wpAnyH_done (by kernel_rfl) ?_ _
            have HK := Lib.hid hHeld
            have HB := HBr
            clear HBr hHeld
            obtain ⟨u1, hu1⟩ : ∃ x, w9.drew = x := ⟨_, rfl⟩
            rw [hu1] at HK HB ⊢
            clear hu1
            obtain ⟨a0, a1, a2, a3, a4, a5, a6⟩ := arr7 (w := u1) (by exact (HK.out.rows _ (.tail _ (.head _))))
            have putx : putT (fun _ => 0) ⟨tlz, tsz, toz, tez, Lz, tbz, trz⟩ = (sealed (fun _ => 0) (encT ⟨tlz, tsz, toz, tez, Lz, tbz, trz⟩), 0) := by unfold putT; rw [if_pos HRz.out]
            have HPz := Lib.hid putx
            clear putx
            go_wp2_with fail
            refine (putT_is u1 (HK.out.tabs _ (.head _)).1 (HK.out.tabs _ (.head _)).2 tlz tsz toz tez trz (HK.out.ils _ (.tail _ (.head _))) (show imz ≤ 1000000 by omega) tbz (HK.out.reads _ (.tail _ (.tail _ (.tail _ (.head _))))) (show kz ≤ 1000000 by omega)).mono ?_
            rintro e w11 ⟨G, gn, gc, rfl, hoc, hb⟩
            rw [HPz.out] at hoc ⊢
            simp only at hoc ⊢
            clear a0 a1 a2 a3 a4 a5 a6
            have hW : Below u1.heap.size u1 w11 := hb
            replace HK := Lib.hid (HK.out.below hW (Nat.le_refl _))
            replace HB := Lib.hid (HB.out.trans (hW.mono HB.out.size))
            clear hW
            replace HK := Lib.hid (HK.out.read (hoc.rd))
            clear hoc hb
            obtain ⟨a0, a1, a2, a3, a4, a5, a6⟩ := arr7 (w := w11) (by exact (HK.out.rows _ (.head _)))
            obtain ⟨py, hpy⟩ : ∃ x, putT (fun _ => 0) ⟨tlw, tsw, tow, tew, Lw, tbw, trw⟩ = x := ⟨_, rfl⟩
            obtain ⟨bE, eE⟩ := py
            have putx : putT (fun _ => 0) ⟨tlw, tsw, tow, tew, Lw, tbw, trw⟩ = (sealed (fun _ => 0) (encT ⟨tlw, tsw, tow, tew, Lw, tbw, trw⟩), 0) := by unfold putT; rw [if_pos HRw.out]
            rw [putx] at hpy
            injection hpy with h1 h2
            subst h1 h2
            have hpy := putx
            clear putx
            have HPw := Lib.hid hpy
            clear hpy
            go_wp2_with fail
            refine (putT_is w11 (HK.out.tabs _ (.head _)).1 (HK.out.tabs _ (.head _)).2 tlw tsw tow tew trw (HK.out.ils _ (.head _)) (show imw ≤ 1000000 by omega) tbw (HK.out.reads _ (.tail _ (.tail _ (.tail _ (.head _))))) (show kw ≤ 1000000 by omega)).mono ?_
            rintro e w12 ⟨H, hn, hc, rfl, hod, hb⟩
            rw [HPw.out] at hod ⊢
            simp only at hod ⊢
            clear a0 a1 a2 a3 a4 a5 a6
            have hW : Below w11.heap.size w11 w12 := hb
            replace HK := Lib.hid (HK.out.below hW (Nat.le_refl _))
            replace HB := Lib.hid (HB.out.trans (hW.mono HB.out.size))
            clear hW
            replace HK := Lib.hid (HK.out.read (hod.rd))
            clear hod hb
            go_wp2_with fail
            refine wp_region_held_drew (S := fun u => Keep u [(g + 1 + 1 + 1, #[.int .i64 tlw, .int .i64 tsw, .int .u8 tow, .int .i64 tew, .slice Iw imw mcw, .slice Bw kw dw, .int .i64 trw], 34), (g + 1 + 1, #[.int .i64 tlz, .int .i64 tsz, .int .u8 toz, .int .i64 tez, .slice Iz imz mcz, .slice Bz kz dz, .int .i64 trz], 34), (g + 1, #[.int .i64 ly, .int .i64 sy, .int .u8 oy, .int .i64 sty, .int .i64 iy, .int .i64 vey, .slice Ay ny cy], 25), (g, #[.int .i64 lx, .int .i64 sx, .int .u8 ox, .int .i64 stx, .int .i64 ix, .int .i64 vex, .slice Ax nx cx], 25)] [(H, hn, sealed (fun _ => 0) (encT ⟨tlw, tsw, tow, tew, Lw, tbw, trw⟩)), (G, gn, sealed (fun _ => 0) (encT ⟨tlz, tsz, toz, tez, Lz, tbz, trz⟩)), (D, dn, bD), (C, cn, []), (Bw, kw, tbw), (Bz, kz, tbz), (Ay, ny, bsy), (Ax, nx, bsx)] [(Iw, imw, Lw), (Iz, imz, Lz)] [(g_w7, (fun _ => 0))]) (by kernel_rfl) (HK.out.drew) (fun hHeld => ?_)
            have HBr := Lib.hid (HB.out.drew)
            clear HK HB
            refine wpAnyH_take (i := 0) (oi := ⟨some 64, _, _, _, _, _⟩) (v := ?_) rfl (by as_aux_lemma => kernel_rfl) (by as_aux_lemma => kernel_rfl) (by as_aux_lemma => kernel_rfl) (fun _ _ _ h => h) (Or.inl ⟨by rfl, ?_⟩) (by assumption) ?_
            rotate_left
            · intro w hSw
              (try dsimp only at hSw)
              go_simp
              all_goals (with_reducible rfl)
            try simp only [Act.put, List.setIfInBounds_toArray, List.set_cons_zero, List.set_cons_succ]
            refine wpAnyH_take (i := 1) (oi := ⟨some 65, _, _, _, _, _⟩) (v := ?_) rfl (by as_aux_lemma => kernel_rfl) (by as_aux_lemma => kernel_rfl) (by as_aux_lemma => kernel_rfl) (fun _ _ _ h => h) (Or.inl ⟨by rfl, ?_⟩) (by assumption) ?_
            rotate_left
            · intro w hSw
              (try dsimp only at hSw)
              go_simp
              all_goals (with_reducible rfl)
            try simp only [Act.put, List.setIfInBounds_toArray, List.set_cons_zero, List.set_cons_succ]
            refine wpAnyH_take (i := 2) (oi := ⟨some 66, _, _, _, _, _⟩) (v := ?_) rfl (by as_aux_lemma => kernel_rfl) (by as_aux_lemma => kernel_rfl) (by as_aux_lemma => kernel_rfl) (fun _ _ _ h => h) (Or.inl ⟨by rfl, ?_⟩) (by assumption) ?_
            rotate_left
            · intro w hSw
              (try dsimp only at hSw)
              go_simp
              all_goals (with_reducible rfl)
            try simp only [Act.put, List.setIfInBounds_toArray, List.set_cons_zero, List.set_cons_succ]
            refine wpAnyH_take (i := 3) (oi := ⟨some 67, _, _, _, _, _⟩) (v := ?_) rfl (by as_aux_lemma => kernel_rfl) (by as_aux_lemma => kernel_rfl) (by as_aux_lemma => kernel_rfl) (fun _ _ _ h => h) (Or.inl ⟨by rfl, ?_⟩) (by assumption) ?_
            rotate_left
            · intro w hSw
              (try dsimp only at hSw)
              go_simp
              all_goals (with_reducible rfl)
            try simp only [Act.put, List.setIfInBounds_toArray, List.set_cons_zero, List.set_cons_succ]
            refine wpAnyH_take (i := 4) (oi := ⟨some 68, _, _, _, _, _⟩) (v := ?_) rfl (by as_aux_lemma => kernel_rfl) (by as_aux_lemma => kernel_rfl) (by as_aux_lemma => kernel_rfl) (fun _ _ _ h => h) (Or.inl ⟨by rfl, ?_⟩) (by assumption) ?_
            rotate_left
            · intro w hSw
              (try dsimp only at hSw)
              go_simp
              all_goals (with_reducible rfl)
            try simp only [Act.put, List.setIfInBounds_toArray, List.set_cons_zero, List.set_cons_succ]
            refine wpAnyH_take (i := 5) (oi := ⟨some 69, _, _, _, _, _⟩) (v := ?_) rfl (by as_aux_lemma => kernel_rfl) (by as_aux_lemma => kernel_rfl) (by as_aux_lemma => kernel_rfl) (fun _ _ _ h => h) (Or.inl ⟨by rfl, ?_⟩) (by assumption) ?_
            rotate_left
            · intro w hSw
              (try dsimp only at hSw)
              go_simp
              all_goals (with_reducible rfl)
            try simp only [Act.put, List.setIfInBounds_toArray, List.set_cons_zero, List.set_cons_succ]
            refine wpAnyH_take (i := 6) (oi := ⟨some 70, _, _, _, _, _⟩) (v := ?_) rfl (by as_aux_lemma => kernel_rfl) (by as_aux_lemma => kernel_rfl) (by as_aux_lemma => kernel_rfl) (fun _ _ _ h => h) (Or.inl ⟨by rfl, ?_⟩) (by assumption) ?_
            rotate_left
            · intro w hSw
              (try dsimp only at hSw)
              go_simp
              all_goals (with_reducible rfl)
            try simp only [Act.put, List.setIfInBounds_toArray, List.set_cons_zero, List.set_cons_succ]
            refine wpAnyH_take (i := 7) (oi := ⟨some 71, _, _, _, _, _⟩) (v := ?_) rfl (by as_aux_lemma => kernel_rfl) (by as_aux_lemma => kernel_rfl) (by as_aux_lemma => kernel_rfl) (fun _ _ _ h => h) (Or.inl ⟨by rfl, ?_⟩) (by assumption) ?_
            rotate_left
            · intro w hSw
              (try dsimp only at hSw)
              go_simp
              all_goals (with_reducible rfl)
            try simp only [Act.put, List.setIfInBounds_toArray, List.set_cons_zero, List.set_cons_succ]
            refine wpAnyH_take (i := 8) (oi := ⟨some 72, _, _, _, _, _⟩) (v := ?_) rfl (by as_aux_lemma => kernel_rfl) (by as_aux_lemma => kernel_rfl) (by as_aux_lemma => kernel_rfl) (fun _ _ _ h => h) (Or.inl ⟨by rfl, ?_⟩) (by assumption) ?_
            rotate_left
            · intro w hSw
              (try dsimp only at hSw)
              go_simp
              all_goals (with_reducible rfl)
            try simp only [Act.put, List.setIfInBounds_toArray, List.set_cons_zero, List.set_cons_succ]
            refine wpAnyH_take (i := 10) (oi := ⟨some 74, _, _, _, _, _⟩) (v := ?_) rfl (by as_aux_lemma => kernel_rfl) (by as_aux_lemma => kernel_rfl) (by as_aux_lemma => kernel_rfl) (fun _ _ _ h => h) (Or.inl ⟨by rfl, ?_⟩) (by assumption) ?_
            rotate_left
            · intro w hSw
              obtain ⟨l0, l1, l2, l3, l4, l5, l6⟩ := arr7 (w := w) (hSw.rows _ (.tail _ (.head _)))
              go_simp
              all_goals (with_reducible rfl)
            try simp only [Act.put, List.setIfInBounds_toArray, List.set_cons_zero, List.set_cons_succ]
            refine wpAnyH_take (i := 11) (oi := ⟨some 75, _, _, _, _, _⟩) (v := ?_) rfl (by as_aux_lemma => kernel_rfl) (by as_aux_lemma => kernel_rfl) (by as_aux_lemma => kernel_rfl) (fun _ _ _ h => h) (Or.inl ⟨by rfl, ?_⟩) (by assumption) ?_
            rotate_left
            · intro w hSw
              obtain ⟨l0, l1, l2, l3, l4, l5, l6⟩ := arr7 (w := w) (hSw.rows _ (.head _))
              go_simp
              all_goals (with_reducible rfl)
            try simp only [Act.put, List.setIfInBounds_toArray, List.set_cons_zero, List.set_cons_succ]
            obtain ⟨q3, hq3⟩ : ∃ q, decide ((⟨tlz, tsz, toz, tez, Lz, tbz, trz⟩ : TelP) = ⟨tlw, tsw, tow, tew, Lw, tbw, trw⟩) = q := ⟨_, rfl⟩
            refine wpAnyH_ready (rs := [9]) (by as_aux_lemma => kernel_rfl) (by simp) (AllReadyH.cons (o := ⟨some 73, _, _, _, _, _⟩) rfl (fun K hK => ?_) AllReadyH.nil)
            go_simp
            refine (sameB_is _ (hHeld.reads _ (.tail _ (.head _))) (hHeld.reads _ (.head _)) (q := q3) (by rw [putT_same HRz.out HRw.out]; exact hq3)).mono ?_
            rintro e _ ⟨rfl, rfl⟩
            have hS2 := hHeld.below (Below.refl _ _) (Nat.le_refl _)
            replace HBr := Lib.hid (HBr.out.trans ((Below.refl _ _).mono HBr.out.size))
            refine hK.out _ _ hS2 (fun hHeld => ?_)
            clear hK K hS2
            try simp only [Act.put, List.setIfInBounds_toArray, List.set_cons_zero, List.set_cons_succ]
            refine wpAnyH_ready (rs := [12]) (by as_aux_lemma => kernel_rfl) (by simp) (AllReadyH.cons (o := ⟨some 76, _, _, _, _, _⟩) rfl (fun K hK => ?_) AllReadyH.nil)
            go_simp
            refine (sameT_is _ tlz tsz toz tez trz tlw tsw tow tew trw Lz Lw tbz tbw (hHeld.ils _ (.tail _ (.head _))) (hHeld.ils _ (.head _)) (show imz ≤ 1000000 by omega) (hHeld.reads _ (.tail _ (.tail _ (.tail _ (.tail _ (.tail _ (.head _))))))) (hHeld.reads _ (.tail _ (.tail _ (.tail _ (.tail _ (.head _)))))) hq3).mono ?_
            rintro e u3 ⟨rfl, hb⟩
            have hS2 := hHeld.below hb (Nat.le_refl _)
            replace HBr := Lib.hid (HBr.out.trans (hb.mono HBr.out.size))
            refine hK.out _ _ hS2 (fun hHeld => ?_)
            clear hK K hS2
            try simp only [Act.put, List.setIfInBounds_toArray, List.set_cons_zero, List.set_cons_succ]
            clear hb
            refine wpAnyH_take (i := 13) (oi := ⟨some 77, _, _, _, _, _⟩) (v := ?_) rfl (by as_aux_lemma => kernel_rfl) (by as_aux_lemma => kernel_rfl) (by as_aux_lemma => kernel_rfl) (fun _ _ _ h => h) (Or.inl ⟨by rfl, ?_⟩) (by assumption) ?_
            rotate_left
            · intro w hSw
              (try dsimp only at hSw)
              go_simp
              all_goals (with_reducible rfl)
            try simp only [Act.put, List.setIfInBounds_toArray, List.set_cons_zero, List.set_cons_succ]
            refine wpAnyH_take (i := 14) (oi := ⟨some 78, _, _, _, _, _⟩) (v := ?_) rfl (by as_aux_lemma => kernel_rfl) (by as_aux_lemma => kernel_rfl) (by as_aux_lemma => kernel_rfl) (fun _ _ _ h => h) (Or.inl ⟨by rfl, ?_⟩) (by assumption) ?_
            rotate_left
            · intro w hSw
              (try dsimp only at hSw)
              go_simp
              all_goals (with_reducible rfl)
            try simp only [Act.put, List.setIfInBounds_toArray, List.set_cons_zero, List.set_cons_succ]
            refine wpAnyH_take (i := 15) (oi := ⟨some 79, _, _, _, _, _⟩) (v := ?_) rfl (by as_aux_lemma => kernel_rfl) (by as_aux_lemma => kernel_rfl) (by as_aux_lemma => kernel_rfl) (fun _ _ _ h => h) (Or.inl ⟨by rfl, ?_⟩) (by assumption) ?_
            rotate_left
            · intro w hSw
              (try dsimp only at hSw)
              go_simp
              all_goals (with_reducible rfl)
            try simp only [Act.put, List.setIfInBounds_toArray, List.set_cons_zero, List.set_cons_succ]
            refine wpAnyH_ready (rs := [16]) (by as_aux_lemma => kernel_rfl) (by simp) (AllReadyH.cons (o := ⟨some 80, _, _, _, _, _⟩) rfl (fun K hK => ?_) AllReadyH.nil)
            go_simp
            refine (awake_is _).mono ?_
            rintro e u5 ⟨rfl, hb⟩
            have hS2 := hHeld.below hb (Nat.le_refl _)
            replace HBr := Lib.hid (HBr.out.trans (hb.mono HBr.out.size))
            refine hK.out _ _ hS2 (fun hHeld => ?_)
            clear hK K hS2
            try simp only [Act.put, List.setIfInBounds_toArray, List.set_cons_zero, List.set_cons_succ]
            refine wpAnyH_take (i := 17) (oi := ⟨some 81, _, _, _, _, _⟩) (v := ?_) rfl (by as_aux_lemma => kernel_rfl) (by as_aux_lemma => kernel_rfl) (by as_aux_lemma => kernel_rfl) (fun _ _ _ h => h) (Or.inl ⟨by rfl, ?_⟩) (by assumption) ?_
            rotate_left
            · intro w hSw
              (try dsimp only at hSw)
              go_simp
              all_goals (with_reducible rfl)
            try simp only [Act.put, List.setIfInBounds_toArray, List.set_cons_zero, List.set_cons_succ]
            refine wpAnyH_take (i := 18) (oi := ⟨some 8, _, _, _, _, _⟩) (v := ?_) rfl (by as_aux_lemma => kernel_rfl) (by as_aux_lemma => kernel_rfl) (by as_aux_lemma => kernel_rfl) (fun _ _ _ h => h) (Or.inl ⟨by rfl, ?_⟩) (by assumption) ?_
            rotate_left
            · intro w hSw
              (try dsimp only at hSw)
              go_simp
              all_goals (with_reducible rfl)
            try simp only [Act.put, List.setIfInBounds_toArray, List.set_cons_zero, List.set_cons_succ]
            refine wpAnyH_done (by kernel_rfl) ?_ _
            have HK := Lib.hid hHeld
            have HB := HBr
            clear HBr hHeld
            go_wp2
            go_ret
            exact told_mk (by simp) HB.out
          · replace HRw := Lib.hid HRw
            have hs1 := q1
            have hs2 := q2
            have q1 := Lib.hid (decide_eq_true q1)
            have q2 := Lib.hid (decide_eq_true q2)
            go_enter Try.func6, Try.ntmps6
            obtain ⟨a0, a1, a2, a3, a4, a5, a6⟩ := arr7 (w := (World.alloc (World.alloc (World.alloc (World.alloc w (.cells #[.int .i64 lx, .int .i64 sx, .int .u8 ox, .int .i64 stx, .int .i64 ix, .int .i64 vex, .slice Ax nx cx] 25)) (.cells #[.int .i64 ly, .int .i64 sy, .int .u8 oy, .int .i64 sty, .int .i64 iy, .int .i64 vey, .slice Ay ny cy] 25)) (.cells #[.int .i64 tlz, .int .i64 tsz, .int .u8 toz, .int .i64 tez, .slice Iz imz mcz, .slice Bz kz dz, .int .i64 trz] 34)) (.cells #[.int .i64 tlw, .int .i64 tsw, .int .u8 tow, .int .i64 tew, .slice Iw imw mcw, .slice Bw kw dw, .int .i64 trw] 34))) (by rw [Ew1.out, Ew2.out, Ew3.out, Ew4.out]; exact (HK.out.rows _ (.tail _ (.tail _ (.tail _ (.head _))))))
            obtain ⟨b0, b1, b2, b3, b4, b5, b6⟩ := arr7 (w := (World.alloc (World.alloc (World.alloc (World.alloc w (.cells #[.int .i64 lx, .int .i64 sx, .int .u8 ox, .int .i64 stx, .int .i64 ix, .int .i64 vex, .slice Ax nx cx] 25)) (.cells #[.int .i64 ly, .int .i64 sy, .int .u8 oy, .int .i64 sty, .int .i64 iy, .int .i64 vey, .slice Ay ny cy] 25)) (.cells #[.int .i64 tlz, .int .i64 tsz, .int .u8 toz, .int .i64 tez, .slice Iz imz mcz, .slice Bz kz dz, .int .i64 trz] 34)) (.cells #[.int .i64 tlw, .int .i64 tsw, .int .u8 tow, .int .i64 tew, .slice Iw imw mcw, .slice Bw kw dw, .int .i64 trw] 34))) (by rw [Ew1.out, Ew2.out, Ew3.out, Ew4.out]; exact (HK.out.rows _ (.tail _ (.head _))))
            go_wp2_with fail
            rw [Ew1.out]
            rw [Ew2.out]
            rw [Ew3.out]
            rw [Ew4.out]
            clear Ew1 Ew2 Ew3 Ew4
            refine (small_is w4 lx sx ox stx ix vex tlz tsz toz tez trz q1.out).mono ?_
            rintro e w5 ⟨rfl, hb⟩
            have hW : Below w4.heap.size w4 w5 := hb
            replace HK := Lib.hid (HK.out.below hW (Nat.le_refl _))
            replace HB := Lib.hid (HB.out.trans (hW.mono HB.out.size))
            clear hW
            clear a0 a1 a2 a3 a4 a5 a6 b0 b1 b2 b3 b4 b5 b6 hb
            obtain ⟨a0, a1, a2, a3, a4, a5, a6⟩ := arr7 (w := w5) (by exact (HK.out.rows _ (.tail _ (.tail _ (.head _)))))
            obtain ⟨b0, b1, b2, b3, b4, b5, b6⟩ := arr7 (w := w5) (by exact (HK.out.rows _ (.head _)))
            go_wp2_with fail
            refine (small_is w5 ly sy oy sty iy vey tlw tsw tow tew trw q2.out).mono ?_
            rintro e w6 ⟨rfl, hb⟩
            have hW : Below w5.heap.size w5 w6 := hb
            replace HK := Lib.hid (HK.out.below hW (Nat.le_refl _))
            replace HB := Lib.hid (HB.out.trans (hW.mono HB.out.size))
            clear hW
            clear a0 a1 a2 a3 a4 a5 a6 b0 b1 b2 b3 b4 b5 b6 hb
            obtain ⟨g_w7, h_w7⟩ : ∃ g, w6.heap.size = g := ⟨_, rfl⟩
            obtain ⟨w7, e⟩ : ∃ x, w6.alloc (.cells Z0 39) = x := ⟨_, rfl⟩
            obtain ⟨hW, hx⟩ := box_new e
            rw [h_w7] at hx
            have Ew7 := Lib.hid e
            clear e
            replace hx := Lib.hid hx
            replace HK := Lib.hid (HK.out.below hW (Nat.le_refl _))
            replace HB := Lib.hid (HB.out.trans (hW.mono HB.out.size))
            clear hW
            clear hx
            have hTb : Tb w7 g_w7 (fun _ => 0) := by rw [← Ew7.out]; exact tab_nought w6 h_w7
            replace HK := Lib.hid (HK.out.tab (hTb))
            clear hTb
            have hz39 := zeroT39
            obtain ⟨a0, a1, a2, a3, a4, a5, a6⟩ := arr7 (w := (World.alloc w6 (.cells Z0 39))) (by rw [Ew7.out]; exact (HK.out.rows _ (.tail _ (.tail _ (.tail _ (.head _))))))
            have putx : putA (fun _ => 0) ⟨lx, sx, ox, stx, ix, vex, bsx⟩ = ([], 110) := by unfold putA; rw [if_neg HRx.out]
            have HPx := Lib.hid putx
            clear putx
            go_wp2_with fail
            rw [Ew7.out]
            clear Ew7
            refine (putA_is w7 (HK.out.tabs _ (.head _)).1 (HK.out.tabs _ (.head _)).2 lx sx ox stx ix vex bsx (HK.out.reads _ (.tail _ (.tail _ (.tail _ (.head _))))) (show nx ≤ 1000000 by omega)).mono ?_
            rintro e w8 ⟨C, cn, cc, rfl, hoc, hb⟩
            rw [HPx.out] at hoc ⊢
            simp only at hoc ⊢
            clear a0 a1 a2 a3 a4 a5 a6 hz39
            have hW : Below w7.heap.size w7 w8 := hb
            replace HK := Lib.hid (HK.out.below hW (Nat.le_refl _))
            replace HB := Lib.hid (HB.out.trans (hW.mono HB.out.size))
            clear hW
            replace HK := Lib.hid (HK.out.read (hoc.rd))
            clear hoc hb
            obtain ⟨a0, a1, a2, a3, a4, a5, a6⟩ := arr7 (w := w8) (by exact (HK.out.rows _ (.tail _ (.tail _ (.head _)))))
            obtain ⟨py, hpy⟩ : ∃ x, putA (fun _ => 0) ⟨ly, sy, oy, sty, iy, vey, bsy⟩ = x := ⟨_, rfl⟩
            obtain ⟨bD, eD⟩ := py
            have HPy := Lib.hid hpy
            clear hpy
            go_wp2_with fail
            refine (putA_is w8 (HK.out.tabs _ (.head _)).1 (HK.out.tabs _ (.head _)).2 ly sy oy sty iy vey bsy (HK.out.reads _ (.tail _ (.tail _ (.tail _ (.head _))))) (show ny ≤ 1000000 by omega)).mono ?_
            rintro e w9 ⟨D, dn, dc, rfl, hod, hb⟩
            rw [HPy.out] at hod ⊢
            simp only at hod ⊢
            clear a0 a1 a2 a3 a4 a5 a6
            have hW : Below w8.heap.size w8 w9 := hb
            replace HK := Lib.hid (HK.out.below hW (Nat.le_refl _))
            replace HB := Lib.hid (HB.out.trans (hW.mono HB.out.size))
            clear hW
            replace HK := Lib.hid (HK.out.read (hod.rd))
            clear hod hb
            go_wp2_with fail
            refine wp_region_held_drew (S := fun u => Keep u [(g + 1 + 1 + 1, #[.int .i64 tlw, .int .i64 tsw, .int .u8 tow, .int .i64 tew, .slice Iw imw mcw, .slice Bw kw dw, .int .i64 trw], 34), (g + 1 + 1, #[.int .i64 tlz, .int .i64 tsz, .int .u8 toz, .int .i64 tez, .slice Iz imz mcz, .slice Bz kz dz, .int .i64 trz], 34), (g + 1, #[.int .i64 ly, .int .i64 sy, .int .u8 oy, .int .i64 sty, .int .i64 iy, .int .i64 vey, .slice Ay ny cy], 25), (g, #[.int .i64 lx, .int .i64 sx, .int .u8 ox, .int .i64 stx, .int .i64 ix, .int .i64 vex, .slice Ax nx cx], 25)] [(D, dn, bD), (C, cn, []), (Bw, kw, tbw), (Bz, kz, tbz), (Ay, ny, bsy), (Ax, nx, bsx)] [(Iw, imw, Lw), (Iz, imz, Lz)] [(g_w7, (fun _ => 0))]) (by kernel_rfl) (HK.out.drew) (fun hHeld => ?_)
            have HBr := Lib.hid (HB.out.drew)
            clear HK HB
            refine wpAnyH_take (i := 0) (oi := ⟨some 39, _, _, _, _, _⟩) (v := ?_) rfl (by as_aux_lemma => kernel_rfl) (by as_aux_lemma => kernel_rfl) (by as_aux_lemma => kernel_rfl) (fun _ _ _ h => h) (Or.inl ⟨by rfl, ?_⟩) (by assumption) ?_
            rotate_left
            · intro w hSw
              (try dsimp only at hSw)
              go_simp
              all_goals (with_reducible rfl)
            try simp only [Act.put, List.setIfInBounds_toArray, List.set_cons_zero, List.set_cons_succ]
            refine wpAnyH_take (i := 1) (oi := ⟨some 40, _, _, _, _, _⟩) (v := ?_) rfl (by as_aux_lemma => kernel_rfl) (by as_aux_lemma => kernel_rfl) (by as_aux_lemma => kernel_rfl) (fun _ _ _ h => h) (Or.inl ⟨by rfl, ?_⟩) (by assumption) ?_
            rotate_left
            · intro w hSw
              (try dsimp only at hSw)
              go_simp
              all_goals (with_reducible rfl)
            try simp only [Act.put, List.setIfInBounds_toArray, List.set_cons_zero, List.set_cons_succ]
            refine wpAnyH_take (i := 2) (oi := ⟨some 41, _, _, _, _, _⟩) (v := ?_) rfl (by as_aux_lemma => kernel_rfl) (by as_aux_lemma => kernel_rfl) (by as_aux_lemma => kernel_rfl) (fun _ _ _ h => h) (Or.inl ⟨by rfl, ?_⟩) (by assumption) ?_
            rotate_left
            · intro w hSw
              (try dsimp only at hSw)
              go_simp
              all_goals (with_reducible rfl)
            try simp only [Act.put, List.setIfInBounds_toArray, List.set_cons_zero, List.set_cons_succ]
            refine wpAnyH_take (i := 3) (oi := ⟨some 42, _, _, _, _, _⟩) (v := undef) rfl (by as_aux_lemma => kernel_rfl) (by as_aux_lemma => kernel_rfl) (by as_aux_lemma => kernel_rfl) (fun _ _ _ h => h) (Or.inr ⟨by rfl, rfl⟩) (by assumption) ?_
            try simp only [Act.put, List.setIfInBounds_toArray, List.set_cons_zero, List.set_cons_succ]
            refine wpAnyH_take (i := 4) (oi := ⟨some 43, _, _, _, _, _⟩) (v := undef) rfl (by as_aux_lemma => kernel_rfl) (by as_aux_lemma => kernel_rfl) (by as_aux_lemma => kernel_rfl) (fun _ _ _ h => h) (Or.inr ⟨by rfl, rfl⟩) (by assumption) ?_
            try simp only [Act.put, List.setIfInBounds_toArray, List.set_cons_zero, List.set_cons_succ]
            refine wpAnyH_take (i := 5) (oi := ⟨some 44, _, _, _, _, _⟩) (v := ?_) rfl (by as_aux_lemma => kernel_rfl) (by as_aux_lemma => kernel_rfl) (by as_aux_lemma => kernel_rfl) (fun _ _ _ h => h) (Or.inl ⟨by rfl, ?_⟩) (by assumption) ?_
            rotate_left
            · intro w hSw
              (try dsimp only at hSw)
              go_simp
              all_goals (with_reducible rfl)
            try simp only [Act.put, List.setIfInBounds_toArray, List.set_cons_zero, List.set_cons_succ]
            refine wpAnyH_take (i := 6) (oi := ⟨some 45, _, _, _, _, _⟩) (v := ?_) rfl (by as_aux_lemma => kernel_rfl) (by as_aux_lemma => kernel_rfl) (by as_aux_lemma => kernel_rfl) (fun _ _ _ h => h) (Or.inl ⟨by rfl, ?_⟩) (by assumption) ?_
            rotate_left
            · intro w hSw
              (try dsimp only at hSw)
              go_simp
              all_goals (with_reducible rfl)
            try simp only [Act.put, List.setIfInBounds_toArray, List.set_cons_zero, List.set_cons_succ]
            refine wpAnyH_take (i := 7) (oi := ⟨some 46, _, _, _, _, _⟩) (v := undef) rfl (by as_aux_lemma => kernel_rfl) (by as_aux_lemma => kernel_rfl) (by as_aux_lemma => kernel_rfl) (fun _ _ _ h => h) (Or.inr ⟨by rfl, rfl⟩) (by assumption) ?_
            try simp only [Act.put, List.setIfInBounds_toArray, List.set_cons_zero, List.set_cons_succ]
            refine wpAnyH_take (i := 8) (oi := ⟨some 47, _, _, _, _, _⟩) (v := undef) rfl (by as_aux_lemma => kernel_rfl) (by as_aux_lemma => kernel_rfl) (by as_aux_lemma => kernel_rfl) (fun _ _ _ h => h) (Or.inr ⟨by rfl, rfl⟩) (by assumption) ?_
            try simp only [Act.put, List.setIfInBounds_toArray, List.set_cons_zero, List.set_cons_succ]
            refine wpAnyH_take (i := 9) (oi := ⟨some 48, _, _, _, _, _⟩) (v := undef) rfl (by as_aux_lemma => kernel_rfl) (by as_aux_lemma => kernel_rfl) (by as_aux_lemma => kernel_rfl) (fun _ _ _ h => h) (Or.inr ⟨by rfl, rfl⟩) (by assumption) ?_
            try simp only [Act.put, List.setIfInBounds_toArray, List.set_cons_zero, List.set_cons_succ]
            refine wpAnyH_take (i := 10) (oi := ⟨some 49, _, _, _, _, _⟩) (v := undef) rfl (by as_aux_lemma => kernel_rfl) (by as_aux_lemma => kernel_rfl) (by as_aux_lemma => kernel_rfl) (fun _ _ _ h => h) (Or.inr ⟨by rfl, rfl⟩) (by assumption) ?_
            try simp only [Act.put, List.setIfInBounds_toArray, List.set_cons_zero, List.set_cons_succ]
            refine wpAnyH_take (i := 11) (oi := ⟨some 50, _, _, _, _, _⟩) (v := undef) rfl (by as_aux_lemma => kernel_rfl) (by as_aux_lemma => kernel_rfl) (by as_aux_lemma => kernel_rfl) (fun _ _ _ h => h) (Or.inr ⟨by rfl, rfl⟩) (by assumption) ?_
            try simp only [Act.put, List.setIfInBounds_toArray, List.set_cons_zero, List.set_cons_succ]
            refine wpAnyH_take (i := 12) (oi := ⟨some 51, _, _, _, _, _⟩) (v := undef) rfl (by as_aux_lemma => kernel_rfl) (by as_aux_lemma => kernel_rfl) (by as_aux_lemma => kernel_rfl) (fun _ _ _ h => h) (Or.inr ⟨by rfl, rfl⟩) (by assumption) ?_
            try simp only [Act.put, List.setIfInBounds_toArray, List.set_cons_zero, List.set_cons_succ]
            refine wpAnyH_take (i := 13) (oi := ⟨some 52, _, _, _, _, _⟩) (v := undef) rfl (by as_aux_lemma => kernel_rfl) (by as_aux_lemma => kernel_rfl) (by as_aux_lemma => kernel_rfl) (fun _ _ _ h => h) (Or.inr ⟨by rfl, rfl⟩) (by assumption) ?_
            try simp only [Act.put, List.setIfInBounds_toArray, List.set_cons_zero, List.set_cons_succ]
            refine wpAnyH_take (i := 14) (oi := ⟨some 53, _, _, _, _, _⟩) (v := ?_) rfl (by as_aux_lemma => kernel_rfl) (by as_aux_lemma => kernel_rfl) (by as_aux_lemma => kernel_rfl) (fun _ _ _ h => h) (Or.inl ⟨by rfl, ?_⟩) (by assumption) ?_
            rotate_left
            · intro w hSw
              (try dsimp only at hSw)
              go_simp
              all_goals (with_reducible rfl)
            try simp only [Act.put, List.setIfInBounds_toArray, List.set_cons_zero, List.set_cons_succ]
            refine wpAnyH_done (by kernel_rfl) ?_ _
            have HK := Lib.hid hHeld
            have HB := HBr
            clear HBr hHeld
            obtain ⟨u1, hu1⟩ : ∃ x, w9.drew = x := ⟨_, rfl⟩
            rw [hu1] at HK HB ⊢
            clear hu1
            obtain ⟨a0, a1, a2, a3, a4, a5, a6⟩ := arr7 (w := u1) (by exact (HK.out.rows _ (.tail _ (.head _))))
            have putx : putT (fun _ => 0) ⟨tlz, tsz, toz, tez, Lz, tbz, trz⟩ = (sealed (fun _ => 0) (encT ⟨tlz, tsz, toz, tez, Lz, tbz, trz⟩), 0) := by unfold putT; rw [if_pos HRz.out]
            have HPz := Lib.hid putx
            clear putx
            go_wp2_with fail
            refine (putT_is u1 (HK.out.tabs _ (.head _)).1 (HK.out.tabs _ (.head _)).2 tlz tsz toz tez trz (HK.out.ils _ (.tail _ (.head _))) (show imz ≤ 1000000 by omega) tbz (HK.out.reads _ (.tail _ (.tail _ (.tail _ (.head _))))) (show kz ≤ 1000000 by omega)).mono ?_
            rintro e w11 ⟨G, gn, gc, rfl, hoc, hb⟩
            rw [HPz.out] at hoc ⊢
            simp only at hoc ⊢
            clear a0 a1 a2 a3 a4 a5 a6
            have hW : Below u1.heap.size u1 w11 := hb
            replace HK := Lib.hid (HK.out.below hW (Nat.le_refl _))
            replace HB := Lib.hid (HB.out.trans (hW.mono HB.out.size))
            clear hW
            replace HK := Lib.hid (HK.out.read (hoc.rd))
            clear hoc hb
            obtain ⟨a0, a1, a2, a3, a4, a5, a6⟩ := arr7 (w := w11) (by exact (HK.out.rows _ (.head _)))
            obtain ⟨py, hpy⟩ : ∃ x, putT (fun _ => 0) ⟨tlw, tsw, tow, tew, Lw, tbw, trw⟩ = x := ⟨_, rfl⟩
            obtain ⟨bE, eE⟩ := py
            have putx : putT (fun _ => 0) ⟨tlw, tsw, tow, tew, Lw, tbw, trw⟩ = ([], 110) := by unfold putT; rw [if_neg HRw.out]
            rw [putx] at hpy
            injection hpy with h1 h2
            subst h1 h2
            have hpy := putx
            clear putx
            have HPw := Lib.hid hpy
            clear hpy
            go_wp2_with fail
            refine (putT_is w11 (HK.out.tabs _ (.head _)).1 (HK.out.tabs _ (.head _)).2 tlw tsw tow tew trw (HK.out.ils _ (.head _)) (show imw ≤ 1000000 by omega) tbw (HK.out.reads _ (.tail _ (.tail _ (.tail _ (.head _))))) (show kw ≤ 1000000 by omega)).mono ?_
            rintro e w12 ⟨H, hn, hc, rfl, hod, hb⟩
            rw [HPw.out] at hod ⊢
            simp only at hod ⊢
            clear a0 a1 a2 a3 a4 a5 a6
            have hW : Below w11.heap.size w11 w12 := hb
            replace HK := Lib.hid (HK.out.below hW (Nat.le_refl _))
            replace HB := Lib.hid (HB.out.trans (hW.mono HB.out.size))
            clear hW
            replace HK := Lib.hid (HK.out.read (hod.rd))
            clear hod hb
            go_wp2_with fail
            refine wp_region_held_drew (S := fun u => Keep u [(g + 1 + 1 + 1, #[.int .i64 tlw, .int .i64 tsw, .int .u8 tow, .int .i64 tew, .slice Iw imw mcw, .slice Bw kw dw, .int .i64 trw], 34), (g + 1 + 1, #[.int .i64 tlz, .int .i64 tsz, .int .u8 toz, .int .i64 tez, .slice Iz imz mcz, .slice Bz kz dz, .int .i64 trz], 34), (g + 1, #[.int .i64 ly, .int .i64 sy, .int .u8 oy, .int .i64 sty, .int .i64 iy, .int .i64 vey, .slice Ay ny cy], 25), (g, #[.int .i64 lx, .int .i64 sx, .int .u8 ox, .int .i64 stx, .int .i64 ix, .int .i64 vex, .slice Ax nx cx], 25)] [(H, hn, []), (G, gn, sealed (fun _ => 0) (encT ⟨tlz, tsz, toz, tez, Lz, tbz, trz⟩)), (D, dn, bD), (C, cn, []), (Bw, kw, tbw), (Bz, kz, tbz), (Ay, ny, bsy), (Ax, nx, bsx)] [(Iw, imw, Lw), (Iz, imz, Lz)] [(g_w7, (fun _ => 0))]) (by kernel_rfl) (HK.out.drew) (fun hHeld => ?_)
            have HBr := Lib.hid (HB.out.drew)
            clear HK HB
            refine wpAnyH_take (i := 0) (oi := ⟨some 64, _, _, _, _, _⟩) (v := ?_) rfl (by as_aux_lemma => kernel_rfl) (by as_aux_lemma => kernel_rfl) (by as_aux_lemma => kernel_rfl) (fun _ _ _ h => h) (Or.inl ⟨by rfl, ?_⟩) (by assumption) ?_
            rotate_left
            · intro w hSw
              (try dsimp only at hSw)
              go_simp
              all_goals (with_reducible rfl)
            try simp only [Act.put, List.setIfInBounds_toArray, List.set_cons_zero, List.set_cons_succ]
            refine wpAnyH_take (i := 1) (oi := ⟨some 65, _, _, _, _, _⟩) (v := ?_) rfl (by as_aux_lemma => kernel_rfl) (by as_aux_lemma => kernel_rfl) (by as_aux_lemma => kernel_rfl) (fun _ _ _ h => h) (Or.inl ⟨by rfl, ?_⟩) (by assumption) ?_
            rotate_left
            · intro w hSw
              (try dsimp only at hSw)
              go_simp
              all_goals (with_reducible rfl)
            try simp only [Act.put, List.setIfInBounds_toArray, List.set_cons_zero, List.set_cons_succ]
            refine wpAnyH_take (i := 2) (oi := ⟨some 66, _, _, _, _, _⟩) (v := ?_) rfl (by as_aux_lemma => kernel_rfl) (by as_aux_lemma => kernel_rfl) (by as_aux_lemma => kernel_rfl) (fun _ _ _ h => h) (Or.inl ⟨by rfl, ?_⟩) (by assumption) ?_
            rotate_left
            · intro w hSw
              (try dsimp only at hSw)
              go_simp
              all_goals (with_reducible rfl)
            try simp only [Act.put, List.setIfInBounds_toArray, List.set_cons_zero, List.set_cons_succ]
            refine wpAnyH_take (i := 3) (oi := ⟨some 67, _, _, _, _, _⟩) (v := ?_) rfl (by as_aux_lemma => kernel_rfl) (by as_aux_lemma => kernel_rfl) (by as_aux_lemma => kernel_rfl) (fun _ _ _ h => h) (Or.inl ⟨by rfl, ?_⟩) (by assumption) ?_
            rotate_left
            · intro w hSw
              (try dsimp only at hSw)
              go_simp
              all_goals (with_reducible rfl)
            try simp only [Act.put, List.setIfInBounds_toArray, List.set_cons_zero, List.set_cons_succ]
            refine wpAnyH_take (i := 4) (oi := ⟨some 68, _, _, _, _, _⟩) (v := ?_) rfl (by as_aux_lemma => kernel_rfl) (by as_aux_lemma => kernel_rfl) (by as_aux_lemma => kernel_rfl) (fun _ _ _ h => h) (Or.inl ⟨by rfl, ?_⟩) (by assumption) ?_
            rotate_left
            · intro w hSw
              (try dsimp only at hSw)
              go_simp
              all_goals (with_reducible rfl)
            try simp only [Act.put, List.setIfInBounds_toArray, List.set_cons_zero, List.set_cons_succ]
            refine wpAnyH_take (i := 5) (oi := ⟨some 69, _, _, _, _, _⟩) (v := ?_) rfl (by as_aux_lemma => kernel_rfl) (by as_aux_lemma => kernel_rfl) (by as_aux_lemma => kernel_rfl) (fun _ _ _ h => h) (Or.inl ⟨by rfl, ?_⟩) (by assumption) ?_
            rotate_left
            · intro w hSw
              (try dsimp only at hSw)
              go_simp
              all_goals (with_reducible rfl)
            try simp only [Act.put, List.setIfInBounds_toArray, List.set_cons_zero, List.set_cons_succ]
            refine wpAnyH_take (i := 6) (oi := ⟨some 70, _, _, _, _, _⟩) (v := ?_) rfl (by as_aux_lemma => kernel_rfl) (by as_aux_lemma => kernel_rfl) (by as_aux_lemma => kernel_rfl) (fun _ _ _ h => h) (Or.inl ⟨by rfl, ?_⟩) (by assumption) ?_
            rotate_left
            · intro w hSw
              (try dsimp only at hSw)
              go_simp
              all_goals (with_reducible rfl)
            try simp only [Act.put, List.setIfInBounds_toArray, List.set_cons_zero, List.set_cons_succ]
            refine wpAnyH_take (i := 7) (oi := ⟨some 71, _, _, _, _, _⟩) (v := undef) rfl (by as_aux_lemma => kernel_rfl) (by as_aux_lemma => kernel_rfl) (by as_aux_lemma => kernel_rfl) (fun _ _ _ h => h) (Or.inr ⟨by rfl, rfl⟩) (by assumption) ?_
            try simp only [Act.put, List.setIfInBounds_toArray, List.set_cons_zero, List.set_cons_succ]
            refine wpAnyH_take (i := 8) (oi := ⟨some 72, _, _, _, _, _⟩) (v := undef) rfl (by as_aux_lemma => kernel_rfl) (by as_aux_lemma => kernel_rfl) (by as_aux_lemma => kernel_rfl) (fun _ _ _ h => h) (Or.inr ⟨by rfl, rfl⟩) (by assumption) ?_
            try simp only [Act.put, List.setIfInBounds_toArray, List.set_cons_zero, List.set_cons_succ]
            refine wpAnyH_take (i := 9) (oi := ⟨some 73, _, _, _, _, _⟩) (v := undef) rfl (by as_aux_lemma => kernel_rfl) (by as_aux_lemma => kernel_rfl) (by as_aux_lemma => kernel_rfl) (fun _ _ _ h => h) (Or.inr ⟨by rfl, rfl⟩) (by assumption) ?_
            try simp only [Act.put, List.setIfInBounds_toArray, List.set_cons_zero, List.set_cons_succ]
            refine wpAnyH_take (i := 10) (oi := ⟨some 74, _, _, _, _, _⟩) (v := undef) rfl (by as_aux_lemma => kernel_rfl) (by as_aux_lemma => kernel_rfl) (by as_aux_lemma => kernel_rfl) (fun _ _ _ h => h) (Or.inr ⟨by rfl, rfl⟩) (by assumption) ?_
            try simp only [Act.put, List.setIfInBounds_toArray, List.set_cons_zero, List.set_cons_succ]
            refine wpAnyH_take (i := 11) (oi := ⟨some 75, _, _, _, _, _⟩) (v := undef) rfl (by as_aux_lemma => kernel_rfl) (by as_aux_lemma => kernel_rfl) (by as_aux_lemma => kernel_rfl) (fun _ _ _ h => h) (Or.inr ⟨by rfl, rfl⟩) (by assumption) ?_
            try simp only [Act.put, List.setIfInBounds_toArray, List.set_cons_zero, List.set_cons_succ]
            refine wpAnyH_take (i := 12) (oi := ⟨some 76, _, _, _, _, _⟩) (v := undef) rfl (by as_aux_lemma => kernel_rfl) (by as_aux_lemma => kernel_rfl) (by as_aux_lemma => kernel_rfl) (fun _ _ _ h => h) (Or.inr ⟨by rfl, rfl⟩) (by assumption) ?_
            try simp only [Act.put, List.setIfInBounds_toArray, List.set_cons_zero, List.set_cons_succ]
            refine wpAnyH_take (i := 13) (oi := ⟨some 77, _, _, _, _, _⟩) (v := undef) rfl (by as_aux_lemma => kernel_rfl) (by as_aux_lemma => kernel_rfl) (by as_aux_lemma => kernel_rfl) (fun _ _ _ h => h) (Or.inr ⟨by rfl, rfl⟩) (by assumption) ?_
            try simp only [Act.put, List.setIfInBounds_toArray, List.set_cons_zero, List.set_cons_succ]
            refine wpAnyH_take (i := 14) (oi := ⟨some 78, _, _, _, _, _⟩) (v := ?_) rfl (by as_aux_lemma => kernel_rfl) (by as_aux_lemma => kernel_rfl) (by as_aux_lemma => kernel_rfl) (fun _ _ _ h => h) (Or.inl ⟨by rfl, ?_⟩) (by assumption) ?_
            rotate_left
            · intro w hSw
              (try dsimp only at hSw)
              go_simp
              all_goals (with_reducible rfl)
            try simp only [Act.put, List.setIfInBounds_toArray, List.set_cons_zero, List.set_cons_succ]
            refine wpAnyH_take (i := 15) (oi := ⟨some 79, _, _, _, _, _⟩) (v := ?_) rfl (by as_aux_lemma => kernel_rfl) (by as_aux_lemma => kernel_rfl) (by as_aux_lemma => kernel_rfl) (fun _ _ _ h => h) (Or.inl ⟨by rfl, ?_⟩) (by assumption) ?_
            rotate_left
            · intro w hSw
              (try dsimp only at hSw)
              go_simp
              all_goals (with_reducible rfl)
            try simp only [Act.put, List.setIfInBounds_toArray, List.set_cons_zero, List.set_cons_succ]
            refine wpAnyH_ready (rs := [16]) (by as_aux_lemma => kernel_rfl) (by simp) (AllReadyH.cons (o := ⟨some 80, _, _, _, _, _⟩) rfl (fun K hK => ?_) AllReadyH.nil)
            go_simp
            refine (awake_is _).mono ?_
            rintro e u5 ⟨rfl, hb⟩
            have hS2 := hHeld.below hb (Nat.le_refl _)
            replace HBr := Lib.hid (HBr.out.trans (hb.mono HBr.out.size))
            refine hK.out _ _ hS2 (fun hHeld => ?_)
            clear hK K hS2
            try simp only [Act.put, List.setIfInBounds_toArray, List.set_cons_zero, List.set_cons_succ]
            refine wpAnyH_take (i := 17) (oi := ⟨some 81, _, _, _, _, _⟩) (v := ?_) rfl (by as_aux_lemma => kernel_rfl) (by as_aux_lemma => kernel_rfl) (by as_aux_lemma => kernel_rfl) (fun _ _ _ h => h) (Or.inl ⟨by rfl, ?_⟩) (by assumption) ?_
            rotate_left
            · intro w hSw
              (try dsimp only at hSw)
              go_simp
              all_goals (with_reducible rfl)
            try simp only [Act.put, List.setIfInBounds_toArray, List.set_cons_zero, List.set_cons_succ]
            refine wpAnyH_take (i := 18) (oi := ⟨some 8, _, _, _, _, _⟩) (v := ?_) rfl (by as_aux_lemma => kernel_rfl) (by as_aux_lemma => kernel_rfl) (by as_aux_lemma => kernel_rfl) (fun _ _ _ h => h) (Or.inl ⟨by rfl, ?_⟩) (by assumption) ?_
            rotate_left
            · intro w hSw
              (try dsimp only at hSw)
              go_simp
              all_goals (with_reducible rfl)
            try simp only [Act.put, List.setIfInBounds_toArray, List.set_cons_zero, List.set_cons_succ]
            refine wpAnyH_done (by kernel_rfl) ?_ _
            have HK := Lib.hid hHeld
            have HB := HBr
            clear HBr hHeld
            go_wp2
            go_ret
            exact told_mk (by simp) HB.out
        · replace HRz := Lib.hid HRz
          have hs1 := q1
          have hs2 := q2
          have q1 := Lib.hid (decide_eq_true q1)
          have q2 := Lib.hid (decide_eq_true q2)
          go_enter Try.func6, Try.ntmps6
          obtain ⟨a0, a1, a2, a3, a4, a5, a6⟩ := arr7 (w := (World.alloc (World.alloc (World.alloc (World.alloc w (.cells #[.int .i64 lx, .int .i64 sx, .int .u8 ox, .int .i64 stx, .int .i64 ix, .int .i64 vex, .slice Ax nx cx] 25)) (.cells #[.int .i64 ly, .int .i64 sy, .int .u8 oy, .int .i64 sty, .int .i64 iy, .int .i64 vey, .slice Ay ny cy] 25)) (.cells #[.int .i64 tlz, .int .i64 tsz, .int .u8 toz, .int .i64 tez, .slice Iz imz mcz, .slice Bz kz dz, .int .i64 trz] 34)) (.cells #[.int .i64 tlw, .int .i64 tsw, .int .u8 tow, .int .i64 tew, .slice Iw imw mcw, .slice Bw kw dw, .int .i64 trw] 34))) (by rw [Ew1.out, Ew2.out, Ew3.out, Ew4.out]; exact (HK.out.rows _ (.tail _ (.tail _ (.tail _ (.head _))))))
          obtain ⟨b0, b1, b2, b3, b4, b5, b6⟩ := arr7 (w := (World.alloc (World.alloc (World.alloc (World.alloc w (.cells #[.int .i64 lx, .int .i64 sx, .int .u8 ox, .int .i64 stx, .int .i64 ix, .int .i64 vex, .slice Ax nx cx] 25)) (.cells #[.int .i64 ly, .int .i64 sy, .int .u8 oy, .int .i64 sty, .int .i64 iy, .int .i64 vey, .slice Ay ny cy] 25)) (.cells #[.int .i64 tlz, .int .i64 tsz, .int .u8 toz, .int .i64 tez, .slice Iz imz mcz, .slice Bz kz dz, .int .i64 trz] 34)) (.cells #[.int .i64 tlw, .int .i64 tsw, .int .u8 tow, .int .i64 tew, .slice Iw imw mcw, .slice Bw kw dw, .int .i64 trw] 34))) (by rw [Ew1.out, Ew2.out, Ew3.out, Ew4.out]; exact (HK.out.rows _ (.tail _ (.head _))))
          go_wp2_with fail
          rw [Ew1.out]
          rw [Ew2.out]
          rw [Ew3.out]
          rw [Ew4.out]
          clear Ew1 Ew2 Ew3 Ew4
          refine (small_is w4 lx sx ox stx ix vex tlz tsz toz tez trz q1.out).mono ?_
          rintro e w5 ⟨rfl, hb⟩
          have hW : Below w4.heap.size w4 w5 := hb
          replace HK := Lib.hid (HK.out.below hW (Nat.le_refl _))
          replace HB := Lib.hid (HB.out.trans (hW.mono HB.out.size))
          clear hW
          clear a0 a1 a2 a3 a4 a5 a6 b0 b1 b2 b3 b4 b5 b6 hb
          obtain ⟨a0, a1, a2, a3, a4, a5, a6⟩ := arr7 (w := w5) (by exact (HK.out.rows _ (.tail _ (.tail _ (.head _)))))
          obtain ⟨b0, b1, b2, b3, b4, b5, b6⟩ := arr7 (w := w5) (by exact (HK.out.rows _ (.head _)))
          go_wp2_with fail
          refine (small_is w5 ly sy oy sty iy vey tlw tsw tow tew trw q2.out).mono ?_
          rintro e w6 ⟨rfl, hb⟩
          have hW : Below w5.heap.size w5 w6 := hb
          replace HK := Lib.hid (HK.out.below hW (Nat.le_refl _))
          replace HB := Lib.hid (HB.out.trans (hW.mono HB.out.size))
          clear hW
          clear a0 a1 a2 a3 a4 a5 a6 b0 b1 b2 b3 b4 b5 b6 hb
          obtain ⟨g_w7, h_w7⟩ : ∃ g, w6.heap.size = g := ⟨_, rfl⟩
          obtain ⟨w7, e⟩ : ∃ x, w6.alloc (.cells Z0 39) = x := ⟨_, rfl⟩
          obtain ⟨hW, hx⟩ := box_new e
          rw [h_w7] at hx
          have Ew7 := Lib.hid e
          clear e
          replace hx := Lib.hid hx
          replace HK := Lib.hid (HK.out.below hW (Nat.le_refl _))
          replace HB := Lib.hid (HB.out.trans (hW.mono HB.out.size))
          clear hW
          clear hx
          have hTb : Tb w7 g_w7 (fun _ => 0) := by rw [← Ew7.out]; exact tab_nought w6 h_w7
          replace HK := Lib.hid (HK.out.tab (hTb))
          clear hTb
          have hz39 := zeroT39
          obtain ⟨a0, a1, a2, a3, a4, a5, a6⟩ := arr7 (w := (World.alloc w6 (.cells Z0 39))) (by rw [Ew7.out]; exact (HK.out.rows _ (.tail _ (.tail _ (.tail _ (.head _))))))
          have putx : putA (fun _ => 0) ⟨lx, sx, ox, stx, ix, vex, bsx⟩ = ([], 110) := by unfold putA; rw [if_neg HRx.out]
          have HPx := Lib.hid putx
          clear putx
          go_wp2_with fail
          rw [Ew7.out]
          clear Ew7
          refine (putA_is w7 (HK.out.tabs _ (.head _)).1 (HK.out.tabs _ (.head _)).2 lx sx ox stx ix vex bsx (HK.out.reads _ (.tail _ (.tail _ (.tail _ (.head _))))) (show nx ≤ 1000000 by omega)).mono ?_
          rintro e w8 ⟨C, cn, cc, rfl, hoc, hb⟩
          rw [HPx.out] at hoc ⊢
          simp only at hoc ⊢
          clear a0 a1 a2 a3 a4 a5 a6 hz39
          have hW : Below w7.heap.size w7 w8 := hb
          replace HK := Lib.hid (HK.out.below hW (Nat.le_refl _))
          replace HB := Lib.hid (HB.out.trans (hW.mono HB.out.size))
          clear hW
          replace HK := Lib.hid (HK.out.read (hoc.rd))
          clear hoc hb
          obtain ⟨a0, a1, a2, a3, a4, a5, a6⟩ := arr7 (w := w8) (by exact (HK.out.rows _ (.tail _ (.tail _ (.head _)))))
          obtain ⟨py, hpy⟩ : ∃ x, putA (fun _ => 0) ⟨ly, sy, oy, sty, iy, vey, bsy⟩ = x := ⟨_, rfl⟩
          obtain ⟨bD, eD⟩ := py
          have HPy := Lib.hid hpy
          clear hpy
          go_wp2_with fail
          refine (putA_is w8 (HK.out.tabs _ (.head _)).1 (HK.out.tabs _ (.head _)).2 ly sy oy sty iy vey bsy (HK.out.reads _ (.tail _ (.tail _ (.tail _ (.head _))))) (show ny ≤ 1000000 by omega)).mono ?_
          rintro e w9 ⟨D, dn, dc, rfl, hod, hb⟩
          rw [HPy.out] at hod ⊢
          simp only at hod ⊢
          clear a0 a1 a2 a3 a4 a5 a6
          have hW : Below w8.heap.size w8 w9 := hb
          replace HK := Lib.hid (HK.out.below hW (Nat.le_refl _))
          replace HB := Lib.hid (HB.out.trans (hW.mono HB.out.size))
          clear hW
          replace HK := Lib.hid (HK.out.read (hod.rd))
          clear hod hb
          go_wp2_with fail
          refine wp_region_held_drew (S := fun u => Keep u [(g + 1 + 1 + 1, #[.int .i64 tlw, .int .i64 tsw, .int .u8 tow, .int .i64 tew, .slice Iw imw mcw, .slice Bw kw dw, .int .i64 trw], 34), (g + 1 + 1, #[.int .i64 tlz, .int .i64 tsz, .int .u8 toz, .int .i64 tez, .slice Iz imz mcz, .slice Bz kz dz, .int .i64 trz], 34), (g + 1, #[.int .i64 ly, .int .i64 sy, .int .u8 oy, .int .i64 sty, .int .i64 iy, .int .i64 vey, .slice Ay ny cy], 25), (g, #[.int .i64 lx, .int .i64 sx, .int .u8 ox, .int .i64 stx, .int .i64 ix, .int .i64 vex, .slice Ax nx cx], 25)] [(D, dn, bD), (C, cn, []), (Bw, kw, tbw), (Bz, kz, tbz), (Ay, ny, bsy), (Ax, nx, bsx)] [(Iw, imw, Lw), (Iz, imz, Lz)] [(g_w7, (fun _ => 0))]) (by kernel_rfl) (HK.out.drew) (fun hHeld => ?_)
          have HBr := Lib.hid (HB.out.drew)
          clear HK HB
          refine wpAnyH_take (i := 0) (oi := ⟨some 39, _, _, _, _, _⟩) (v := ?_) rfl (by as_aux_lemma => kernel_rfl) (by as_aux_lemma => kernel_rfl) (by as_aux_lemma => kernel_rfl) (fun _ _ _ h => h) (Or.inl ⟨by rfl, ?_⟩) (by assumption) ?_
          rotate_left
          · intro w hSw
            (try dsimp only at hSw)
            go_simp
            all_goals (with_reducible rfl)
          try simp only [Act.put, List.setIfInBounds_toArray, List.set_cons_zero, List.set_cons_succ]
          refine wpAnyH_take (i := 1) (oi := ⟨some 40, _, _, _, _, _⟩) (v := ?_) rfl (by as_aux_lemma => kernel_rfl) (by as_aux_lemma => kernel_rfl) (by as_aux_lemma => kernel_rfl) (fun _ _ _ h => h) (Or.inl ⟨by rfl, ?_⟩) (by assumption) ?_
          rotate_left
          · intro w hSw
            (try dsimp only at hSw)
            go_simp
            all_goals (with_reducible rfl)
          try simp only [Act.put, List.setIfInBounds_toArray, List.set_cons_zero, List.set_cons_succ]
          refine wpAnyH_take (i := 2) (oi := ⟨some 41, _, _, _, _, _⟩) (v := ?_) rfl (by as_aux_lemma => kernel_rfl) (by as_aux_lemma => kernel_rfl) (by as_aux_lemma => kernel_rfl) (fun _ _ _ h => h) (Or.inl ⟨by rfl, ?_⟩) (by assumption) ?_
          rotate_left
          · intro w hSw
            (try dsimp only at hSw)
            go_simp
            all_goals (with_reducible rfl)
          try simp only [Act.put, List.setIfInBounds_toArray, List.set_cons_zero, List.set_cons_succ]
          refine wpAnyH_take (i := 3) (oi := ⟨some 42, _, _, _, _, _⟩) (v := undef) rfl (by as_aux_lemma => kernel_rfl) (by as_aux_lemma => kernel_rfl) (by as_aux_lemma => kernel_rfl) (fun _ _ _ h => h) (Or.inr ⟨by rfl, rfl⟩) (by assumption) ?_
          try simp only [Act.put, List.setIfInBounds_toArray, List.set_cons_zero, List.set_cons_succ]
          refine wpAnyH_take (i := 4) (oi := ⟨some 43, _, _, _, _, _⟩) (v := undef) rfl (by as_aux_lemma => kernel_rfl) (by as_aux_lemma => kernel_rfl) (by as_aux_lemma => kernel_rfl) (fun _ _ _ h => h) (Or.inr ⟨by rfl, rfl⟩) (by assumption) ?_
          try simp only [Act.put, List.setIfInBounds_toArray, List.set_cons_zero, List.set_cons_succ]
          refine wpAnyH_take (i := 5) (oi := ⟨some 44, _, _, _, _, _⟩) (v := ?_) rfl (by as_aux_lemma => kernel_rfl) (by as_aux_lemma => kernel_rfl) (by as_aux_lemma => kernel_rfl) (fun _ _ _ h => h) (Or.inl ⟨by rfl, ?_⟩) (by assumption) ?_
          rotate_left
          · intro w hSw
            (try dsimp only at hSw)
            go_simp
            all_goals (with_reducible rfl)
          try simp only [Act.put, List.setIfInBounds_toArray, List.set_cons_zero, List.set_cons_succ]
          refine wpAnyH_take (i := 6) (oi := ⟨some 45, _, _, _, _, _⟩) (v := ?_) rfl (by as_aux_lemma => kernel_rfl) (by as_aux_lemma => kernel_rfl) (by as_aux_lemma => kernel_rfl) (fun _ _ _ h => h) (Or.inl ⟨by rfl, ?_⟩) (by assumption) ?_
          rotate_left
          · intro w hSw
            (try dsimp only at hSw)
            go_simp
            all_goals (with_reducible rfl)
          try simp only [Act.put, List.setIfInBounds_toArray, List.set_cons_zero, List.set_cons_succ]
          refine wpAnyH_take (i := 7) (oi := ⟨some 46, _, _, _, _, _⟩) (v := undef) rfl (by as_aux_lemma => kernel_rfl) (by as_aux_lemma => kernel_rfl) (by as_aux_lemma => kernel_rfl) (fun _ _ _ h => h) (Or.inr ⟨by rfl, rfl⟩) (by assumption) ?_
          try simp only [Act.put, List.setIfInBounds_toArray, List.set_cons_zero, List.set_cons_succ]
          refine wpAnyH_take (i := 8) (oi := ⟨some 47, _, _, _, _, _⟩) (v := undef) rfl (by as_aux_lemma => kernel_rfl) (by as_aux_lemma => kernel_rfl) (by as_aux_lemma => kernel_rfl) (fun _ _ _ h => h) (Or.inr ⟨by rfl, rfl⟩) (by assumption) ?_
          try simp only [Act.put, List.setIfInBounds_toArray, List.set_cons_zero, List.set_cons_succ]
          refine wpAnyH_take (i := 9) (oi := ⟨some 48, _, _, _, _, _⟩) (v := undef) rfl (by as_aux_lemma => kernel_rfl) (by as_aux_lemma => kernel_rfl) (by as_aux_lemma => kernel_rfl) (fun _ _ _ h => h) (Or.inr ⟨by rfl, rfl⟩) (by assumption) ?_
          try simp only [Act.put, List.setIfInBounds_toArray, List.set_cons_zero, List.set_cons_succ]
          refine wpAnyH_take (i := 10) (oi := ⟨some 49, _, _, _, _, _⟩) (v := undef) rfl (by as_aux_lemma => kernel_rfl) (by as_aux_lemma => kernel_rfl) (by as_aux_lemma => kernel_rfl) (fun _ _ _ h => h) (Or.inr ⟨by rfl, rfl⟩) (by assumption) ?_
          try simp only [Act.put, List.setIfInBounds_toArray, List.set_cons_zero, List.set_cons_succ]
          refine wpAnyH_take (i := 11) (oi := ⟨some 50, _, _, _, _, _⟩) (v := undef) rfl (by as_aux_lemma => kernel_rfl) (by as_aux_lemma => kernel_rfl) (by as_aux_lemma => kernel_rfl) (fun _ _ _ h => h) (Or.inr ⟨by rfl, rfl⟩) (by assumption) ?_
          try simp only [Act.put, List.setIfInBounds_toArray, List.set_cons_zero, List.set_cons_succ]
          refine wpAnyH_take (i := 12) (oi := ⟨some 51, _, _, _, _, _⟩) (v := undef) rfl (by as_aux_lemma => kernel_rfl) (by as_aux_lemma => kernel_rfl) (by as_aux_lemma => kernel_rfl) (fun _ _ _ h => h) (Or.inr ⟨by rfl, rfl⟩) (by assumption) ?_
          try simp only [Act.put, List.setIfInBounds_toArray, List.set_cons_zero, List.set_cons_succ]
          refine wpAnyH_take (i := 13) (oi := ⟨some 52, _, _, _, _, _⟩) (v := undef) rfl (by as_aux_lemma => kernel_rfl) (by as_aux_lemma => kernel_rfl) (by as_aux_lemma => kernel_rfl) (fun _ _ _ h => h) (Or.inr ⟨by rfl, rfl⟩) (by assumption) ?_
          try simp only [Act.put, List.setIfInBounds_toArray, List.set_cons_zero, List.set_cons_succ]
          refine wpAnyH_take (i := 14) (oi := ⟨some 53, _, _, _, _, _⟩) (v := ?_) rfl (by as_aux_lemma => kernel_rfl) (by as_aux_lemma => kernel_rfl) (by as_aux_lemma => kernel_rfl) (fun _ _ _ h => h) (Or.inl ⟨by rfl, ?_⟩) (by assumption) ?_
          rotate_left
          · intro w hSw
            (try dsimp only at hSw)
            go_simp
            all_goals (with_reducible rfl)
          try simp only [Act.put, List.setIfInBounds_toArray, List.set_cons_zero, List.set_cons_succ]
          refine wpAnyH_done (by kernel_rfl) ?_ _
          have HK := Lib.hid hHeld
          have HB := HBr
          clear HBr hHeld
          obtain ⟨u1, hu1⟩ : ∃ x, w9.drew = x := ⟨_, rfl⟩
          rw [hu1] at HK HB ⊢
          clear hu1
          obtain ⟨a0, a1, a2, a3, a4, a5, a6⟩ := arr7 (w := u1) (by exact (HK.out.rows _ (.tail _ (.head _))))
          have putx : putT (fun _ => 0) ⟨tlz, tsz, toz, tez, Lz, tbz, trz⟩ = ([], 110) := by unfold putT; rw [if_neg HRz.out]
          have HPz := Lib.hid putx
          clear putx
          go_wp2_with fail
          refine (putT_is u1 (HK.out.tabs _ (.head _)).1 (HK.out.tabs _ (.head _)).2 tlz tsz toz tez trz (HK.out.ils _ (.tail _ (.head _))) (show imz ≤ 1000000 by omega) tbz (HK.out.reads _ (.tail _ (.tail _ (.tail _ (.head _))))) (show kz ≤ 1000000 by omega)).mono ?_
          rintro e w11 ⟨G, gn, gc, rfl, hoc, hb⟩
          rw [HPz.out] at hoc ⊢
          simp only at hoc ⊢
          clear a0 a1 a2 a3 a4 a5 a6
          have hW : Below u1.heap.size u1 w11 := hb
          replace HK := Lib.hid (HK.out.below hW (Nat.le_refl _))
          replace HB := Lib.hid (HB.out.trans (hW.mono HB.out.size))
          clear hW
          replace HK := Lib.hid (HK.out.read (hoc.rd))
          clear hoc hb
          obtain ⟨a0, a1, a2, a3, a4, a5, a6⟩ := arr7 (w := w11) (by exact (HK.out.rows _ (.head _)))
          obtain ⟨py, hpy⟩ : ∃ x, putT (fun _ => 0) ⟨tlw, tsw, tow, tew, Lw, tbw, trw⟩ = x := ⟨_, rfl⟩
          obtain ⟨bE, eE⟩ := py
          have HPw := Lib.hid hpy
          clear hpy
          go_wp2_with fail
          refine (putT_is w11 (HK.out.tabs _ (.head _)).1 (HK.out.tabs _ (.head _)).2 tlw tsw tow tew trw (HK.out.ils _ (.head _)) (show imw ≤ 1000000 by omega) tbw (HK.out.reads _ (.tail _ (.tail _ (.tail _ (.head _))))) (show kw ≤ 1000000 by omega)).mono ?_
          rintro e w12 ⟨H, hn, hc, rfl, hod, hb⟩
          rw [HPw.out] at hod ⊢
          simp only at hod ⊢
          clear a0 a1 a2 a3 a4 a5 a6
          have hW : Below w11.heap.size w11 w12 := hb
          replace HK := Lib.hid (HK.out.below hW (Nat.le_refl _))
          replace HB := Lib.hid (HB.out.trans (hW.mono HB.out.size))
          clear hW
          replace HK := Lib.hid (HK.out.read (hod.rd))
          clear hod hb
          go_wp2_with fail
          refine wp_region_held_drew (S := fun u => Keep u [(g + 1 + 1 + 1, #[.int .i64 tlw, .int .i64 tsw, .int .u8 tow, .int .i64 tew, .slice Iw imw mcw, .slice Bw kw dw, .int .i64 trw], 34), (g + 1 + 1, #[.int .i64 tlz, .int .i64 tsz, .int .u8 toz, .int .i64 tez, .slice Iz imz mcz, .slice Bz kz dz, .int .i64 trz], 34), (g + 1, #[.int .i64 ly, .int .i64 sy, .int .u8 oy, .int .i64 sty, .int .i64 iy, .int .i64 vey, .slice Ay ny cy], 25), (g, #[.int .i64 lx, .int .i64 sx, .int .u8 ox, .int .i64 stx, .int .i64 ix, .int .i64 vex, .slice Ax nx cx], 25)] [(H, hn, bE), (G, gn, []), (D, dn, bD), (C, cn, []), (Bw, kw, tbw), (Bz, kz, tbz), (Ay, ny, bsy), (Ax, nx, bsx)] [(Iw, imw, Lw), (Iz, imz, Lz)] [(g_w7, (fun _ => 0))]) (by kernel_rfl) (HK.out.drew) (fun hHeld => ?_)
          have HBr := Lib.hid (HB.out.drew)
          clear HK HB
          refine wpAnyH_take (i := 0) (oi := ⟨some 64, _, _, _, _, _⟩) (v := ?_) rfl (by as_aux_lemma => kernel_rfl) (by as_aux_lemma => kernel_rfl) (by as_aux_lemma => kernel_rfl) (fun _ _ _ h => h) (Or.inl ⟨by rfl, ?_⟩) (by assumption) ?_
          rotate_left
          · intro w hSw
            (try dsimp only at hSw)
            go_simp
            all_goals (with_reducible rfl)
          try simp only [Act.put, List.setIfInBounds_toArray, List.set_cons_zero, List.set_cons_succ]
          refine wpAnyH_take (i := 1) (oi := ⟨some 65, _, _, _, _, _⟩) (v := ?_) rfl (by as_aux_lemma => kernel_rfl) (by as_aux_lemma => kernel_rfl) (by as_aux_lemma => kernel_rfl) (fun _ _ _ h => h) (Or.inl ⟨by rfl, ?_⟩) (by assumption) ?_
          rotate_left
          · intro w hSw
            (try dsimp only at hSw)
            go_simp
            all_goals (with_reducible rfl)
          try simp only [Act.put, List.setIfInBounds_toArray, List.set_cons_zero, List.set_cons_succ]
          refine wpAnyH_take (i := 2) (oi := ⟨some 66, _, _, _, _, _⟩) (v := ?_) rfl (by as_aux_lemma => kernel_rfl) (by as_aux_lemma => kernel_rfl) (by as_aux_lemma => kernel_rfl) (fun _ _ _ h => h) (Or.inl ⟨by rfl, ?_⟩) (by assumption) ?_
          rotate_left
          · intro w hSw
            (try dsimp only at hSw)
            go_simp
            all_goals (with_reducible rfl)
          try simp only [Act.put, List.setIfInBounds_toArray, List.set_cons_zero, List.set_cons_succ]
          refine wpAnyH_take (i := 3) (oi := ⟨some 67, _, _, _, _, _⟩) (v := undef) rfl (by as_aux_lemma => kernel_rfl) (by as_aux_lemma => kernel_rfl) (by as_aux_lemma => kernel_rfl) (fun _ _ _ h => h) (Or.inr ⟨by rfl, rfl⟩) (by assumption) ?_
          try simp only [Act.put, List.setIfInBounds_toArray, List.set_cons_zero, List.set_cons_succ]
          refine wpAnyH_take (i := 4) (oi := ⟨some 68, _, _, _, _, _⟩) (v := undef) rfl (by as_aux_lemma => kernel_rfl) (by as_aux_lemma => kernel_rfl) (by as_aux_lemma => kernel_rfl) (fun _ _ _ h => h) (Or.inr ⟨by rfl, rfl⟩) (by assumption) ?_
          try simp only [Act.put, List.setIfInBounds_toArray, List.set_cons_zero, List.set_cons_succ]
          refine wpAnyH_take (i := 5) (oi := ⟨some 69, _, _, _, _, _⟩) (v := ?_) rfl (by as_aux_lemma => kernel_rfl) (by as_aux_lemma => kernel_rfl) (by as_aux_lemma => kernel_rfl) (fun _ _ _ h => h) (Or.inl ⟨by rfl, ?_⟩) (by assumption) ?_
          rotate_left
          · intro w hSw
            (try dsimp only at hSw)
            go_simp
            all_goals (with_reducible rfl)
          try simp only [Act.put, List.setIfInBounds_toArray, List.set_cons_zero, List.set_cons_succ]
          refine wpAnyH_take (i := 6) (oi := ⟨some 70, _, _, _, _, _⟩) (v := ?_) rfl (by as_aux_lemma => kernel_rfl) (by as_aux_lemma => kernel_rfl) (by as_aux_lemma => kernel_rfl) (fun _ _ _ h => h) (Or.inl ⟨by rfl, ?_⟩) (by assumption) ?_
          rotate_left
          · intro w hSw
            (try dsimp only at hSw)
            go_simp
            all_goals (with_reducible rfl)
          try simp only [Act.put, List.setIfInBounds_toArray, List.set_cons_zero, List.set_cons_succ]
          refine wpAnyH_take (i := 7) (oi := ⟨some 71, _, _, _, _, _⟩) (v := undef) rfl (by as_aux_lemma => kernel_rfl) (by as_aux_lemma => kernel_rfl) (by as_aux_lemma => kernel_rfl) (fun _ _ _ h => h) (Or.inr ⟨by rfl, rfl⟩) (by assumption) ?_
          try simp only [Act.put, List.setIfInBounds_toArray, List.set_cons_zero, List.set_cons_succ]
          refine wpAnyH_take (i := 8) (oi := ⟨some 72, _, _, _, _, _⟩) (v := undef) rfl (by as_aux_lemma => kernel_rfl) (by as_aux_lemma => kernel_rfl) (by as_aux_lemma => kernel_rfl) (fun _ _ _ h => h) (Or.inr ⟨by rfl, rfl⟩) (by assumption) ?_
          try simp only [Act.put, List.setIfInBounds_toArray, List.set_cons_zero, List.set_cons_succ]
          refine wpAnyH_take (i := 9) (oi := ⟨some 73, _, _, _, _, _⟩) (v := undef) rfl (by as_aux_lemma => kernel_rfl) (by as_aux_lemma => kernel_rfl) (by as_aux_lemma => kernel_rfl) (fun _ _ _ h => h) (Or.inr ⟨by rfl, rfl⟩) (by assumption) ?_
          try simp only [Act.put, List.setIfInBounds_toArray, List.set_cons_zero, List.set_cons_succ]
          refine wpAnyH_take (i := 10) (oi := ⟨some 74, _, _, _, _, _⟩) (v := undef) rfl (by as_aux_lemma => kernel_rfl) (by as_aux_lemma => kernel_rfl) (by as_aux_lemma => kernel_rfl) (fun _ _ _ h => h) (Or.inr ⟨by rfl, rfl⟩) (by assumption) ?_
          try simp only [Act.put, List.setIfInBounds_toArray, List.set_cons_zero, List.set_cons_succ]
          refine wpAnyH_take (i := 11) (oi := ⟨some 75, _, _, _, _, _⟩) (v := undef) rfl (by as_aux_lemma => kernel_rfl) (by as_aux_lemma => kernel_rfl) (by as_aux_lemma => kernel_rfl) (fun _ _ _ h => h) (Or.inr ⟨by rfl, rfl⟩) (by assumption) ?_
          try simp only [Act.put, List.setIfInBounds_toArray, List.set_cons_zero, List.set_cons_succ]
          refine wpAnyH_take (i := 12) (oi := ⟨some 76, _, _, _, _, _⟩) (v := undef) rfl (by as_aux_lemma => kernel_rfl) (by as_aux_lemma => kernel_rfl) (by as_aux_lemma => kernel_rfl) (fun _ _ _ h => h) (Or.inr ⟨by rfl, rfl⟩) (by assumption) ?_
          try simp only [Act.put, List.setIfInBounds_toArray, List.set_cons_zero, List.set_cons_succ]
          refine wpAnyH_take (i := 13) (oi := ⟨some 77, _, _, _, _, _⟩) (v := undef) rfl (by as_aux_lemma => kernel_rfl) (by as_aux_lemma => kernel_rfl) (by as_aux_lemma => kernel_rfl) (fun _ _ _ h => h) (Or.inr ⟨by rfl, rfl⟩) (by assumption) ?_
          try simp only [Act.put, List.setIfInBounds_toArray, List.set_cons_zero, List.set_cons_succ]
          refine wpAnyH_take (i := 14) (oi := ⟨some 78, _, _, _, _, _⟩) (v := ?_) rfl (by as_aux_lemma => kernel_rfl) (by as_aux_lemma => kernel_rfl) (by as_aux_lemma => kernel_rfl) (fun _ _ _ h => h) (Or.inl ⟨by rfl, ?_⟩) (by assumption) ?_
          rotate_left
          · intro w hSw
            (try dsimp only at hSw)
            go_simp
            all_goals (with_reducible rfl)
          try simp only [Act.put, List.setIfInBounds_toArray, List.set_cons_zero, List.set_cons_succ]
          refine wpAnyH_take (i := 15) (oi := ⟨some 79, _, _, _, _, _⟩) (v := ?_) rfl (by as_aux_lemma => kernel_rfl) (by as_aux_lemma => kernel_rfl) (by as_aux_lemma => kernel_rfl) (fun _ _ _ h => h) (Or.inl ⟨by rfl, ?_⟩) (by assumption) ?_
          rotate_left
          · intro w hSw
            (try dsimp only at hSw)
            go_simp
            all_goals (with_reducible rfl)
          try simp only [Act.put, List.setIfInBounds_toArray, List.set_cons_zero, List.set_cons_succ]
          refine wpAnyH_ready (rs := [16]) (by as_aux_lemma => kernel_rfl) (by simp) (AllReadyH.cons (o := ⟨some 80, _, _, _, _, _⟩) rfl (fun K hK => ?_) AllReadyH.nil)
          go_simp
          refine (awake_is _).mono ?_
          rintro e u5 ⟨rfl, hb⟩
          have hS2 := hHeld.below hb (Nat.le_refl _)
          replace HBr := Lib.hid (HBr.out.trans (hb.mono HBr.out.size))
          refine hK.out _ _ hS2 (fun hHeld => ?_)
          clear hK K hS2
          try simp only [Act.put, List.setIfInBounds_toArray, List.set_cons_zero, List.set_cons_succ]
          refine wpAnyH_take (i := 17) (oi := ⟨some 81, _, _, _, _, _⟩) (v := ?_) rfl (by as_aux_lemma => kernel_rfl) (by as_aux_lemma => kernel_rfl) (by as_aux_lemma => kernel_rfl) (fun _ _ _ h => h) (Or.inl ⟨by rfl, ?_⟩) (by assumption) ?_
          rotate_left
          · intro w hSw
            (try dsimp only at hSw)
            go_simp
            all_goals (with_reducible rfl)
          try simp only [Act.put, List.setIfInBounds_toArray, List.set_cons_zero, List.set_cons_succ]
          refine wpAnyH_take (i := 18) (oi := ⟨some 8, _, _, _, _, _⟩) (v := ?_) rfl (by as_aux_lemma => kernel_rfl) (by as_aux_lemma => kernel_rfl) (by as_aux_lemma => kernel_rfl) (fun _ _ _ h => h) (Or.inl ⟨by rfl, ?_⟩) (by assumption) ?_
          rotate_left
          · intro w hSw
            (try dsimp only at hSw)
            go_simp
            all_goals (with_reducible rfl)
          try simp only [Act.put, List.setIfInBounds_toArray, List.set_cons_zero, List.set_cons_succ]
          refine wpAnyH_done (by kernel_rfl) ?_ _
          have HK := Lib.hid hHeld
          have HB := HBr
          clear HBr hHeld
          go_wp2
          go_ret
          exact told_mk (by simp) HB.out
    · have hs1 := q1
      have q1 := Lib.hid (decide_eq_true q1)
      have q2 := Lib.hid (decide_eq_false q2)
      go_enter Try.func6, Try.ntmps6
      obtain ⟨a0, a1, a2, a3, a4, a5, a6⟩ := arr7 (w := (World.alloc (World.alloc (World.alloc (World.alloc w (.cells #[.int .i64 lx, .int .i64 sx, .int .u8 ox, .int .i64 stx, .int .i64 ix, .int .i64 vex, .slice Ax nx cx] 25)) (.cells #[.int .i64 ly, .int .i64 sy, .int .u8 oy, .int .i64 sty, .int .i64 iy, .int .i64 vey, .slice Ay ny cy] 25)) (.cells #[.int .i64 tlz, .int .i64 tsz, .int .u8 toz, .int .i64 tez, .slice Iz imz mcz, .slice Bz kz dz, .int .i64 trz] 34)) (.cells #[.int .i64 tlw, .int .i64 tsw, .int .u8 tow, .int .i64 tew, .slice Iw imw mcw, .slice Bw kw dw, .int .i64 trw] 34))) (by rw [Ew1.out, Ew2.out, Ew3.out, Ew4.out]; exact (HK.out.rows _ (.tail _ (.tail _ (.tail _ (.head _))))))
      obtain ⟨b0, b1, b2, b3, b4, b5, b6⟩ := arr7 (w := (World.alloc (World.alloc (World.alloc (World.alloc w (.cells #[.int .i64 lx, .int .i64 sx, .int .u8 ox, .int .i64 stx, .int .i64 ix, .int .i64 vex, .slice Ax nx cx] 25)) (.cells #[.int .i64 ly, .int .i64 sy, .int .u8 oy, .int .i64 sty, .int .i64 iy, .int .i64 vey, .slice Ay ny cy] 25)) (.cells #[.int .i64 tlz, .int .i64 tsz, .int .u8 toz, .int .i64 tez, .slice Iz imz mcz, .slice Bz kz dz, .int .i64 trz] 34)) (.cells #[.int .i64 tlw, .int .i64 tsw, .int .u8 tow, .int .i64 tew, .slice Iw imw mcw, .slice Bw kw dw, .int .i64 trw] 34))) (by rw [Ew1.out, Ew2.out, Ew3.out, Ew4.out]; exact (HK.out.rows _ (.tail _ (.head _))))
      go_wp2_with fail
      rw [Ew1.out]
      rw [Ew2.out]
      rw [Ew3.out]
      rw [Ew4.out]
      clear Ew1 Ew2 Ew3 Ew4
      refine (small_is w4 lx sx ox stx ix vex tlz tsz toz tez trz q1.out).mono ?_
      rintro e w5 ⟨rfl, hb⟩
      have hW : Below w4.heap.size w4 w5 := hb
      replace HK := Lib.hid (HK.out.below hW (Nat.le_refl _))
      replace HB := Lib.hid (HB.out.trans (hW.mono HB.out.size))
      clear hW
      clear a0 a1 a2 a3 a4 a5 a6 b0 b1 b2 b3 b4 b5 b6 hb
      obtain ⟨a0, a1, a2, a3, a4, a5, a6⟩ := arr7 (w := w5) (by exact (HK.out.rows _ (.tail _ (.tail _ (.head _)))))
      obtain ⟨b0, b1, b2, b3, b4, b5, b6⟩ := arr7 (w := w5) (by exact (HK.out.rows _ (.head _)))
      go_wp2_with fail
      refine (small_is w5 ly sy oy sty iy vey tlw tsw tow tew trw q2.out).mono ?_
      rintro e w6 ⟨rfl, hb⟩
      have hW : Below w5.heap.size w5 w6 := hb
      replace HK := Lib.hid (HK.out.below hW (Nat.le_refl _))
      replace HB := Lib.hid (HB.out.trans (hW.mono HB.out.size))
      clear hW
      clear a0 a1 a2 a3 a4 a5 a6 b0 b1 b2 b3 b4 b5 b6 hb
      go_wp2_with fail
      refine ((awake_is _)).mono ?_
      rintro e wz ⟨rfl, hb⟩
      have hW : Below w6.heap.size w6 wz := hb
      replace HK := Lib.hid (HK.out.below hW (Nat.le_refl _))
      replace HB := Lib.hid (HB.out.trans (hW.mono HB.out.size))
      clear hW
      go_wp2
      go_ret
      exact told_mk (by simp) HB.out
  · have q1 := Lib.hid (decide_eq_false q1)
    go_enter Try.func6, Try.ntmps6
    obtain ⟨a0, a1, a2, a3, a4, a5, a6⟩ := arr7 (w := (World.alloc (World.alloc (World.alloc (World.alloc w (.cells #[.int .i64 lx, .int .i64 sx, .int .u8 ox, .int .i64 stx, .int .i64 ix, .int .i64 vex, .slice Ax nx cx] 25)) (.cells #[.int .i64 ly, .int .i64 sy, .int .u8 oy, .int .i64 sty, .int .i64 iy, .int .i64 vey, .slice Ay ny cy] 25)) (.cells #[.int .i64 tlz, .int .i64 tsz, .int .u8 toz, .int .i64 tez, .slice Iz imz mcz, .slice Bz kz dz, .int .i64 trz] 34)) (.cells #[.int .i64 tlw, .int .i64 tsw, .int .u8 tow, .int .i64 tew, .slice Iw imw mcw, .slice Bw kw dw, .int .i64 trw] 34))) (by rw [Ew1.out, Ew2.out, Ew3.out, Ew4.out]; exact (HK.out.rows _ (.tail _ (.tail _ (.tail _ (.head _))))))
    obtain ⟨b0, b1, b2, b3, b4, b5, b6⟩ := arr7 (w := (World.alloc (World.alloc (World.alloc (World.alloc w (.cells #[.int .i64 lx, .int .i64 sx, .int .u8 ox, .int .i64 stx, .int .i64 ix, .int .i64 vex, .slice Ax nx cx] 25)) (.cells #[.int .i64 ly, .int .i64 sy, .int .u8 oy, .int .i64 sty, .int .i64 iy, .int .i64 vey, .slice Ay ny cy] 25)) (.cells #[.int .i64 tlz, .int .i64 tsz, .int .u8 toz, .int .i64 tez, .slice Iz imz mcz, .slice Bz kz dz, .int .i64 trz] 34)) (.cells #[.int .i64 tlw, .int .i64 tsw, .int .u8 tow, .int .i64 tew, .slice Iw imw mcw, .slice Bw kw dw, .int .i64 trw] 34))) (by rw [Ew1.out, Ew2.out, Ew3.out, Ew4.out]; exact (HK.out.rows _ (.tail _ (.head _))))
    go_wp2_with fail
    rw [Ew1.out]
    rw [Ew2.out]
    rw [Ew3.out]
    rw [Ew4.out]
    clear Ew1 Ew2 Ew3 Ew4
    refine (small_is w4 lx sx ox stx ix vex tlz tsz toz tez trz q1.out).mono ?_
    rintro e w5 ⟨rfl, hb⟩
    have hW : Below w4.heap.size w4 w5 := hb
    replace HK := Lib.hid (HK.out.below hW (Nat.le_refl _))
    replace HB := Lib.hid (HB.out.trans (hW.mono HB.out.size))
    clear hW
    clear a0 a1 a2 a3 a4 a5 a6 b0 b1 b2 b3 b4 b5 b6 hb
    go_wp2_with fail
    refine ((awake_is _)).mono ?_
    rintro e wz ⟨rfl, hb⟩
    have hW : Below w5.heap.size w5 wz := hb
    replace HK := Lib.hid (HK.out.below hW (Nat.le_refl _))
    replace HB := Lib.hid (HB.out.trans (hW.mono HB.out.size))
    clear hW
    go_wp2
    go_ret
    exact told_mk (by simp) HB.out
end
end Go.Proofs.Ytmiapegecoaccaa
