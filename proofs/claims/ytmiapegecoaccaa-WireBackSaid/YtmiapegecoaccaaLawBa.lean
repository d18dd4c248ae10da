/- WireBack's walk. -/
import Derived.Test.YtmiapegecoaccaaLawA
namespace Go.Proofs.Ytmiapegecoaccaa
open Go.RowKit Go.Coop
set_option maxRecDepth 100000
set_option linter.unusedVariables false
theorem unsl_ok {t : Nat → Nat} {l : List UInt8} (h : (unsl t l).2 = 0) : l = sealed t (unsl t l).1 := by
  unfold unsl unsealed at h ⊢
  split
  · rename_i h1; rw [if_pos h1] at h; cases h
  · rename_i h1
    rw [if_neg h1] at h
    split
    · rename_i h2; exact h2.symm
    · rename_i h2; rw [if_neg h2] at h; cases h
/-- what bytes may be: an ask, a tell, or neither -/
theorem back_cases (l : List UInt8) : (∃ a, RightA a ∧ l = sealed entry (encA a) ∧ getA entry l = (a, 0) ∧ getT entry l = (zeroT, 110)) ∨ (∃ x, RightT x ∧ l = sealed entry (encT x) ∧ getA entry l = (zeroA, 110) ∧ getT entry l = (x, 0)) ∨ (∃ e1 e2 : Int, e1 ≠ 0 ∧ e2 ≠ 0 ∧ getA entry l = (zeroA, e1) ∧ getT entry l = (zeroT, e2)) := by
  by_cases h : (unsl entry l).2 = 0
  · have hl := unsl_ok h
    cases hA : parseA (unsl entry l).1 with
    | some a =>
      obtain ⟨h1, h2⟩ := parseA_back hA
      refine .inl ⟨a, h1, by rw [h2]; exact hl, ?_, ?_⟩
      · unfold getA; rw [if_pos h, hA]; rfl
      · unfold getT; rw [if_pos h, ← h2, parseT_enA]; rfl
    | none =>
      cases hT : parseT (unsl entry l).1 with
      | some x =>
        obtain ⟨h1, h2⟩ := parseT_back hT
        refine .inr (.inl ⟨x, h1, by rw [h2]; exact hl, ?_, ?_⟩)
        · unfold getA; rw [if_pos h, hA]; rfl
        · unfold getT; rw [if_pos h, hT]; rfl
      | none =>
        refine .inr (.inr ⟨110, 110, by omega, by omega, ?_, ?_⟩)
        · unfold getA; rw [if_pos h, hA]; rfl
        · unfold getT; rw [if_pos h, hT]; rfl
  · refine .inr (.inr ⟨(unsl entry l).2, (unsl entry l).2, by omega, by omega, ?_, ?_⟩)
    · unfold getA; rw [if_neg h]
    · unfold getT; rw [if_neg h]
section
variable (w : World)
set_option maxHeartbeats 16000000 in
theorem back_law {lx sx ox stx ix vex tlz tsz toz tez trz : Int} {Ax Iz Bz X : Option Addr} {nx cx imz mcz kz dz xn xc : Nat} {bsx tbz bs : List UInt8} {Lz : List InfP}
    (hrx : Rd w Ax nx bsx) (hIz : IL w Iz imz Lz) (hBz : Rd w Bz kz tbz) (hX : Rd w X xn bs) (hxc : xn ≤ xc) :
    Calls Try.prog 5 #[.agg #[.int .i64 lx, .int .i64 sx, .int .u8 ox, .int .i64 stx, .int .i64 ix, .int .i64 vex, .slice Ax nx cx], .agg #[.int .i64 tlz, .int .i64 tsz, .int .u8 toz, .int .i64 tez, .slice Iz imz mcz, .slice Bz kz dz, .int .i64 trz], .slice X xn xc] w (Told w true) := by
  have HK := Lib.hid (Keep.start w)
  replace HK := Lib.hid (HK.out.read (hrx))
  replace HK := Lib.hid (HK.out.read (hBz))
  replace HK := Lib.hid (HK.out.read (hX))
  replace HK := Lib.hid (HK.out.il (hIz))
  have lenx := hrx.len
  have lenb := hX.len
  clear hrx hIz hBz hX
  obtain ⟨g, hg⟩ : ∃ g, w.heap.size = g := ⟨_, rfl⟩
  obtain ⟨w2, e⟩ : ∃ x, w.alloc (.cells #[.int .i64 lx, .int .i64 sx, .int .u8 ox, .int .i64 stx, .int .i64 ix, .int .i64 vex, .slice Ax nx cx] 25) = x := ⟨_, rfl⟩
  obtain ⟨hW, hx⟩ := box_new e
  rw [hg] at hx
  have Ew2 := Lib.hid e
  have Sw2 := size_of_alloc e
  clear e
  replace hx := Lib.hid hx
  replace HK := Lib.hid (HK.out.below hW (Nat.le_refl _))
  have HB := Lib.hid hW
  clear hW
  replace HK := Lib.hid (HK.out.row (show Row w2 (g) #[.int .i64 lx, .int .i64 sx, .int .u8 ox, .int .i64 stx, .int .i64 ix, .int .i64 vex, .slice Ax nx cx] 25 from hx.out))
  clear hx
  have z1 : w2.heap.size = g + 1 := by rw [Sw2, hg]
  clear Sw2
  obtain ⟨w3, e⟩ : ∃ x, w2.alloc (.cells #[.int .i64 tlz, .int .i64 tsz, .int .u8 toz, .int .i64 tez, .slice Iz imz mcz, .slice Bz kz dz, .int .i64 trz] 34) = x := ⟨_, rfl⟩
  obtain ⟨hW, hx⟩ := box_new e
  rw [z1] at hx
  have Ew3 := Lib.hid e
  clear e
  replace hx := Lib.hid hx
  replace HK := Lib.hid (HK.out.below hW (Nat.le_refl _))
  replace HB := Lib.hid (HB.out.trans (hW.mono HB.out.size))
  clear hW
  replace HK := Lib.hid (HK.out.row (show Row w3 (g + 1) #[.int .i64 tlz, .int .i64 tsz, .int .u8 toz, .int .i64 tez, .slice Iz imz mcz, .slice Bz kz dz, .int .i64 trz] 34 from hx.out))
  clear hx
  clear z1
  by_cases q1 : nx ≤ 500 ∧ kz ≤ 500 ∧ imz ≤ 60 ∧ xn ≤ 1000
  · by_cases HRx : RightA ⟨lx, sx, ox, stx, ix, vex, bsx⟩
    · have kRx := Lib.hid (decide_eq_true HRx)
      replace HRx := Lib.hid HRx
      by_cases HRz : RightT ⟨tlz, tsz, toz, tez, Lz, tbz, trz⟩
      · have kRz := Lib.hid (decide_eq_true HRz)
        replace HRz := Lib.hid HRz
        have hs1 := q1
        have q1 := Lib.hid (decide_eq_true q1)
        obtain ⟨Z, hZs, hz⟩ := zero39
        have HZ := Lib.hid hZs
        clear hZs
        have hz25 := (zero_of_info zero25).1
        have hz34 := (zero_of_info zero34).1
        go_enter Try.func5, Try.ntmps5
        obtain ⟨a0, a1, a2, a3, a4, a5, a6⟩ := arr7 (w := (World.alloc (World.alloc w (.cells #[.int .i64 lx, .int .i64 sx, .int .u8 ox, .int .i64 stx, .int .i64 ix, .int .i64 vex, .slice Ax nx cx] 25)) (.cells #[.int .i64 tlz, .int .i64 tsz, .int .u8 toz, .int .i64 tez, .slice Iz imz mcz, .slice Bz kz dz, .int .i64 trz] 34))) (by rw [Ew2.out, Ew3.out]; exact (HK.out.rows _ (.tail _ (.head _))))
        obtain ⟨b0, b1, b2, b3, b4, b5, b6⟩ := arr7 (w := (World.alloc (World.alloc w (.cells #[.int .i64 lx, .int .i64 sx, .int .u8 ox, .int .i64 stx, .int .i64 ix, .int .i64 vex, .slice Ax nx cx] 25)) (.cells #[.int .i64 tlz, .int .i64 tsz, .int .u8 toz, .int .i64 tez, .slice Iz imz mcz, .slice Bz kz dz, .int .i64 trz] 34))) (by rw [Ew2.out, Ew3.out]; exact (HK.out.rows _ (.head _)))
        go_wp2_with fail
        rw [Ew2.out]
        rw [Ew3.out]
        clear Ew2 Ew3
        refine (small_is w3 lx sx ox stx ix vex tlz tsz toz tez trz q1.out).mono ?_
        rintro e w4 ⟨rfl, hb⟩
        have hW : Below w3.heap.size w3 w4 := hb
        replace HK := Lib.hid (HK.out.below hW (Nat.le_refl _))
        replace HB := Lib.hid (HB.out.trans (hW.mono HB.out.size))
        clear hW
        clear a0 a1 a2 a3 a4 a5 a6 b0 b1 b2 b3 b4 b5 b6 hb
        have hA4 : ∀ u, Below w4.heap.size w4 u → Row u g #[.int .i64 lx, .int .i64 sx, .int .u8 ox, .int .i64 stx, .int .i64 ix, .int .i64 vex, .slice Ax nx cx] 25 := fun u hu => (HK.out.rows _ (.tail _ (.head _))).below hu (Nat.le_refl _)
        go_upto_region 4 with (first
          | (go_at_call 12; refine (table_any _).mono ?_; rintro e w1 ⟨rfl, hb1⟩; rw [show tarr ((List.range 256).map entry) = T0 from rfl])
          | ((with_reducible refine wpList_store_new (o := ⟨none, .store 39 (.tmp 7) (.tmp 36), _, _, _, _⟩) ?_ 39 (.tmp 7) (.tmp 36) ?_ T0 Z ?_ ?_ 39 size39' HZ.out T0_one ?_)
             case refine_1 => rfl
             case refine_2 => rfl
             case refine_3 => rfl
             case refine_4 => rfl))
        have hW : Below w4.heap.size w4 w1 := hb1
        clear hb1 hz hA4
        replace HK := Lib.hid (HK.out.below hW (Nat.le_refl _))
        replace HB := Lib.hid (HB.out.trans (hW.mono HB.out.size))
        clear hW
        obtain ⟨p, hp⟩ : ∃ p, w1.heap.size = p := ⟨_, rfl⟩
        obtain ⟨wT, e⟩ : ∃ x, w1.alloc (.cells T0 39) = x := ⟨_, rfl⟩
        obtain ⟨hW, hx⟩ := box_new e
        rw [hp] at hx
        have EwT := Lib.hid e
        clear e
        replace hx := Lib.hid hx
        replace HK := Lib.hid (HK.out.below hW (Nat.le_refl _))
        replace HB := Lib.hid (HB.out.trans (hW.mono HB.out.size))
        clear hW
        clear hx
        have hTb : Tb wT p entry := by rw [← EwT.out, ← hp]; exact ⟨tab_new w1 (0, 0), by rw [size_alloc]; simp⟩
        replace HK := Lib.hid (HK.out.tab (hTb))
        clear hTb
        rw [EwT.out]
        clear EwT
        (try rw [hp])
        obtain ⟨a0, a1, a2, a3, a4, a5, a6⟩ := arr7 (w := wT) (by exact (HK.out.rows _ (.tail _ (.head _))))
        have HPx := Lib.hid (show putA entry ⟨lx, sx, ox, stx, ix, vex, bsx⟩ = (sealed entry (encA ⟨lx, sx, ox, stx, ix, vex, bsx⟩), 0) by unfold putA; rw [if_pos HRx.out])
        have HPz := Lib.hid (show putT entry ⟨tlz, tsz, toz, tez, Lz, tbz, trz⟩ = (sealed entry (encT ⟨tlz, tsz, toz, tez, Lz, tbz, trz⟩), 0) by unfold putT; rw [if_pos HRz.out])
        go_wp2_with fail
        refine (putA_is wT (HK.out.tabs _ (.head _)).1 (HK.out.tabs _ (.head _)).2 lx sx ox stx ix vex bsx (HK.out.reads _ (.tail _ (.tail _ (.head _)))) (show nx ≤ 1000000 by omega)).mono ?_
        rintro e w6 ⟨C, cn, cc, rfl, hoc, hb⟩
        rw [HPx.out] at hoc ⊢
        simp only at hoc ⊢
        clear a0 a1 a2 a3 a4 a5 a6
        have hW : Below wT.heap.size wT w6 := hb
        replace HK := Lib.hid (HK.out.below hW (Nat.le_refl _))
        replace HB := Lib.hid (HB.out.trans (hW.mono HB.out.size))
        clear hW
        replace HK := Lib.hid (HK.out.read (hoc.rd))
        have hcC := hoc.cap
        have hlC := hoc.len
        clear hoc hb
        obtain ⟨a0, a1, a2, a3, a4, a5, a6⟩ := arr7 (w := w6) (by exact (HK.out.rows _ (.head _)))
        go_wp2_with fail
        refine (putT_is w6 (HK.out.tabs _ (.head _)).1 (HK.out.tabs _ (.head _)).2 tlz tsz toz tez trz (HK.out.ils _ (.head _)) (show imz ≤ 1000000 by omega) tbz (HK.out.reads _ (.tail _ (.tail _ (.head _)))) (show kz ≤ 1000000 by omega)).mono ?_
        rintro e w7 ⟨D, dn, dc, rfl, hod, hb⟩
        rw [HPz.out] at hod ⊢
        simp only at hod ⊢
        clear a0 a1 a2 a3 a4 a5 a6
        have hW : Below w6.heap.size w6 w7 := hb
        replace HK := Lib.hid (HK.out.below hW (Nat.le_refl _))
        replace HB := Lib.hid (HB.out.trans (hW.mono HB.out.size))
        clear hW
        replace HK := Lib.hid (HK.out.read (hod.rd))
        have hcD := hod.cap
        have hlD := hod.len
        clear hod hb
        have szC : cn ≤ 1000000 := by have := encA_len ⟨lx, sx, ox, stx, ix, vex, bsx⟩; rw [sealed_length] at hlC; simp only at this; omega
        have szD : dn ≤ 1000000 := by have := encT_len ⟨tlz, tsz, toz, tez, Lz, tbz, trz⟩; have h2 := HRz.out.2.2.2.2.1; have h3 := HRz.out.2.2.2.2.2.1; rw [sealed_length] at hlD; simp only at this h2 h3; omega
        clear hlC hlD
        obtain ⟨a0, a1, a2, a3, a4, a5, a6⟩ := arr7 (w := w7) (by exact (HK.out.rows _ (.tail _ (.head _))))
        go_wp2_with fail
        refine (rightA_is w7 lx sx ox stx ix vex bsx Ax nx cx lenx kRx.out).mono ?_
        rintro e w8 ⟨rfl, hb⟩
        have hW : Below w7.heap.size w7 w8 := hb
        replace HK := Lib.hid (HK.out.below hW (Nat.le_refl _))
        replace HB := Lib.hid (HB.out.trans (hW.mono HB.out.size))
        clear hW
        clear a0 a1 a2 a3 a4 a5 a6 hb
        obtain ⟨a0, a1, a2, a3, a4, a5, a6⟩ := arr7 (w := w8) (by exact (HK.out.rows _ (.head _)))
        go_wp2_with fail
        refine (rightT_is w8 tlz tsz toz tez trz (HK.out.ils _ (.head _)) (show imz ≤ 1000000 by omega) Bz kz dz tbz (HK.out.reads _ (.tail _ (.tail _ (.tail _ (.head _))))).len kRz.out).mono ?_
        rintro e w9 ⟨rfl, hb⟩
        have hW : Below w8.heap.size w8 w9 := hb
        replace HK := Lib.hid (HK.out.below hW (Nat.le_refl _))
        replace HB := Lib.hid (HB.out.trans (hW.mono HB.out.size))
        clear hW
        clear a0 a1 a2 a3 a4 a5 a6 hb
        go_wp2_with fail
        refine (getA_is w9 (HK.out.tabs _ (.head _)).1 (HK.out.tabs _ (.head _)).2 (HK.out.reads _ (.tail _ (.head _))) szC hcC).mono ?_
        rintro e v1 ⟨A4, n4, c4, rfl, ho4, hb⟩
        rw [getA_put HRx.out] at ho4 ⊢
        simp only at ho4 ⊢
        have hW : Below w9.heap.size w9 v1 := hb
        replace HK := Lib.hid (HK.out.below hW (Nat.le_refl _))
        replace HB := Lib.hid (HB.out.trans (hW.mono HB.out.size))
        clear hW
        replace HK := Lib.hid (HK.out.read (ho4.rd))
        clear ho4 hb
        obtain ⟨g_v2, h_v2⟩ : ∃ g, v1.heap.size = g := ⟨_, rfl⟩
        obtain ⟨v2, e⟩ : ∃ x, v1.alloc (.cells #[.int .i64 lx, .int .i64 sx, .int .u8 ox, .int .i64 stx, .int .i64 ix, .int .i64 vex, .slice A4 n4 c4] 25) = x := ⟨_, rfl⟩
        obtain ⟨hW, hx⟩ := box_new e
        rw [h_v2] at hx
        have Ev2 := Lib.hid e
        clear e
        replace hx := Lib.hid hx
        replace HK := Lib.hid (HK.out.below hW (Nat.le_refl _))
        replace HB := Lib.hid (HB.out.trans (hW.mono HB.out.size))
        clear hW
        replace HK := Lib.hid (HK.out.row (show Row v2 (g_v2) #[.int .i64 lx, .int .i64 sx, .int .u8 ox, .int .i64 stx, .int .i64 ix, .int .i64 vex, .slice A4 n4 c4] 25 from hx.out))
        clear hx
        go_wp2_with fail
        rw [Ev2.out]
        clear Ev2
        refine (getT_is v2 (HK.out.tabs _ (.head _)).1 (HK.out.tabs _ (.head _)).2 (HK.out.reads _ (.tail _ (.tail _ (.head _)))) szC hcC).mono ?_
        rintro e v3 ⟨I6, m6, mc6, A6, n6, c6, rfl, hi6, hm6, ho6, hb⟩
        rw [getT_putA] at hi6 ho6 ⊢
        simp only [zeroT] at hi6 ho6 ⊢
        have hW : Below v2.heap.size v2 v3 := hb
        replace HK := Lib.hid (HK.out.below hW (Nat.le_refl _))
        replace HB := Lib.hid (HB.out.trans (hW.mono HB.out.size))
        clear hW
        clear hi6 hm6 ho6 hb
        obtain ⟨g_v4, h_v4⟩ : ∃ g, v3.heap.size = g := ⟨_, rfl⟩
        obtain ⟨v4, e⟩ : ∃ x, v3.alloc (.cells #[.int .i64 0, .int .i64 0, .int .u8 0, .int .i64 0, .slice I6 m6 mc6, .slice A6 n6 c6, .int .i64 0] 34) = x := ⟨_, rfl⟩
        obtain ⟨hW, hx⟩ := box_new e
        rw [h_v4] at hx
        have Ev4 := Lib.hid e
        clear e
        replace hx := Lib.hid hx
        replace HK := Lib.hid (HK.out.below hW (Nat.le_refl _))
        replace HB := Lib.hid (HB.out.trans (hW.mono HB.out.size))
        clear hW
        clear hx
        obtain ⟨a0, a1, a2, a3, a4, a5, a6⟩ := arr7 (w := (World.alloc v3 (.cells #[.int .i64 0, .int .i64 0, .int .u8 0, .int .i64 0, .slice I6 m6 mc6, .slice A6 n6 c6, .int .i64 0] 34))) (by rw [Ev4.out]; exact (HK.out.rows _ (.tail _ (.tail _ (.head _)))))
        obtain ⟨b0, b1, b2, b3, b4, b5, b6⟩ := arr7 (w := (World.alloc v3 (.cells #[.int .i64 0, .int .i64 0, .int .u8 0, .int .i64 0, .slice I6 m6 mc6, .slice A6 n6 c6, .int .i64 0] 34))) (by rw [Ev4.out]; exact (HK.out.rows _ (.head _)))
        go_wp2_with fail
        rw [Ev4.out]
        clear Ev4
        refine (sameA_is v4 lx sx ox stx ix vex lx sx ox stx ix vex bsx bsx (HK.out.reads _ (.head _)) (HK.out.reads _ (.tail _ (.tail _ (.tail _ (.tail _ (.tail _ (.head _))))))) (q := true) (by simp)).mono ?_
        rintro e v5 ⟨rfl, hb⟩
        have hW : Below v4.heap.size v4 v5 := hb
        replace HK := Lib.hid (HK.out.below hW (Nat.le_refl _))
        replace HB := Lib.hid (HB.out.trans (hW.mono HB.out.size))
        clear hW
        clear a0 a1 a2 a3 a4 a5 a6 b0 b1 b2 b3 b4 b5 b6 hb
        go_wp2_with fail
        refine (getT_is v5 (HK.out.tabs _ (.head _)).1 (HK.out.tabs _ (.head _)).2 (HK.out.reads _ (.tail _ (.head _))) szD hcD).mono ?_
        rintro e x1 ⟨I7, m7, mc7, A7, n7, c7, rfl, hi7, hm7, ho7, hb⟩
        rw [getT_put HRz.out] at hi7 ho7 ⊢
        simp only at hi7 ho7 ⊢
        have hW : Below v5.heap.size v5 x1 := hb
        replace HK := Lib.hid (HK.out.below hW (Nat.le_refl _))
        replace HB := Lib.hid (HB.out.trans (hW.mono HB.out.size))
        clear hW
        replace HK := Lib.hid (HK.out.read (ho7.rd))
        replace HK := Lib.hid (HK.out.il (ownK_il hi7))
        have hm7b := hm7
        clear ho7 hi7 hm7 hb
        obtain ⟨g_x2, h_x2⟩ : ∃ g, x1.heap.size = g := ⟨_, rfl⟩
        obtain ⟨x2, e⟩ : ∃ x, x1.alloc (.cells #[.int .i64 tlz, .int .i64 tsz, .int .u8 toz, .int .i64 tez, .slice I7 m7 mc7, .slice A7 n7 c7, .int .i64 trz] 34) = x := ⟨_, rfl⟩
        obtain ⟨hW, hx⟩ := box_new e
        rw [h_x2] at hx
        have Ex2 := Lib.hid e
        clear e
        replace hx := Lib.hid hx
        replace HK := Lib.hid (HK.out.below hW (Nat.le_refl _))
        replace HB := Lib.hid (HB.out.trans (hW.mono HB.out.size))
        clear hW
        replace HK := Lib.hid (HK.out.row (show Row x2 (g_x2) #[.int .i64 tlz, .int .i64 tsz, .int .u8 toz, .int .i64 tez, .slice I7 m7 mc7, .slice A7 n7 c7, .int .i64 trz] 34 from hx.out))
        clear hx
        go_wp2_with fail
        rw [Ex2.out]
        clear Ex2
        refine (getA_is x2 (HK.out.tabs _ (.head _)).1 (HK.out.tabs _ (.head _)).2 (HK.out.reads _ (.tail _ (.tail _ (.head _)))) szD hcD).mono ?_
        rintro e x3 ⟨A8, n8, c8, rfl, ho8, hb⟩
        rw [getA_putT] at ho8 ⊢
        simp only [zeroA] at ho8 ⊢
        have hW : Below x2.heap.size x2 x3 := hb
        replace HK := Lib.hid (HK.out.below hW (Nat.le_refl _))
        replace HB := Lib.hid (HB.out.trans (hW.mono HB.out.size))
        clear hW
        clear ho8 hb
        obtain ⟨g_x4, h_x4⟩ : ∃ g, x3.heap.size = g := ⟨_, rfl⟩
        obtain ⟨x4, e⟩ : ∃ x, x3.alloc (.cells #[.int .i64 0, .int .i64 0, .int .u8 0, .int .i64 0, .int .i64 0, .int .i64 0, .slice A8 n8 c8] 25) = x := ⟨_, rfl⟩
        obtain ⟨hW, hx⟩ := box_new e
        rw [h_x4] at hx
        have Ex4 := Lib.hid e
        clear e
        replace hx := Lib.hid hx
        replace HK := Lib.hid (HK.out.below hW (Nat.le_refl _))
        replace HB := Lib.hid (HB.out.trans (hW.mono HB.out.size))
        clear hW
        clear hx
        obtain ⟨a0, a1, a2, a3, a4, a5, a6⟩ := arr7 (w := (World.alloc x3 (.cells #[.int .i64 0, .int .i64 0, .int .u8 0, .int .i64 0, .int .i64 0, .int .i64 0, .slice A8 n8 c8] 25))) (by rw [Ex4.out]; exact (HK.out.rows _ (.tail _ (.tail _ (.head _)))))
        obtain ⟨b0, b1, b2, b3, b4, b5, b6⟩ := arr7 (w := (World.alloc x3 (.cells #[.int .i64 0, .int .i64 0, .int .u8 0, .int .i64 0, .int .i64 0, .int .i64 0, .slice A8 n8 c8] 25))) (by rw [Ex4.out]; exact (HK.out.rows _ (.head _)))
        go_wp2_with fail
        rw [Ex4.out]
        clear Ex4
        refine (sameT_is x4 tlz tsz toz tez trz tlz tsz toz tez trz Lz Lz tbz tbz (HK.out.ils _ (.head _)) (HK.out.ils _ (.tail _ (.head _))) (show m7 ≤ 1000000 by omega) (HK.out.reads _ (.head _)) (HK.out.reads _ (.tail _ (.tail _ (.tail _ (.tail _ (.tail _ (.head _))))))) (q := true) (by simp)).mono ?_
        rintro e x5 ⟨rfl, hb⟩
        have hW : Below x4.heap.size x4 x5 := hb
        replace HK := Lib.hid (HK.out.below hW (Nat.le_refl _))
        replace HB := Lib.hid (HB.out.trans (hW.mono HB.out.size))
        clear hW
        clear a0 a1 a2 a3 a4 a5 a6 b0 b1 b2 b3 b4 b5 b6 hb
        go_wp2_with fail
        refine (seal_any ⟨p, 0, none⟩ entry X xn xc bs x5 (HK.out.tabs _ (.head _)).1 (HK.out.reads _ (.tail _ (.tail _ (.tail _ (.tail _ (.head _)))))) (show xn ≤ 70368744177664 by omega)).mono ?_
        rintro e y1 ⟨S, sc, rfl, hos, hb⟩
        have hW : Below x5.heap.size x5 y1 := hb
        replace HK := Lib.hid (HK.out.below hW (Nat.le_refl _))
        replace HB := Lib.hid (HB.out.trans (hW.mono HB.out.size))
        clear hW
        replace HK := Lib.hid (HK.out.read (hos.rd))
        have hcS := hos.cap
        clear hos hb
        obtain ⟨g_y2, h_y2⟩ : ∃ g, y1.heap.size = g := ⟨_, rfl⟩
        obtain ⟨y2, e⟩ : ∃ x, y1.alloc (.cells #[.slice X xn xc, .slice S (xn + 4) sc] 23) = x := ⟨_, rfl⟩
        obtain ⟨hW, hx⟩ := box_new e
        rw [h_y2] at hx
        have Ey2 := Lib.hid e
        clear e
        replace hx := Lib.hid hx
        replace HK := Lib.hid (HK.out.below hW (Nat.le_refl _))
        replace HB := Lib.hid (HB.out.trans (hW.mono HB.out.size))
        clear hW
        replace HK := Lib.hid (HK.out.row (show Row y2 (g_y2) #[.slice X xn xc, .slice S (xn + 4) sc] 23 from hx.out))
        clear hx
        go_wp2
        rw [Ey2.out]
        clear Ey2
        have hrel0 := Lib.hid (And.intro HK.out HB.out)
        go_loopw [21, 22, 23, 24, 25, 26, 27, 28, 29, 112] (fun _ _ _ _ _ _ _ _ _ s112 wr => ∃ j : Nat, j ≤ 2 ∧ s112 = .int .i64 (j : Int) ∧ Hid (Keep wr [(g_y2, #[.slice X xn xc, .slice S (xn + 4) sc], 23), (g_x2, #[.int .i64 tlz, .int .i64 tsz, .int .u8 toz, .int .i64 tez, .slice I7 m7 mc7, .slice A7 n7 c7, .int .i64 trz], 34), (g_v2, #[.int .i64 lx, .int .i64 sx, .int .u8 ox, .int .i64 stx, .int .i64 ix, .int .i64 vex, .slice A4 n4 c4], 25), (g + 1, #[.int .i64 tlz, .int .i64 tsz, .int .u8 toz, .int .i64 tez, .slice Iz imz mcz, .slice Bz kz dz, .int .i64 trz], 34), (g, #[.int .i64 lx, .int .i64 sx, .int .u8 ox, .int .i64 stx, .int .i64 ix, .int .i64 vex, .slice Ax nx cx], 25)] [(S, xn + 4, sealed entry bs), (A7, n7, tbz), (A4, n4, bsx), (D, dn, sealed entry (encT ⟨tlz, tsz, toz, tez, Lz, tbz, trz⟩)), (C, cn, sealed entry (encA ⟨lx, sx, ox, stx, ix, vex, bsx⟩)), (X, xn, bs), (Bz, kz, tbz), (Ax, nx, bsx)] [(I7, m7, Lz), (Iz, imz, Lz)] [(p, entry)] ∧ Below w.heap.size w wr)) (fun _ _ _ _ _ _ _ _ _ s112 _ => 2 - (Go.RowKit.intOf s112).toNat)
        case atStart => exact ⟨0, by omega, rfl, hrel0.out⟩
        case round =>
          obtain ⟨j, hj, rfl, HR⟩ := hrel
          clear HK HB hrel0
          have HK := Lib.hid HR.out.1
          have HB := Lib.hid HR.out.2
          clear HR
          by_cases hlt : j < 2
          · obtain ⟨Y, yn, yc, ybs, hcell, hRd, hyc, hyn⟩ : ∃ (Y : Option Addr) (yn yc : Nat) (ybs : List UInt8), wr.cell? ⟨g_y2, j, none⟩ = some (.slice Y yn yc) ∧ Rd wr Y yn ybs ∧ yn ≤ yc ∧ yn ≤ 1004 := by
              rcases (show j = 0 ∨ j = 1 by omega) with rfl | rfl
              · exact ⟨X, xn, xc, bs, cell_of_row wr g_y2 0 _ 23 (0, 0) (HK.out.rows _ (.head _)), (HK.out.reads _ (.tail _ (.tail _ (.tail _ (.tail _ (.tail _ (.head _))))))), hxc, by omega⟩
              · exact ⟨S, xn + 4, sc, sealed entry bs, cell_of_row wr g_y2 1 _ 23 (0, 0) (HK.out.rows _ (.head _)), (HK.out.reads _ (.head _)), hcS, by omega⟩
            have hi1 : (0 : Int) ≤ (j : Int) := by omega
            have hi2 : (j : Int) < 2 := by omega
            have hwk : IntKind.i64.wrap ((j : Int) + 1) = (j : Int) + 1 := IntWalk.i64_in _ (by omega)
            have HJ := Lib.hid hlt
            clear hlt
            replace HK := Lib.hid (HK.out.read (hRd))
            clear hRd
            rcases back_cases ybs with hcs | hcs | hcs
            · obtain ⟨a, hRa, hyl, hgA, hgT⟩ := hcs
              have HRa := Lib.hid (And.intro hRa hyl)
              clear hRa hyl
              have HG := Lib.hid (And.intro hgA hgT)
              clear hgA hgT
              obtain ⟨al, asq, ao, ast, ai, av, ab⟩ := a
              go_wp2_with fail
              refine (getA_is wr (HK.out.tabs _ (.head _)).1 (HK.out.tabs _ (.head _)).2 (HK.out.reads _ (.head _)) (show yn ≤ 1000000 by omega) hyc).mono ?_
              rintro e u1 ⟨A14, n14, c14, rfl, ho4, hb⟩
              rw [HG.out.1] at ho4 ⊢
              simp only at ho4 ⊢
              have hW : Below wr.heap.size wr u1 := hb
              replace HK := Lib.hid (HK.out.below hW (Nat.le_refl _))
              replace HB := Lib.hid (HB.out.trans (hW.mono HB.out.size))
              clear hW
              replace HK := Lib.hid (HK.out.read (ho4.rd))
              have sz4 : n14 ≤ 1000000 := by have h1 := ho4.len; have h2 := HRa.out.1.2.2; unfold mostB at h2; simp only at h2; split at h2 <;> omega
              clear ho4 hb
              obtain ⟨g_u2, h_u2⟩ : ∃ g, u1.heap.size = g := ⟨_, rfl⟩
              obtain ⟨u2, e⟩ : ∃ x, u1.alloc (.cells #[.int .i64 al, .int .i64 asq, .int .u8 ao, .int .i64 ast, .int .i64 ai, .int .i64 av, .slice A14 n14 c14] 25) = x := ⟨_, rfl⟩
              obtain ⟨hW, hx⟩ := box_new e
              rw [h_u2] at hx
              have Eu2 := Lib.hid e
              clear e
              replace hx := Lib.hid hx
              replace HK := Lib.hid (HK.out.below hW (Nat.le_refl _))
              replace HB := Lib.hid (HB.out.trans (hW.mono HB.out.size))
              clear hW
              replace HK := Lib.hid (HK.out.row (show Row u2 (g_u2) #[.int .i64 al, .int .i64 asq, .int .u8 ao, .int .i64 ast, .int .i64 ai, .int .i64 av, .slice A14 n14 c14] 25 from hx.out))
              clear hx
              obtain ⟨a0, a1, a2, a3, a4, a5, a6⟩ := arr7 (w := (World.alloc u1 (.cells #[.int .i64 al, .int .i64 asq, .int .u8 ao, .int .i64 ast, .int .i64 ai, .int .i64 av, .slice A14 n14 c14] 25))) (by rw [Eu2.out]; exact (HK.out.rows _ (.head _)))
              go_wp2_with fail
              rw [Eu2.out]
              clear Eu2
              refine (putA_is u2 (HK.out.tabs _ (.head _)).1 (HK.out.tabs _ (.head _)).2 al asq ao ast ai av ab (HK.out.reads _ (.head _)) sz4).mono ?_
              rintro e u3 ⟨P, pn, pc, rfl, hop, hb⟩
              rw [show putA entry ⟨al, asq, ao, ast, ai, av, ab⟩ = (ybs, 0) by unfold putA; rw [if_pos HRa.out.1, ← HRa.out.2]] at hop ⊢
              simp only at hop ⊢
              clear a0 a1 a2 a3 a4 a5 a6
              have hW : Below u2.heap.size u2 u3 := hb
              replace HK := Lib.hid (HK.out.below hW (Nat.le_refl _))
              replace HB := Lib.hid (HB.out.trans (hW.mono HB.out.size))
              clear hW
              have hopr := hop.rd
              clear hop hb
              go_wp2_with fail
              refine (sameB_is u3 hopr (HK.out.reads _ (.tail _ (.head _))) (q := true) (by simp)).mono ?_
              rintro e _ ⟨rfl, rfl⟩
              clear hopr
              go_wp2_with fail
              refine (getT_is u3 (HK.out.tabs _ (.head _)).1 (HK.out.tabs _ (.head _)).2 (HK.out.reads _ (.tail _ (.head _))) (show yn ≤ 1000000 by omega) hyc).mono ?_
              rintro e u4 ⟨I16, m16, mc16, A16, n16, c16, rfl, hi6, hm6, ho6, hb⟩
              rw [HG.out.2] at hi6 ho6 ⊢
              simp only [zeroT] at hi6 ho6 ⊢
              have hW : Below u3.heap.size u3 u4 := hb
              replace HK := Lib.hid (HK.out.below hW (Nat.le_refl _))
              replace HB := Lib.hid (HB.out.trans (hW.mono HB.out.size))
              clear hW
              clear ho6 hi6 hb
              obtain ⟨g_u5, h_u5⟩ : ∃ g, u4.heap.size = g := ⟨_, rfl⟩
              obtain ⟨u5, e⟩ : ∃ x, u4.alloc (.cells #[.int .i64 0, .int .i64 0, .int .u8 0, .int .i64 0, .slice I16 m16 mc16, .slice A16 n16 c16, .int .i64 0] 34) = x := ⟨_, rfl⟩
              obtain ⟨hW, hx⟩ := box_new e
              rw [h_u5] at hx
              have Eu5 := Lib.hid e
              clear e
              replace hx := Lib.hid hx
              replace HK := Lib.hid (HK.out.below hW (Nat.le_refl _))
              replace HB := Lib.hid (HB.out.trans (hW.mono HB.out.size))
              clear hW
              replace HK := Lib.hid (HK.out.row (show Row u5 (g_u5) #[.int .i64 0, .int .i64 0, .int .u8 0, .int .i64 0, .slice I16 m16 mc16, .slice A16 n16 c16, .int .i64 0] 34 from hx.out))
              clear hx
              go_wp2
              rw [Eu5.out]
              clear Eu5
              have KL := Lib.hid (show Keep u5 [(g_y2, #[.slice X xn xc, .slice S (xn + 4) sc], 23), (g_x2, #[.int .i64 tlz, .int .i64 tsz, .int .u8 toz, .int .i64 tez, .slice I7 m7 mc7, .slice A7 n7 c7, .int .i64 trz], 34), (g_v2, #[.int .i64 lx, .int .i64 sx, .int .u8 ox, .int .i64 stx, .int .i64 ix, .int .i64 vex, .slice A4 n4 c4], 25), (g + 1, #[.int .i64 tlz, .int .i64 tsz, .int .u8 toz, .int .i64 tez, .slice Iz imz mcz, .slice Bz kz dz, .int .i64 trz], 34), (g, #[.int .i64 lx, .int .i64 sx, .int .u8 ox, .int .i64 stx, .int .i64 ix, .int .i64 vex, .slice Ax nx cx], 25)] [(S, xn + 4, sealed entry bs), (A7, n7, tbz), (A4, n4, bsx), (D, dn, sealed entry (encT ⟨tlz, tsz, toz, tez, Lz, tbz, trz⟩)), (C, cn, sealed entry (encA ⟨lx, sx, ox, stx, ix, vex, bsx⟩)), (X, xn, bs), (Bz, kz, tbz), (Ax, nx, bsx)] [(I7, m7, Lz), (Iz, imz, Lz)] [(p, entry)] from ⟨fun q hq => HK.out.rows q (.tail _ (.tail _ hq)), fun q hq => HK.out.reads q (.tail _ (.tail _ hq)), fun q hq => HK.out.ils q hq, HK.out.tabs⟩)
              go_roundw
              case rel => exact ⟨j + 1, by have := HJ.out; omega, by go_num, (⟨KL.out, HB.out⟩ : _ ∧ _)⟩
              case measure => have := HJ.out; simp [Go.RowKit.intOf]; omega
            · obtain ⟨a, hRa, hyl, hgA, hgT⟩ := hcs
              have HRa := Lib.hid (And.intro hRa hyl)
              clear hRa hyl
              have HG := Lib.hid (And.intro hgA hgT)
              clear hgA hgT
              obtain ⟨al, asq, ao, ae, aL, ab, ar⟩ := a
              go_wp2_with fail
              refine (getA_is wr (HK.out.tabs _ (.head _)).1 (HK.out.tabs _ (.head _)).2 (HK.out.reads _ (.head _)) (show yn ≤ 1000000 by omega) hyc).mono ?_
              rintro e u1 ⟨A14, n14, c14, rfl, ho4, hb⟩
              rw [HG.out.1] at ho4 ⊢
              simp only [zeroA] at ho4 ⊢
              have hW : Below wr.heap.size wr u1 := hb
              replace HK := Lib.hid (HK.out.below hW (Nat.le_refl _))
              replace HB := Lib.hid (HB.out.trans (hW.mono HB.out.size))
              clear hW
              clear ho4 hb
              obtain ⟨g_u2, h_u2⟩ : ∃ g, u1.heap.size = g := ⟨_, rfl⟩
              obtain ⟨u2, e⟩ : ∃ x, u1.alloc (.cells #[.int .i64 0, .int .i64 0, .int .u8 0, .int .i64 0, .int .i64 0, .int .i64 0, .slice A14 n14 c14] 25) = x := ⟨_, rfl⟩
              obtain ⟨hW, hx⟩ := box_new e
              rw [h_u2] at hx
              have Eu2 := Lib.hid e
              clear e
              replace hx := Lib.hid hx
              replace HK := Lib.hid (HK.out.below hW (Nat.le_refl _))
              replace HB := Lib.hid (HB.out.trans (hW.mono HB.out.size))
              clear hW
              replace HK := Lib.hid (HK.out.row (show Row u2 (g_u2) #[.int .i64 0, .int .i64 0, .int .u8 0, .int .i64 0, .int .i64 0, .int .i64 0, .slice A14 n14 c14] 25 from hx.out))
              clear hx
              go_wp2_with fail
              rw [Eu2.out]
              clear Eu2
              refine (getT_is u2 (HK.out.tabs _ (.head _)).1 (HK.out.tabs _ (.head _)).2 (HK.out.reads _ (.head _)) (show yn ≤ 1000000 by omega) hyc).mono ?_
              rintro e u4 ⟨I16, m16, mc16, A16, n16, c16, rfl, hi6, hm6, ho6, hb⟩
              rw [HG.out.2] at hi6 ho6 ⊢
              simp only at hi6 ho6 ⊢
              have hW : Below u2.heap.size u2 u4 := hb
              replace HK := Lib.hid (HK.out.below hW (Nat.le_refl _))
              replace HB := Lib.hid (HB.out.trans (hW.mono HB.out.size))
              clear hW
              replace HK := Lib.hid (HK.out.read (ho6.rd))
              replace HK := Lib.hid (HK.out.il (ownK_il hi6))
              have sz6 : n16 ≤ 1000000 := by have h1 := ho6.len; have h2 := HRa.out.1.2.2.2.2.2.1; simp only at h2; omega
              have sm6 : m16 ≤ 1000000 := by omega
              clear ho6 hi6 hb
              obtain ⟨g_u5, h_u5⟩ : ∃ g, u4.heap.size = g := ⟨_, rfl⟩
              obtain ⟨u5, e⟩ : ∃ x, u4.alloc (.cells #[.int .i64 al, .int .i64 asq, .int .u8 ao, .int .i64 ae, .slice I16 m16 mc16, .slice A16 n16 c16, .int .i64 ar] 34) = x := ⟨_, rfl⟩
              obtain ⟨hW, hx⟩ := box_new e
              rw [h_u5] at hx
              have Eu5 := Lib.hid e
              clear e
              replace hx := Lib.hid hx
              replace HK := Lib.hid (HK.out.below hW (Nat.le_refl _))
              replace HB := Lib.hid (HB.out.trans (hW.mono HB.out.size))
              clear hW
              replace HK := Lib.hid (HK.out.row (show Row u5 (g_u5) #[.int .i64 al, .int .i64 asq, .int .u8 ao, .int .i64 ae, .slice I16 m16 mc16, .slice A16 n16 c16, .int .i64 ar] 34 from hx.out))
              clear hx
              obtain ⟨a0, a1, a2, a3, a4, a5, a6⟩ := arr7 (w := (World.alloc u4 (.cells #[.int .i64 al, .int .i64 asq, .int .u8 ao, .int .i64 ae, .slice I16 m16 mc16, .slice A16 n16 c16, .int .i64 ar] 34))) (by rw [Eu5.out]; exact (HK.out.rows _ (.head _)))
              go_wp2_with fail
              rw [Eu5.out]
              clear Eu5
              refine (putT_is u5 (HK.out.tabs _ (.head _)).1 (HK.out.tabs _ (.head _)).2 al asq ao ae ar (HK.out.ils _ (.head _)) sm6 ab (HK.out.reads _ (.head _)) sz6).mono ?_
              rintro e u6 ⟨P, pn, pc, rfl, hop, hb⟩
              rw [show putT entry ⟨al, asq, ao, ae, aL, ab, ar⟩ = (ybs, 0) by unfold putT; rw [if_pos HRa.out.1, ← HRa.out.2]] at hop ⊢
              simp only at hop ⊢
              clear a0 a1 a2 a3 a4 a5 a6
              have hW : Below u5.heap.size u5 u6 := hb
              replace HK := Lib.hid (HK.out.below hW (Nat.le_refl _))
              replace HB := Lib.hid (HB.out.trans (hW.mono HB.out.size))
              clear hW
              have hopr := hop.rd
              clear hop hb
              go_wp2_with fail
              refine (sameB_is u6 hopr (HK.out.reads _ (.tail _ (.head _))) (q := true) (by simp)).mono ?_
              rintro e _ ⟨rfl, rfl⟩
              clear hopr
              go_wp2
              have KL := Lib.hid (show Keep u6 [(g_y2, #[.slice X xn xc, .slice S (xn + 4) sc], 23), (g_x2, #[.int .i64 tlz, .int .i64 tsz, .int .u8 toz, .int .i64 tez, .slice I7 m7 mc7, .slice A7 n7 c7, .int .i64 trz], 34), (g_v2, #[.int .i64 lx, .int .i64 sx, .int .u8 ox, .int .i64 stx, .int .i64 ix, .int .i64 vex, .slice A4 n4 c4], 25), (g + 1, #[.int .i64 tlz, .int .i64 tsz, .int .u8 toz, .int .i64 tez, .slice Iz imz mcz, .slice Bz kz dz, .int .i64 trz], 34), (g, #[.int .i64 lx, .int .i64 sx, .int .u8 ox, .int .i64 stx, .int .i64 ix, .int .i64 vex, .slice Ax nx cx], 25)] [(S, xn + 4, sealed entry bs), (A7, n7, tbz), (A4, n4, bsx), (D, dn, sealed entry (encT ⟨tlz, tsz, toz, tez, Lz, tbz, trz⟩)), (C, cn, sealed entry (encA ⟨lx, sx, ox, stx, ix, vex, bsx⟩)), (X, xn, bs), (Bz, kz, tbz), (Ax, nx, bsx)] [(I7, m7, Lz), (Iz, imz, Lz)] [(p, entry)] from ⟨fun q hq => HK.out.rows q (.tail _ (.tail _ hq)), fun q hq => HK.out.reads q (.tail _ (.tail _ hq)), fun q hq => HK.out.ils q (.tail _ hq), HK.out.tabs⟩)
              go_roundw
              case rel => exact ⟨j + 1, by have := HJ.out; omega, by go_num, (⟨KL.out, HB.out⟩ : _ ∧ _)⟩
              case measure => have := HJ.out; simp [Go.RowKit.intOf]; omega
            · obtain ⟨e1, e2, hne1, hne2, hgA, hgT⟩ := hcs
              have b1 : (e1 == 0) = false := by simpa using hne1
              have b2 : (e2 == 0) = false := by simpa using hne2
              clear hne1 hne2
              have HG := Lib.hid (And.intro hgA hgT)
              clear hgA hgT
              go_wp2_with fail
              refine (getA_is wr (HK.out.tabs _ (.head _)).1 (HK.out.tabs _ (.head _)).2 (HK.out.reads _ (.head _)) (show yn ≤ 1000000 by omega) hyc).mono ?_
              rintro e u1 ⟨A14, n14, c14, rfl, ho4, hb⟩
              rw [HG.out.1] at ho4 ⊢
              simp only [zeroA] at ho4 ⊢
              have hW : Below wr.heap.size wr u1 := hb
              replace HK := Lib.hid (HK.out.below hW (Nat.le_refl _))
              replace HB := Lib.hid (HB.out.trans (hW.mono HB.out.size))
              clear hW
              clear ho4 hb
              obtain ⟨g_u2, h_u2⟩ : ∃ g, u1.heap.size = g := ⟨_, rfl⟩
              obtain ⟨u2, e⟩ : ∃ x, u1.alloc (.cells #[.int .i64 0, .int .i64 0, .int .u8 0, .int .i64 0, .int .i64 0, .int .i64 0, .slice A14 n14 c14] 25) = x := ⟨_, rfl⟩
              obtain ⟨hW, hx⟩ := box_new e
              rw [h_u2] at hx
              have Eu2 := Lib.hid e
              clear e
              replace hx := Lib.hid hx
              replace HK := Lib.hid (HK.out.below hW (Nat.le_refl _))
              replace HB := Lib.hid (HB.out.trans (hW.mono HB.out.size))
              clear hW
              replace HK := Lib.hid (HK.out.row (show Row u2 (g_u2) #[.int .i64 0, .int .i64 0, .int .u8 0, .int .i64 0, .int .i64 0, .int .i64 0, .slice A14 n14 c14] 25 from hx.out))
              clear hx
              go_wp2_with fail
              rw [Eu2.out]
              clear Eu2
              refine (getT_is u2 (HK.out.tabs _ (.head _)).1 (HK.out.tabs _ (.head _)).2 (HK.out.reads _ (.head _)) (show yn ≤ 1000000 by omega) hyc).mono ?_
              rintro e u4 ⟨I16, m16, mc16, A16, n16, c16, rfl, hi6, hm6, ho6, hb⟩
              rw [HG.out.2] at hi6 ho6 ⊢
              simp only [zeroT] at hi6 ho6 ⊢
              have hW : Below u2.heap.size u2 u4 := hb
              replace HK := Lib.hid (HK.out.below hW (Nat.le_refl _))
              replace HB := Lib.hid (HB.out.trans (hW.mono HB.out.size))
              clear hW
              clear ho6 hi6 hb
              obtain ⟨g_u5, h_u5⟩ : ∃ g, u4.heap.size = g := ⟨_, rfl⟩
              obtain ⟨u5, e⟩ : ∃ x, u4.alloc (.cells #[.int .i64 0, .int .i64 0, .int .u8 0, .int .i64 0, .slice I16 m16 mc16, .slice A16 n16 c16, .int .i64 0] 34) = x := ⟨_, rfl⟩
              obtain ⟨hW, hx⟩ := box_new e
              rw [h_u5] at hx
              have Eu5 := Lib.hid e
              clear e
              replace hx := Lib.hid hx
              replace HK := Lib.hid (HK.out.below hW (Nat.le_refl _))
              replace HB := Lib.hid (HB.out.trans (hW.mono HB.out.size))
              clear hW
              replace HK := Lib.hid (HK.out.row (show Row u5 (g_u5) #[.int .i64 0, .int .i64 0, .int .u8 0, .int .i64 0, .slice I16 m16 mc16, .slice A16 n16 c16, .int .i64 0] 34 from hx.out))
              clear hx
              go_wp2
              rw [Eu5.out]
              clear Eu5
              have KL := Lib.hid (show Keep u5 [(g_y2, #[.slice X xn xc, .slice S (xn + 4) sc], 23), (g_x2, #[.int .i64 tlz, .int .i64 tsz, .int .u8 toz, .int .i64 tez, .slice I7 m7 mc7, .slice A7 n7 c7, .int .i64 trz], 34), (g_v2, #[.int .i64 lx, .int .i64 sx, .int .u8 ox, .int .i64 stx, .int .i64 ix, .int .i64 vex, .slice A4 n4 c4], 25), (g + 1, #[.int .i64 tlz, .int .i64 tsz, .int .u8 toz, .int .i64 tez, .slice Iz imz mcz, .slice Bz kz dz, .int .i64 trz], 34), (g, #[.int .i64 lx, .int .i64 sx, .int .u8 ox, .int .i64 stx, .int .i64 ix, .int .i64 vex, .slice Ax nx cx], 25)] [(S, xn + 4, sealed entry bs), (A7, n7, tbz), (A4, n4, bsx), (D, dn, sealed entry (encT ⟨tlz, tsz, toz, tez, Lz, tbz, trz⟩)), (C, cn, sealed entry (encA ⟨lx, sx, ox, stx, ix, vex, bsx⟩)), (X, xn, bs), (Bz, kz, tbz), (Ax, nx, bsx)] [(I7, m7, Lz), (Iz, imz, Lz)] [(p, entry)] from ⟨fun q hq => HK.out.rows q (.tail _ (.tail _ hq)), fun q hq => HK.out.reads q (.tail _ hq), fun q hq => HK.out.ils q hq, HK.out.tabs⟩)
              go_roundw
              case rel => exact ⟨j + 1, by have := HJ.out; omega, by go_num, (⟨KL.out, HB.out⟩ : _ ∧ _)⟩
              case measure => have := HJ.out; simp [Go.RowKit.intOf]; omega
          · obtain rfl : j = 2 := by omega
            go_wp2_with fail
            refine (awake_is _).mono ?_
            rintro e wz ⟨rfl, hb⟩
            have hW : Below wr.heap.size wr wz := hb
            replace HK := Lib.hid (HK.out.below hW (Nat.le_refl _))
            replace HB := Lib.hid (HB.out.trans (hW.mono HB.out.size))
            clear hW
            go_wp2
            go_ret
            exact told_mk (by simp) HB.out
      · have kRz := Lib.hid (decide_eq_false HRz)
        replace HRz := Lib.hid HRz
        have hs1 := q1
        have q1 := Lib.hid (decide_eq_true q1)
        obtain ⟨Z, hZs, hz⟩ := zero39
        have HZ := Lib.hid hZs
        clear hZs
        have hz25 := (zero_of_info zero25).1
        have hz34 := (zero_of_info zero34).1
        go_enter Try.func5, Try.ntmps5
        obtain ⟨a0, a1, a2, a3, a4, a5, a6⟩ := arr7 (w := (World.alloc (World.alloc w (.cells #[.int .i64 lx, .int .i64 sx, .int .u8 ox, .int .i64 stx, .int .i64 ix, .int .i64 vex, .slice Ax nx cx] 25)) (.cells #[.int .i64 tlz, .int .i64 tsz, .int .u8 toz, .int .i64 tez, .slice Iz imz mcz, .slice Bz kz dz, .int .i64 trz] 34))) (by rw [Ew2.out, Ew3.out]; exact (HK.out.rows _ (.tail _ (.head _))))
        obtain ⟨b0, b1, b2, b3, b4, b5, b6⟩ := arr7 (w := (World.alloc (World.alloc w (.cells #[.int .i64 lx, .int .i64 sx, .int .u8 ox, .int .i64 stx, .int .i64 ix, .int .i64 vex, .slice Ax nx cx] 25)) (.cells #[.int .i64 tlz, .int .i64 tsz, .int .u8 toz, .int .i64 tez, .slice Iz imz mcz, .slice Bz kz dz, .int .i64 trz] 34))) (by rw [Ew2.out, Ew3.out]; exact (HK.out.rows _ (.head _)))
        go_wp2_with fail
        rw [Ew2.out]
        rw [Ew3.out]
        clear Ew2 Ew3
        refine (small_is w3 lx sx ox stx ix vex tlz tsz toz tez trz q1.out).mono ?_
        rintro e w4 ⟨rfl, hb⟩
        have hW : Below w3.heap.size w3 w4 := hb
        replace HK := Lib.hid (HK.out.below hW (Nat.le_refl _))
        replace HB := Lib.hid (HB.out.trans (hW.mono HB.out.size))
        clear hW
        clear a0 a1 a2 a3 a4 a5 a6 b0 b1 b2 b3 b4 b5 b6 hb
        have hA4 : ∀ u, Below w4.heap.size w4 u → Row u g #[.int .i64 lx, .int .i64 sx, .int .u8 ox, .int .i64 stx, .int .i64 ix, .int .i64 vex, .slice Ax nx cx] 25 := fun u hu => (HK.out.rows _ (.tail _ (.head _))).below hu (Nat.le_refl _)
        go_upto_region 4 with (first
          | (go_at_call 12; refine (table_any _).mono ?_; rintro e w1 ⟨rfl, hb1⟩; rw [show tarr ((List.range 256).map entry) = T0 from rfl])
          | ((with_reducible refine wpList_store_new (o := ⟨none, .store 39 (.tmp 7) (.tmp 36), _, _, _, _⟩) ?_ 39 (.tmp 7) (.tmp 36) ?_ T0 Z ?_ ?_ 39 size39' HZ.out T0_one ?_)
             case refine_1 => rfl
             case refine_2 => rfl
             case refine_3 => rfl
             case refine_4 => rfl))
        have hW : Below w4.heap.size w4 w1 := hb1
        clear hb1 hz hA4
        replace HK := Lib.hid (HK.out.below hW (Nat.le_refl _))
        replace HB := Lib.hid (HB.out.trans (hW.mono HB.out.size))
        clear hW
        obtain ⟨p, hp⟩ : ∃ p, w1.heap.size = p := ⟨_, rfl⟩
        obtain ⟨wT, e⟩ : ∃ x, w1.alloc (.cells T0 39) = x := ⟨_, rfl⟩
        obtain ⟨hW, hx⟩ := box_new e
        rw [hp] at hx
        have EwT := Lib.hid e
        clear e
        replace hx := Lib.hid hx
        replace HK := Lib.hid (HK.out.below hW (Nat.le_refl _))
        replace HB := Lib.hid (HB.out.trans (hW.mono HB.out.size))
        clear hW
        clear hx
        have hTb : Tb wT p entry := by rw [← EwT.out, ← hp]; exact ⟨tab_new w1 (0, 0), by rw [size_alloc]; simp⟩
        replace HK := Lib.hid (HK.out.tab (hTb))
        clear hTb
        rw [EwT.out]
        clear EwT
        (try rw [hp])
        obtain ⟨a0, a1, a2, a3, a4, a5, a6⟩ := arr7 (w := wT) (by exact (HK.out.rows _ (.tail _ (.head _))))
        have HPx := Lib.hid (show putA entry ⟨lx, sx, ox, stx, ix, vex, bsx⟩ = (sealed entry (encA ⟨lx, sx, ox, stx, ix, vex, bsx⟩), 0) by unfold putA; rw [if_pos HRx.out])
        have HPz := Lib.hid (show putT entry ⟨tlz, tsz, toz, tez, Lz, tbz, trz⟩ = ([], 110) by unfold putT; rw [if_neg HRz.out])
        go_wp2_with fail
        refine (putA_is wT (HK.out.tabs _ (.head _)).1 (HK.out.tabs _ (.head _)).2 lx sx ox stx ix vex bsx (HK.out.reads _ (.tail _ (.tail _ (.head _)))) (show nx ≤ 1000000 by omega)).mono ?_
        rintro e w6 ⟨C, cn, cc, rfl, hoc, hb⟩
        rw [HPx.out] at hoc ⊢
        simp only at hoc ⊢
        clear a0 a1 a2 a3 a4 a5 a6
        have hW : Below wT.heap.size wT w6 := hb
        replace HK := Lib.hid (HK.out.below hW (Nat.le_refl _))
        replace HB := Lib.hid (HB.out.trans (hW.mono HB.out.size))
        clear hW
        replace HK := Lib.hid (HK.out.read (hoc.rd))
        have hcC := hoc.cap
        have hlC := hoc.len
        clear hoc hb
        obtain ⟨a0, a1, a2, a3, a4, a5, a6⟩ := arr7 (w := w6) (by exact (HK.out.rows _ (.head _)))
        go_wp2_with fail
        refine (putT_is w6 (HK.out.tabs _ (.head _)).1 (HK.out.tabs _ (.head _)).2 tlz tsz toz tez trz (HK.out.ils _ (.head _)) (show imz ≤ 1000000 by omega) tbz (HK.out.reads _ (.tail _ (.tail _ (.head _)))) (show kz ≤ 1000000 by omega)).mono ?_
        rintro e w7 ⟨D, dn, dc, rfl, hod, hb⟩
        rw [HPz.out] at hod ⊢
        simp only at hod ⊢
        clear a0 a1 a2 a3 a4 a5 a6
        have hW : Below w6.heap.size w6 w7 := hb
        replace HK := Lib.hid (HK.out.below hW (Nat.le_refl _))
        replace HB := Lib.hid (HB.out.trans (hW.mono HB.out.size))
        clear hW
        replace HK := Lib.hid (HK.out.read (hod.rd))
        have hcD := hod.cap
        have hlD := hod.len
        clear hod hb
        have szC : cn ≤ 1000000 := by have := encA_len ⟨lx, sx, ox, stx, ix, vex, bsx⟩; rw [sealed_length] at hlC; simp only at this; omega
        clear hlC hlD
        obtain ⟨a0, a1, a2, a3, a4, a5, a6⟩ := arr7 (w := w7) (by exact (HK.out.rows _ (.tail _ (.head _))))
        go_wp2_with fail
        refine (rightA_is w7 lx sx ox stx ix vex bsx Ax nx cx lenx kRx.out).mono ?_
        rintro e w8 ⟨rfl, hb⟩
        have hW : Below w7.heap.size w7 w8 := hb
        replace HK := Lib.hid (HK.out.below hW (Nat.le_refl _))
        replace HB := Lib.hid (HB.out.trans (hW.mono HB.out.size))
        clear hW
        clear a0 a1 a2 a3 a4 a5 a6 hb
        obtain ⟨a0, a1, a2, a3, a4, a5, a6⟩ := arr7 (w := w8) (by exact (HK.out.rows _ (.head _)))
        go_wp2_with fail
        refine (rightT_is w8 tlz tsz toz tez trz (HK.out.ils _ (.head _)) (show imz ≤ 1000000 by omega) Bz kz dz tbz (HK.out.reads _ (.tail _ (.tail _ (.tail _ (.head _))))).len kRz.out).mono ?_
        rintro e w9 ⟨rfl, hb⟩
        have hW : Below w8.heap.size w8 w9 := hb
        replace HK := Lib.hid (HK.out.below hW (Nat.le_refl _))
        replace HB := Lib.hid (HB.out.trans (hW.mono HB.out.size))
        clear hW
        clear a0 a1 a2 a3 a4 a5 a6 hb
        go_wp2_with fail
        refine (getA_is w9 (HK.out.tabs _ (.head _)).1 (HK.out.tabs _ (.head _)).2 (HK.out.reads _ (.tail _ (.head _))) szC hcC).mono ?_
        rintro e v1 ⟨A4, n4, c4, rfl, ho4, hb⟩
        rw [getA_put HRx.out] at ho4 ⊢
        simp only at ho4 ⊢
        have hW : Below w9.heap.size w9 v1 := hb
        replace HK := Lib.hid (HK.out.below hW (Nat.le_refl _))
        replace HB := Lib.hid (HB.out.trans (hW.mono HB.out.size))
        clear hW
        replace HK := Lib.hid (HK.out.read (ho4.rd))
        clear ho4 hb
        obtain ⟨g_v2, h_v2⟩ : ∃ g, v1.heap.size = g := ⟨_, rfl⟩
        obtain ⟨v2, e⟩ : ∃ x, v1.alloc (.cells #[.int .i64 lx, .int .i64 sx, .int .u8 ox, .int .i64 stx, .int .i64 ix, .int .i64 vex, .slice A4 n4 c4] 25) = x := ⟨_, rfl⟩
        obtain ⟨hW, hx⟩ := box_new e
        rw [h_v2] at hx
        have Ev2 := Lib.hid e
        clear e
        replace hx := Lib.hid hx
        replace HK := Lib.hid (HK.out.below hW (Nat.le_refl _))
        replace HB := Lib.hid (HB.out.trans (hW.mono HB.out.size))
        clear hW
        replace HK := Lib.hid (HK.out.row (show Row v2 (g_v2) #[.int .i64 lx, .int .i64 sx, .int .u8 ox, .int .i64 stx, .int .i64 ix, .int .i64 vex, .slice A4 n4 c4] 25 from hx.out))
        clear hx
        go_wp2_with fail
        rw [Ev2.out]
        clear Ev2
        refine (getT_is v2 (HK.out.tabs _ (.head _)).1 (HK.out.tabs _ (.head _)).2 (HK.out.reads _ (.tail _ (.tail _ (.head _)))) szC hcC).mono ?_
        rintro e v3 ⟨I6, m6, mc6, A6, n6, c6, rfl, hi6, hm6, ho6, hb⟩
        rw [getT_putA] at hi6 ho6 ⊢
        simp only [zeroT] at hi6 ho6 ⊢
        have hW : Below v2.heap.size v2 v3 := hb
        replace HK := Lib.hid (HK.out.below hW (Nat.le_refl _))
        replace HB := Lib.hid (HB.out.trans (hW.mono HB.out.size))
        clear hW
        clear hi6 hm6 ho6 hb
        obtain ⟨g_v4, h_v4⟩ : ∃ g, v3.heap.size = g := ⟨_, rfl⟩
        obtain ⟨v4, e⟩ : ∃ x, v3.alloc (.cells #[.int .i64 0, .int .i64 0, .int .u8 0, .int .i64 0, .slice I6 m6 mc6, .slice A6 n6 c6, .int .i64 0] 34) = x := ⟨_, rfl⟩
        obtain ⟨hW, hx⟩ := box_new e
        rw [h_v4] at hx
        have Ev4 := Lib.hid e
        clear e
        replace hx := Lib.hid hx
        replace HK := Lib.hid (HK.out.below hW (Nat.le_refl _))
        replace HB := Lib.hid (HB.out.trans (hW.mono HB.out.size))
        clear hW
        clear hx
        obtain ⟨a0, a1, a2, a3, a4, a5, a6⟩ := arr7 (w := (World.alloc v3 (.cells #[.int .i64 0, .int .i64 0, .int .u8 0, .int .i64 0, .slice I6 m6 mc6, .slice A6 n6 c6, .int .i64 0] 34))) (by rw [Ev4.out]; exact (HK.out.rows _ (.tail _ (.tail _ (.head _)))))
        obtain ⟨b0, b1, b2, b3, b4, b5, b6⟩ := arr7 (w := (World.alloc v3 (.cells #[.int .i64 0, .int .i64 0, .int .u8 0, .int .i64 0, .slice I6 m6 mc6, .slice A6 n6 c6, .int .i64 0] 34))) (by rw [Ev4.out]; exact (HK.out.rows _ (.head _)))
        go_wp2_with fail
        rw [Ev4.out]
        clear Ev4
        refine (sameA_is v4 lx sx ox stx ix vex lx sx ox stx ix vex bsx bsx (HK.out.reads _ (.head _)) (HK.out.reads _ (.tail _ (.tail _ (.tail _ (.tail _ (.tail _ (.head _))))))) (q := true) (by simp)).mono ?_
        rintro e v5 ⟨rfl, hb⟩
        have hW : Below v4.heap.size v4 v5 := hb
        replace HK := Lib.hid (HK.out.below hW (Nat.le_refl _))
        replace HB := Lib.hid (HB.out.trans (hW.mono HB.out.size))
        clear hW
        clear a0 a1 a2 a3 a4 a5 a6 b0 b1 b2 b3 b4 b5 b6 hb
        go_wp2_with fail
        refine (seal_any ⟨p, 0, none⟩ entry X xn xc bs v5 (HK.out.tabs _ (.head _)).1 (HK.out.reads _ (.tail _ (.tail _ (.tail _ (.head _))))) (show xn ≤ 70368744177664 by omega)).mono ?_
        rintro e y1 ⟨S, sc, rfl, hos, hb⟩
        have hW : Below v5.heap.size v5 y1 := hb
        replace HK := Lib.hid (HK.out.below hW (Nat.le_refl _))
        replace HB := Lib.hid (HB.out.trans (hW.mono HB.out.size))
        clear hW
        replace HK := Lib.hid (HK.out.read (hos.rd))
        have hcS := hos.cap
        clear hos hb
        obtain ⟨g_y2, h_y2⟩ : ∃ g, y1.heap.size = g := ⟨_, rfl⟩
        obtain ⟨y2, e⟩ : ∃ x, y1.alloc (.cells #[.slice X xn xc, .slice S (xn + 4) sc] 23) = x := ⟨_, rfl⟩
        obtain ⟨hW, hx⟩ := box_new e
        rw [h_y2] at hx
        have Ey2 := Lib.hid e
        clear e
        replace hx := Lib.hid hx
        replace HK := Lib.hid (HK.out.below hW (Nat.le_refl _))
        replace HB := Lib.hid (HB.out.trans (hW.mono HB.out.size))
        clear hW
        replace HK := Lib.hid (HK.out.row (show Row y2 (g_y2) #[.slice X xn xc, .slice S (xn + 4) sc] 23 from hx.out))
        clear hx
        go_wp2
        rw [Ey2.out]
        clear Ey2
        have hrel0 := Lib.hid (And.intro HK.out HB.out)
        go_loopw [21, 22, 23, 24, 25, 26, 27, 28, 29, 112] (fun _ _ _ _ _ _ _ _ _ s112 wr => ∃ j : Nat, j ≤ 2 ∧ s112 = .int .i64 (j : Int) ∧ Hid (Keep wr [(g_y2, #[.slice X xn xc, .slice S (xn + 4) sc], 23), (g_v2, #[.int .i64 lx, .int .i64 sx, .int .u8 ox, .int .i64 stx, .int .i64 ix, .int .i64 vex, .slice A4 n4 c4], 25), (g + 1, #[.int .i64 tlz, .int .i64 tsz, .int .u8 toz, .int .i64 tez, .slice Iz imz mcz, .slice Bz kz dz, .int .i64 trz], 34), (g, #[.int .i64 lx, .int .i64 sx, .int .u8 ox, .int .i64 stx, .int .i64 ix, .int .i64 vex, .slice Ax nx cx], 25)] [(S, xn + 4, sealed entry bs), (A4, n4, bsx), (D, dn, []), (C, cn, sealed entry (encA ⟨lx, sx, ox, stx, ix, vex, bsx⟩)), (X, xn, bs), (Bz, kz, tbz), (Ax, nx, bsx)] [(Iz, imz, Lz)] [(p, entry)] ∧ Below w.heap.size w wr)) (fun _ _ _ _ _ _ _ _ _ s112 _ => 2 - (Go.RowKit.intOf s112).toNat)
        case atStart => exact ⟨0, by omega, rfl, hrel0.out⟩
        case round =>
          obtain ⟨j, hj, rfl, HR⟩ := hrel
          clear HK HB hrel0
          have HK := Lib.hid HR.out.1
          have HB := Lib.hid HR.out.2
          clear HR
          by_cases hlt : j < 2
          · obtain ⟨Y, yn, yc, ybs, hcell, hRd, hyc, hyn⟩ : ∃ (Y : Option Addr) (yn yc : Nat) (ybs : List UInt8), wr.cell? ⟨g_y2, j, none⟩ = some (.slice Y yn yc) ∧ Rd wr Y yn ybs ∧ yn ≤ yc ∧ yn ≤ 1004 := by
              rcases (show j = 0 ∨ j = 1 by omega) with rfl | rfl
              · exact ⟨X, xn, xc, bs, cell_of_row wr g_y2 0 _ 23 (0, 0) (HK.out.rows _ (.head _)), (HK.out.reads _ (.tail _ (.tail _ (.tail _ (.tail _ (.head _)))))), hxc, by omega⟩
              · exact ⟨S, xn + 4, sc, sealed entry bs, cell_of_row wr g_y2 1 _ 23 (0, 0) (HK.out.rows _ (.head _)), (HK.out.reads _ (.head _)), hcS, by omega⟩
            have hi1 : (0 : Int) ≤ (j : Int) := by omega
            have hi2 : (j : Int) < 2 := by omega
            have hwk : IntKind.i64.wrap ((j : Int) + 1) = (j : Int) + 1 := IntWalk.i64_in _ (by omega)
            have HJ := Lib.hid hlt
            clear hlt
            replace HK := Lib.hid (HK.out.read (hRd))
            clear hRd
            rcases back_cases ybs with hcs | hcs | hcs
            · obtain ⟨a, hRa, hyl, hgA, hgT⟩ := hcs
              have HRa := Lib.hid (And.intro hRa hyl)
              clear hRa hyl
              have HG := Lib.hid (And.intro hgA hgT)
              clear hgA hgT
              obtain ⟨al, asq, ao, ast, ai, av, ab⟩ := a
              go_wp2_with fail
              refine (getA_is wr (HK.out.tabs _ (.head _)).1 (HK.out.tabs _ (.head _)).2 (HK.out.reads _ (.head _)) (show yn ≤ 1000000 by omega) hyc).mono ?_
              rintro e u1 ⟨A14, n14, c14, rfl, ho4, hb⟩
              rw [HG.out.1] at ho4 ⊢
              simp only at ho4 ⊢
              have hW : Below wr.heap.size wr u1 := hb
              replace HK := Lib.hid (HK.out.below hW (Nat.le_refl _))
              replace HB := Lib.hid (HB.out.trans (hW.mono HB.out.size))
              clear hW
              replace HK := Lib.hid (HK.out.read (ho4.rd))
              have sz4 : n14 ≤ 1000000 := by have h1 := ho4.len; have h2 := HRa.out.1.2.2; unfold mostB at h2; simp only at h2; split at h2 <;> omega
              clear ho4 hb
              obtain ⟨g_u2, h_u2⟩ : ∃ g, u1.heap.size = g := ⟨_, rfl⟩
              obtain ⟨u2, e⟩ : ∃ x, u1.alloc (.cells #[.int .i64 al, .int .i64 asq, .int .u8 ao, .int .i64 ast, .int .i64 ai, .int .i64 av, .slice A14 n14 c14] 25) = x := ⟨_, rfl⟩
              obtain ⟨hW, hx⟩ := box_new e
              rw [h_u2] at hx
              have Eu2 := Lib.hid e
              clear e
              replace hx := Lib.hid hx
              replace HK := Lib.hid (HK.out.below hW (Nat.le_refl _))
              replace HB := Lib.hid (HB.out.trans (hW.mono HB.out.size))
              clear hW
              replace HK := Lib.hid (HK.out.row (show Row u2 (g_u2) #[.int .i64 al, .int .i64 asq, .int .u8 ao, .int .i64 ast, .int .i64 ai, .int .i64 av, .slice A14 n14 c14] 25 from hx.out))
              clear hx
              obtain ⟨a0, a1, a2, a3, a4, a5, a6⟩ := arr7 (w := (World.alloc u1 (.cells #[.int .i64 al, .int .i64 asq, .int .u8 ao, .int .i64 ast, .int .i64 ai, .int .i64 av, .slice A14 n14 c14] 25))) (by rw [Eu2.out]; exact (HK.out.rows _ (.head _)))
              go_wp2_with fail
              rw [Eu2.out]
              clear Eu2
              refine (putA_is u2 (HK.out.tabs _ (.head _)).1 (HK.out.tabs _ (.head _)).2 al asq ao ast ai av ab (HK.out.reads _ (.head _)) sz4).mono ?_
              rintro e u3 ⟨P, pn, pc, rfl, hop, hb⟩
              rw [show putA entry ⟨al, asq, ao, ast, ai, av, ab⟩ = (ybs, 0) by unfold putA; rw [if_pos HRa.out.1, ← HRa.out.2]] at hop ⊢
              simp only at hop ⊢
              clear a0 a1 a2 a3 a4 a5 a6
              have hW : Below u2.heap.size u2 u3 := hb
              replace HK := Lib.hid (HK.out.below hW (Nat.le_refl _))
              replace HB := Lib.hid (HB.out.trans (hW.mono HB.out.size))
              clear hW
              have hopr := hop.rd
              clear hop hb
              go_wp2_with fail
              refine (sameB_is u3 hopr (HK.out.reads _ (.tail _ (.head _))) (q := true) (by simp)).mono ?_
              rintro e _ ⟨rfl, rfl⟩
              clear hopr
              go_wp2_with fail
              refine (getT_is u3 (HK.out.tabs _ (.head _)).1 (HK.out.tabs _ (.head _)).2 (HK.out.reads _ (.tail _ (.head _))) (show yn ≤ 1000000 by omega) hyc).mono ?_
              rintro e u4 ⟨I16, m16, mc16, A16, n16, c16, rfl, hi6, hm6, ho6, hb⟩
              rw [HG.out.2] at hi6 ho6 ⊢
              simp only [zeroT] at hi6 ho6 ⊢
              have hW : Below u3.heap.size u3 u4 := hb
              replace HK := Lib.hid (HK.out.below hW (Nat.le_refl _))
              replace HB := Lib.hid (HB.out.trans (hW.mono HB.out.size))
              clear hW
              clear ho6 hi6 hb
              obtain ⟨g_u5, h_u5⟩ : ∃ g, u4.heap.size = g := ⟨_, rfl⟩
              obtain ⟨u5, e⟩ : ∃ x, u4.alloc (.cells #[.int .i64 0, .int .i64 0, .int .u8 0, .int .i64 0, .slice I16 m16 mc16, .slice A16 n16 c16, .int .i64 0] 34) = x := ⟨_, rfl⟩
              obtain ⟨hW, hx⟩ := box_new e
              rw [h_u5] at hx
              have Eu5 := Lib.hid e
              clear e
              replace hx := Lib.hid hx
              replace HK := Lib.hid (HK.out.below hW (Nat.le_refl _))
              replace HB := Lib.hid (HB.out.trans (hW.mono HB.out.size))
              clear hW
              replace HK := Lib.hid (HK.out.row (show Row u5 (g_u5) #[.int .i64 0, .int .i64 0, .int .u8 0, .int .i64 0, .slice I16 m16 mc16, .slice A16 n16 c16, .int .i64 0] 34 from hx.out))
              clear hx
              go_wp2
              rw [Eu5.out]
              clear Eu5
              have KL := Lib.hid (show Keep u5 [(g_y2, #[.slice X xn xc, .slice S (xn + 4) sc], 23), (g_v2, #[.int .i64 lx, .int .i64 sx, .int .u8 ox, .int .i64 stx, .int .i64 ix, .int .i64 vex, .slice A4 n4 c4], 25), (g + 1, #[.int .i64 tlz, .int .i64 tsz, .int .u8 toz, .int .i64 tez, .slice Iz imz mcz, .slice Bz kz dz, .int .i64 trz], 34), (g, #[.int .i64 lx, .int .i64 sx, .int .u8 ox, .int .i64 stx, .int .i64 ix, .int .i64 vex, .slice Ax nx cx], 25)] [(S, xn + 4, sealed entry bs), (A4, n4, bsx), (D, dn, []), (C, cn, sealed entry (encA ⟨lx, sx, ox, stx, ix, vex, bsx⟩)), (X, xn, bs), (Bz, kz, tbz), (Ax, nx, bsx)] [(Iz, imz, Lz)] [(p, entry)] from ⟨fun q hq => HK.out.rows q (.tail _ (.tail _ hq)), fun q hq => HK.out.reads q (.tail _ (.tail _ hq)), fun q hq => HK.out.ils q hq, HK.out.tabs⟩)
              go_roundw
              case rel => exact ⟨j + 1, by have := HJ.out; omega, by go_num, (⟨KL.out, HB.out⟩ : _ ∧ _)⟩
              case measure => have := HJ.out; simp [Go.RowKit.intOf]; omega
            · obtain ⟨a, hRa, hyl, hgA, hgT⟩ := hcs
              have HRa := Lib.hid (And.intro hRa hyl)
              clear hRa hyl
              have HG := Lib.hid (And.intro hgA hgT)
              clear hgA hgT
              obtain ⟨al, asq, ao, ae, aL, ab, ar⟩ := a
              go_wp2_with fail
              refine (getA_is wr (HK.out.tabs _ (.head _)).1 (HK.out.tabs _ (.head _)).2 (HK.out.reads _ (.head _)) (show yn ≤ 1000000 by omega) hyc).mono ?_
              rintro e u1 ⟨A14, n14, c14, rfl, ho4, hb⟩
              rw [HG.out.1] at ho4 ⊢
              simp only [zeroA] at ho4 ⊢
              have hW : Below wr.heap.size wr u1 := hb
              replace HK := Lib.hid (HK.out.below hW (Nat.le_refl _))
              replace HB := Lib.hid (HB.out.trans (hW.mono HB.out.size))
              clear hW
              clear ho4 hb
              obtain ⟨g_u2, h_u2⟩ : ∃ g, u1.heap.size = g := ⟨_, rfl⟩
              obtain ⟨u2, e⟩ : ∃ x, u1.alloc (.cells #[.int .i64 0, .int .i64 0, .int .u8 0, .int .i64 0, .int .i64 0, .int .i64 0, .slice A14 n14 c14] 25) = x := ⟨_, rfl⟩
              obtain ⟨hW, hx⟩ := box_new e
              rw [h_u2] at hx
              have Eu2 := Lib.hid e
              clear e
              replace hx := Lib.hid hx
              replace HK := Lib.hid (HK.out.below hW (Nat.le_refl _))
              replace HB := Lib.hid (HB.out.trans (hW.mono HB.out.size))
              clear hW
              replace HK := Lib.hid (HK.out.row (show Row u2 (g_u2) #[.int .i64 0, .int .i64 0, .int .u8 0, .int .i64 0, .int .i64 0, .int .i64 0, .slice A14 n14 c14] 25 from hx.out))
              clear hx
              go_wp2_with fail
              rw [Eu2.out]
              clear Eu2
              refine (getT_is u2 (HK.out.tabs _ (.head _)).1 (HK.out.tabs _ (.head _)).2 (HK.out.reads _ (.head _)) (show yn ≤ 1000000 by omega) hyc).mono ?_
              rintro e u4 ⟨I16, m16, mc16, A16, n16, c16, rfl, hi6, hm6, ho6, hb⟩
              rw [HG.out.2] at hi6 ho6 ⊢
              simp only at hi6 ho6 ⊢
              have hW : Below u2.heap.size u2 u4 := hb
              replace HK := Lib.hid (HK.out.below hW (Nat.le_refl _))
              replace HB := Lib.hid (HB.out.trans (hW.mono HB.out.size))
              clear hW
              replace HK := Lib.hid (HK.out.read (ho6.rd))
              replace HK := Lib.hid (HK.out.il (ownK_il hi6))
              have sz6 : n16 ≤ 1000000 := by have h1 := ho6.len; have h2 := HRa.out.1.2.2.2.2.2.1; simp only at h2; omega
              have sm6 : m16 ≤ 1000000 := by omega
              clear ho6 hi6 hb
              obtain ⟨g_u5, h_u5⟩ : ∃ g, u4.heap.size = g := ⟨_, rfl⟩
              obtain ⟨u5, e⟩ : ∃ x, u4.alloc (.cells #[.int .i64 al, .int .i64 asq, .int .u8 ao, .int .i64 ae, .slice I16 m16 mc16, .slice A16 n16 c16, .int .i64 ar] 34) = x := ⟨_, rfl⟩
              obtain ⟨hW, hx⟩ := box_new e
              rw [h_u5] at hx
              have Eu5 := Lib.hid e
              clear e
              replace hx := Lib.hid hx
              replace HK := Lib.hid (HK.out.below hW (Nat.le_refl _))
              replace HB := Lib.hid (HB.out.trans (hW.mono HB.out.size))
              clear hW
              replace HK := Lib.hid (HK.out.row (show Row u5 (g_u5) #[.int .i64 al, .int .i64 asq, .int .u8 ao, .int .i64 ae, .slice I16 m16 mc16, .slice A16 n16 c16, .int .i64 ar] 34 from hx.out))
              clear hx
              obtain ⟨a0, a1, a2, a3, a4, a5, a6⟩ := arr7 (w := (World.alloc u4 (.cells #[.int .i64 al, .int .i64 asq, .int .u8 ao, .int .i64 ae, .slice I16 m16 mc16, .slice A16 n16 c16, .int .i64 ar] 34))) (by rw [Eu5.out]; exact (HK.out.rows _ (.head _)))
              go_wp2_with fail
              rw [Eu5.out]
              clear Eu5
              refine (putT_is u5 (HK.out.tabs _ (.head _)).1 (HK.out.tabs _ (.head _)).2 al asq ao ae ar (HK.out.ils _ (.head _)) sm6 ab (HK.out.reads _ (.head _)) sz6).mono ?_
              rintro e u6 ⟨P, pn, pc, rfl, hop, hb⟩
              rw [show putT entry ⟨al, asq, ao, ae, aL, ab, ar⟩ = (ybs, 0) by unfold putT; rw [if_pos HRa.out.1, ← HRa.out.2]] at hop ⊢
              simp only at hop ⊢
              clear a0 a1 a2 a3 a4 a5 a6
              have hW : Below u5.heap.size u5 u6 := hb
              replace HK := Lib.hid (HK.out.below hW (Nat.le_refl _))
              replace HB := Lib.hid (HB.out.trans (hW.mono HB.out.size))
              clear hW
              have hopr := hop.rd
              clear hop hb
              go_wp2_with fail
              refine (sameB_is u6 hopr (HK.out.reads _ (.tail _ (.head _))) (q := true) (by simp)).mono ?_
              rintro e _ ⟨rfl, rfl⟩
              clear hopr
              go_wp2
              have KL := Lib.hid (show Keep u6 [(g_y2, #[.slice X xn xc, .slice S (xn + 4) sc], 23), (g_v2, #[.int .i64 lx, .int .i64 sx, .int .u8 ox, .int .i64 stx, .int .i64 ix, .int .i64 vex, .slice A4 n4 c4], 25), (g + 1, #[.int .i64 tlz, .int .i64 tsz, .int .u8 toz, .int .i64 tez, .slice Iz imz mcz, .slice Bz kz dz, .int .i64 trz], 34), (g, #[.int .i64 lx, .int .i64 sx, .int .u8 ox, .int .i64 stx, .int .i64 ix, .int .i64 vex, .slice Ax nx cx], 25)] [(S, xn + 4, sealed entry bs), (A4, n4, bsx), (D, dn, []), (C, cn, sealed entry (encA ⟨lx, sx, ox, stx, ix, vex, bsx⟩)), (X, xn, bs), (Bz, kz, tbz), (Ax, nx, bsx)] [(Iz, imz, Lz)] [(p, entry)] from ⟨fun q hq => HK.out.rows q (.tail _ (.tail _ hq)), fun q hq => HK.out.reads q (.tail _ (.tail _ hq)), fun q hq => HK.out.ils q (.tail _ hq), HK.out.tabs⟩)
              go_roundw
              case rel => exact ⟨j + 1, by have := HJ.out; omega, by go_num, (⟨KL.out, HB.out⟩ : _ ∧ _)⟩
              case measure => have := HJ.out; simp [Go.RowKit.intOf]; omega
            · obtain ⟨e1, e2, hne1, hne2, hgA, hgT⟩ := hcs
              have b1 : (e1 == 0) = false := by simpa using hne1
              have b2 : (e2 == 0) = false := by simpa using hne2
              clear hne1 hne2
              have HG := Lib.hid (And.intro hgA hgT)
              clear hgA hgT
              go_wp2_with fail
              refine (getA_is wr (HK.out.tabs _ (.head _)).1 (HK.out.tabs _ (.head _)).2 (HK.out.reads _ (.head _)) (show yn ≤ 1000000 by omega) hyc).mono ?_
              rintro e u1 ⟨A14, n14, c14, rfl, ho4, hb⟩
              rw [HG.out.1] at ho4 ⊢
              simp only [zeroA] at ho4 ⊢
              have hW : Below wr.heap.size wr u1 := hb
              replace HK := Lib.hid (HK.out.below hW (Nat.le_refl _))
              replace HB := Lib.hid (HB.out.trans (hW.mono HB.out.size))
              clear hW
              clear ho4 hb
              obtain ⟨g_u2, h_u2⟩ : ∃ g, u1.heap.size = g := ⟨_, rfl⟩
              obtain ⟨u2, e⟩ : ∃ x, u1.alloc (.cells #[.int .i64 0, .int .i64 0, .int .u8 0, .int .i64 0, .int .i64 0, .int .i64 0, .slice A14 n14 c14] 25) = x := ⟨_, rfl⟩
              obtain ⟨hW, hx⟩ := box_new e
              rw [h_u2] at hx
              have Eu2 := Lib.hid e
              clear e
              replace hx := Lib.hid hx
              replace HK := Lib.hid (HK.out.below hW (Nat.le_refl _))
              replace HB := Lib.hid (HB.out.trans (hW.mono HB.out.size))
              clear hW
              replace HK := Lib.hid (HK.out.row (show Row u2 (g_u2) #[.int .i64 0, .int .i64 0, .int .u8 0, .int .i64 0, .int .i64 0, .int .i64 0, .slice A14 n14 c14] 25 from hx.out))
              clear hx
              go_wp2_with fail
              rw [Eu2.out]
              clear Eu2
              refine (getT_is u2 (HK.out.tabs _ (.head _)).1 (HK.out.tabs _ (.head _)).2 (HK.out.reads _ (.head _)) (show yn ≤ 1000000 by omega) hyc).mono ?_
              rintro e u4 ⟨I16, m16, mc16, A16, n16, c16, rfl, hi6, hm6, ho6, hb⟩
              rw [HG.out.2] at hi6 ho6 ⊢
              simp only [zeroT] at hi6 ho6 ⊢
              have hW : Below u2.heap.size u2 u4 := hb
              replace HK := Lib.hid (HK.out.below hW (Nat.le_refl _))
              replace HB := Lib.hid (HB.out.trans (hW.mono HB.out.size))
              clear hW
              clear ho6 hi6 hb
              obtain ⟨g_u5, h_u5⟩ : ∃ g, u4.heap.size = g := ⟨_, rfl⟩
              obtain ⟨u5, e⟩ : ∃ x, u4.alloc (.cells #[.int .i64 0, .int .i64 0, .int .u8 0, .int .i64 0, .slice I16 m16 mc16, .slice A16 n16 c16, .int .i64 0] 34) = x := ⟨_, rfl⟩
              obtain ⟨hW, hx⟩ := box_new e
              rw [h_u5] at hx
              have Eu5 := Lib.hid e
              clear e
              replace hx := Lib.hid hx
              replace HK := Lib.hid (HK.out.below hW (Nat.le_refl _))
              replace HB := Lib.hid (HB.out.trans (hW.mono HB.out.size))
              clear hW
              replace HK := Lib.hid (HK.out.row (show Row u5 (g_u5) #[.int .i64 0, .int .i64 0, .int .u8 0, .int .i64 0, .slice I16 m16 mc16, .slice A16 n16 c16, .int .i64 0] 34 from hx.out))
              clear hx
              go_wp2
              rw [Eu5.out]
              clear Eu5
              have KL := Lib.hid (show Keep u5 [(g_y2, #[.slice X xn xc, .slice S (xn + 4) sc], 23), (g_v2, #[.int .i64 lx, .int .i64 sx, .int .u8 ox, .int .i64 stx, .int .i64 ix, .int .i64 vex, .slice A4 n4 c4], 25), (g + 1, #[.int .i64 tlz, .int .i64 tsz, .int .u8 toz, .int .i64 tez, .slice Iz imz mcz, .slice Bz kz dz, .int .i64 trz], 34), (g, #[.int .i64 lx, .int .i64 sx, .int .u8 ox, .int .i64 stx, .int .i64 ix, .int .i64 vex, .slice Ax nx cx], 25)] [(S, xn + 4, sealed entry bs), (A4, n4, bsx), (D, dn, []), (C, cn, sealed entry (encA ⟨lx, sx, ox, stx, ix, vex, bsx⟩)), (X, xn, bs), (Bz, kz, tbz), (Ax, nx, bsx)] [(Iz, imz, Lz)] [(p, entry)] from ⟨fun q hq => HK.out.rows q (.tail _ (.tail _ hq)), fun q hq => HK.out.reads q (.tail _ hq), fun q hq => HK.out.ils q hq, HK.out.tabs⟩)
              go_roundw
              case rel => exact ⟨j + 1, by have := HJ.out; omega, by go_num, (⟨KL.out, HB.out⟩ : _ ∧ _)⟩
              case measure => have := HJ.out; simp [Go.RowKit.intOf]; omega
          · obtain rfl : j = 2 := by omega
            go_wp2_with fail
            refine (awake_is _).mono ?_
            rintro e wz ⟨rfl, hb⟩
            have hW : Below wr.heap.size wr wz := hb
            replace HK := Lib.hid (HK.out.below hW (Nat.le_refl _))
            replace HB := Lib.hid (HB.out.trans (hW.mono HB.out.size))
            clear hW
            go_wp2
            go_ret
            exact told_mk (by simp) HB.out
    · have kRx := Lib.hid (decide_eq_false HRx)
      replace HRx := Lib.hid HRx
      by_cases HRz : RightT ⟨tlz, tsz, toz, tez, Lz, tbz, trz⟩
      · have kRz := Lib.hid (decide_eq_true HRz)
        replace HRz := Lib.hid HRz
        have hs1 := q1
        have q1 := Lib.hid (decide_eq_true q1)
        obtain ⟨Z, hZs, hz⟩ := zero39
        have HZ := Lib.hid hZs
        clear hZs
        have hz25 := (zero_of_info zero25).1
        have hz34 := (zero_of_info zero34).1
        go_enter Try.func5, Try.ntmps5
        obtain ⟨a0, a1, a2, a3, a4, a5, a6⟩ := arr7 (w := (World.alloc (World.alloc w (.cells #[.int .i64 lx, .int .i64 sx, .int .u8 ox, .int .i64 stx, .int .i64 ix, .int .i64 vex, .slice Ax nx cx] 25)) (.cells #[.int .i64 tlz, .int .i64 tsz, .int .u8 toz, .int .i64 tez, .slice Iz imz mcz, .slice Bz kz dz, .int .i64 trz] 34))) (by rw [Ew2.out, Ew3.out]; exact (HK.out.rows _ (.tail _ (.head _))))
        obtain ⟨b0, b1, b2, b3, b4, b5, b6⟩ := arr7 (w := (World.alloc (World.alloc w (.cells #[.int .i64 lx, .int .i64 sx, .int .u8 ox, .int .i64 stx, .int .i64 ix, .int .i64 vex, .slice Ax nx cx] 25)) (.cells #[.int .i64 tlz, .int .i64 tsz, .int .u8 toz, .int .i64 tez, .slice Iz imz mcz, .slice Bz kz dz, .int .i64 trz] 34))) (by rw [Ew2.out, Ew3.out]; exact (HK.out.rows _ (.head _)))
        go_wp2_with fail
        rw [Ew2.out]
        rw [Ew3.out]
        clear Ew2 Ew3
        refine (small_is w3 lx sx ox stx ix vex tlz tsz toz tez trz q1.out).mono ?_
        rintro e w4 ⟨rfl, hb⟩
        have hW : Below w3.heap.size w3 w4 := hb
        replace HK := Lib.hid (HK.out.below hW (Nat.le_refl _))
        replace HB := Lib.hid (HB.out.trans (hW.mono HB.out.size))
        clear hW
        clear a0 a1 a2 a3 a4 a5 a6 b0 b1 b2 b3 b4 b5 b6 hb
        have hA4 : ∀ u, Below w4.heap.size w4 u → Row u g #[.int .i64 lx, .int .i64 sx, .int .u8 ox, .int .i64 stx, .int .i64 ix, .int .i64 vex, .slice Ax nx cx] 25 := fun u hu => (HK.out.rows _ (.tail _ (.head _))).below hu (Nat.le_refl _)
        go_upto_region 4 with (first
          | (go_at_call 12; refine (table_any _).mono ?_; rintro e w1 ⟨rfl, hb1⟩; rw [show tarr ((List.range 256).map entry) = T0 from rfl])
          | ((with_reducible refine wpList_store_new (o := ⟨none, .store 39 (.tmp 7) (.tmp 36), _, _, _, _⟩) ?_ 39 (.tmp 7) (.tmp 36) ?_ T0 Z ?_ ?_ 39 size39' HZ.out T0_one ?_)
             case refine_1 => rfl
             case refine_2 => rfl
             case refine_3 => rfl
             case refine_4 => rfl))
        have hW : Below w4.heap.size w4 w1 := hb1
        clear hb1 hz hA4
        replace HK := Lib.hid (HK.out.below hW (Nat.le_refl _))
        replace HB := Lib.hid (HB.out.trans (hW.mono HB.out.size))
        clear hW
        obtain ⟨p, hp⟩ : ∃ p, w1.heap.size = p := ⟨_, rfl⟩
        obtain ⟨wT, e⟩ : ∃ x, w1.alloc (.cells T0 39) = x := ⟨_, rfl⟩
        obtain ⟨hW, hx⟩ := box_new e
        rw [hp] at hx
        have EwT := Lib.hid e
        clear e
        replace hx := Lib.hid hx
        replace HK := Lib.hid (HK.out.below hW (Nat.le_refl _))
        replace HB := Lib.hid (HB.out.trans (hW.mono HB.out.size))
        clear hW
        clear hx
        have hTb : Tb wT p entry := by rw [← EwT.out, ← hp]; exact ⟨tab_new w1 (0, 0), by rw [size_alloc]; simp⟩
        replace HK := Lib.hid (HK.out.tab (hTb))
        clear hTb
        rw [EwT.out]
        clear EwT
        (try rw [hp])
        obtain ⟨a0, a1, a2, a3, a4, a5, a6⟩ := arr7 (w := wT) (by exact (HK.out.rows _ (.tail _ (.head _))))
        have HPx := Lib.hid (show putA entry ⟨lx, sx, ox, stx, ix, vex, bsx⟩ = ([], 110) by unfold putA; rw [if_neg HRx.out])
        have HPz := Lib.hid (show putT entry ⟨tlz, tsz, toz, tez, Lz, tbz, trz⟩ = (sealed entry (encT ⟨tlz, tsz, toz, tez, Lz, tbz, trz⟩), 0) by unfold putT; rw [if_pos HRz.out])
        go_wp2_with fail
        refine (putA_is wT (HK.out.tabs _ (.head _)).1 (HK.out.tabs _ (.head _)).2 lx sx ox stx ix vex bsx (HK.out.reads _ (.tail _ (.tail _ (.head _)))) (show nx ≤ 1000000 by omega)).mono ?_
        rintro e w6 ⟨C, cn, cc, rfl, hoc, hb⟩
        rw [HPx.out] at hoc ⊢
        simp only at hoc ⊢
        clear a0 a1 a2 a3 a4 a5 a6
        have hW : Below wT.heap.size wT w6 := hb
        replace HK := Lib.hid (HK.out.below hW (Nat.le_refl _))
        replace HB := Lib.hid (HB.out.trans (hW.mono HB.out.size))
        clear hW
        replace HK := Lib.hid (HK.out.read (hoc.rd))
        have hcC := hoc.cap
        have hlC := hoc.len
        clear hoc hb
        obtain ⟨a0, a1, a2, a3, a4, a5, a6⟩ := arr7 (w := w6) (by exact (HK.out.rows _ (.head _)))
        go_wp2_with fail
        refine (putT_is w6 (HK.out.tabs _ (.head _)).1 (HK.out.tabs _ (.head _)).2 tlz tsz toz tez trz (HK.out.ils _ (.head _)) (show imz ≤ 1000000 by omega) tbz (HK.out.reads _ (.tail _ (.tail _ (.head _)))) (show kz ≤ 1000000 by omega)).mono ?_
        rintro e w7 ⟨D, dn, dc, rfl, hod, hb⟩
        rw [HPz.out] at hod ⊢
        simp only at hod ⊢
        clear a0 a1 a2 a3 a4 a5 a6
        have hW : Below w6.heap.size w6 w7 := hb
        replace HK := Lib.hid (HK.out.below hW (Nat.le_refl _))
        replace HB := Lib.hid (HB.out.trans (hW.mono HB.out.size))
        clear hW
        replace HK := Lib.hid (HK.out.read (hod.rd))
        have hcD := hod.cap
        have hlD := hod.len
        clear hod hb
        have szD : dn ≤ 1000000 := by have := encT_len ⟨tlz, tsz, toz, tez, Lz, tbz, trz⟩; have h2 := HRz.out.2.2.2.2.1; have h3 := HRz.out.2.2.2.2.2.1; rw [sealed_length] at hlD; simp only at this h2 h3; omega
        clear hlC hlD
        obtain ⟨a0, a1, a2, a3, a4, a5, a6⟩ := arr7 (w := w7) (by exact (HK.out.rows _ (.tail _ (.head _))))
        go_wp2_with fail
        refine (rightA_is w7 lx sx ox stx ix vex bsx Ax nx cx lenx kRx.out).mono ?_
        rintro e w8 ⟨rfl, hb⟩
        have hW : Below w7.heap.size w7 w8 := hb
        replace HK := Lib.hid (HK.out.below hW (Nat.le_refl _))
        replace HB := Lib.hid (HB.out.trans (hW.mono HB.out.size))
        clear hW
        clear a0 a1 a2 a3 a4 a5 a6 hb
        obtain ⟨a0, a1, a2, a3, a4, a5, a6⟩ := arr7 (w := w8) (by exact (HK.out.rows _ (.head _)))
        go_wp2_with fail
        refine (rightT_is w8 tlz tsz toz tez trz (HK.out.ils _ (.head _)) (show imz ≤ 1000000 by omega) Bz kz dz tbz (HK.out.reads _ (.tail _ (.tail _ (.tail _ (.head _))))).len kRz.out).mono ?_
        rintro e w9 ⟨rfl, hb⟩
        have hW : Below w8.heap.size w8 w9 := hb
        replace HK := Lib.hid (HK.out.below hW (Nat.le_refl _))
        replace HB := Lib.hid (HB.out.trans (hW.mono HB.out.size))
        clear hW
        clear a0 a1 a2 a3 a4 a5 a6 hb
        go_wp2_with fail
        refine (getT_is w9 (HK.out.tabs _ (.head _)).1 (HK.out.tabs _ (.head _)).2 (HK.out.reads _ (.head _)) szD hcD).mono ?_
        rintro e x1 ⟨I7, m7, mc7, A7, n7, c7, rfl, hi7, hm7, ho7, hb⟩
        rw [getT_put HRz.out] at hi7 ho7 ⊢
        simp only at hi7 ho7 ⊢
        have hW : Below w9.heap.size w9 x1 := hb
        replace HK := Lib.hid (HK.out.below hW (Nat.le_refl _))
        replace HB := Lib.hid (HB.out.trans (hW.mono HB.out.size))
        clear hW
        replace HK := Lib.hid (HK.out.read (ho7.rd))
        replace HK := Lib.hid (HK.out.il (ownK_il hi7))
        have hm7b := hm7
        clear ho7 hi7 hm7 hb
        obtain ⟨g_x2, h_x2⟩ : ∃ g, x1.heap.size = g := ⟨_, rfl⟩
        obtain ⟨x2, e⟩ : ∃ x, x1.alloc (.cells #[.int .i64 tlz, .int .i64 tsz, .int .u8 toz, .int .i64 tez, .slice I7 m7 mc7, .slice A7 n7 c7, .int .i64 trz] 34) = x := ⟨_, rfl⟩
        obtain ⟨hW, hx⟩ := box_new e
        rw [h_x2] at hx
        have Ex2 := Lib.hid e
        clear e
        replace hx := Lib.hid hx
        replace HK := Lib.hid (HK.out.below hW (Nat.le_refl _))
        replace HB := Lib.hid (HB.out.trans (hW.mono HB.out.size))
        clear hW
        replace HK := Lib.hid (HK.out.row (show Row x2 (g_x2) #[.int .i64 tlz, .int .i64 tsz, .int .u8 toz, .int .i64 tez, .slice I7 m7 mc7, .slice A7 n7 c7, .int .i64 trz] 34 from hx.out))
        clear hx
        go_wp2_with fail
        rw [Ex2.out]
        clear Ex2
        refine (getA_is x2 (HK.out.tabs _ (.head _)).1 (HK.out.tabs _ (.head _)).2 (HK.out.reads _ (.tail _ (.head _))) szD hcD).mono ?_
        rintro e x3 ⟨A8, n8, c8, rfl, ho8, hb⟩
        rw [getA_putT] at ho8 ⊢
        simp only [zeroA] at ho8 ⊢
        have hW : Below x2.heap.size x2 x3 := hb
        replace HK := Lib.hid (HK.out.below hW (Nat.le_refl _))
        replace HB := Lib.hid (HB.out.trans (hW.mono HB.out.size))
        clear hW
        clear ho8 hb
        obtain ⟨g_x4, h_x4⟩ : ∃ g, x3.heap.size = g := ⟨_, rfl⟩
        obtain ⟨x4, e⟩ : ∃ x, x3.alloc (.cells #[.int .i64 0, .int .i64 0, .int .u8 0, .int .i64 0, .int .i64 0, .int .i64 0, .slice A8 n8 c8] 25) = x := ⟨_, rfl⟩
        obtain ⟨hW, hx⟩ := box_new e
        rw [h_x4] at hx
        have Ex4 := Lib.hid e
        clear e
        replace hx := Lib.hid hx
        replace HK := Lib.hid (HK.out.below hW (Nat.le_refl _))
        replace HB := Lib.hid (HB.out.trans (hW.mono HB.out.size))
        clear hW
        clear hx
        obtain ⟨a0, a1, a2, a3, a4, a5, a6⟩ := arr7 (w := (World.alloc x3 (.cells #[.int .i64 0, .int .i64 0, .int .u8 0, .int .i64 0, .int .i64 0, .int .i64 0, .slice A8 n8 c8] 25))) (by rw [Ex4.out]; exact (HK.out.rows _ (.tail _ (.head _))))
        obtain ⟨b0, b1, b2, b3, b4, b5, b6⟩ := arr7 (w := (World.alloc x3 (.cells #[.int .i64 0, .int .i64 0, .int .u8 0, .int .i64 0, .int .i64 0, .int .i64 0, .slice A8 n8 c8] 25))) (by rw [Ex4.out]; exact (HK.out.rows _ (.head _)))
        go_wp2_with fail
        rw [Ex4.out]
        clear Ex4
        refine (sameT_is x4 tlz tsz toz tez trz tlz tsz toz tez trz Lz Lz tbz tbz (HK.out.ils _ (.head _)) (HK.out.ils _ (.tail _ (.head _))) (show m7 ≤ 1000000 by omega) (HK.out.reads _ (.head _)) (HK.out.reads _ (.tail _ (.tail _ (.tail _ (.tail _ (.head _)))))) (q := true) (by simp)).mono ?_
        rintro e x5 ⟨rfl, hb⟩
        have hW : Below x4.heap.size x4 x5 := hb
        replace HK := Lib.hid (HK.out.below hW (Nat.le_refl _))
        replace HB := Lib.hid (HB.out.trans (hW.mono HB.out.size))
        clear hW
        clear a0 a1 a2 a3 a4 a5 a6 b0 b1 b2 b3 b4 b5 b6 hb
        go_wp2_with fail
        refine (seal_any ⟨p, 0, none⟩ entry X xn xc bs x5 (HK.out.tabs _ (.head _)).1 (HK.out.reads _ (.tail _ (.tail _ (.tail _ (.head _))))) (show xn ≤ 70368744177664 by omega)).mono ?_
        rintro e y1 ⟨S, sc, rfl, hos, hb⟩
        have hW : Below x5.heap.size x5 y1 := hb
        replace HK := Lib.hid (HK.out.below hW (Nat.le_refl _))
        replace HB := Lib.hid (HB.out.trans (hW.mono HB.out.size))
        clear hW
        replace HK := Lib.hid (HK.out.read (hos.rd))
        have hcS := hos.cap
        clear hos hb
        obtain ⟨g_y2, h_y2⟩ : ∃ g, y1.heap.size = g := ⟨_, rfl⟩
        obtain ⟨y2, e⟩ : ∃ x, y1.alloc (.cells #[.slice X xn xc, .slice S (xn + 4) sc] 23) = x := ⟨_, rfl⟩
        obtain ⟨hW, hx⟩ := box_new e
        rw [h_y2] at hx
        have Ey2 := Lib.hid e
        clear e
        replace hx := Lib.hid hx
        replace HK := Lib.hid (HK.out.below hW (Nat.le_refl _))
        replace HB := Lib.hid (HB.out.trans (hW.mono HB.out.size))
        clear hW
        replace HK := Lib.hid (HK.out.row (show Row y2 (g_y2) #[.slice X xn xc, .slice S (xn + 4) sc] 23 from hx.out))
        clear hx
        go_wp2
        rw [Ey2.out]
        clear Ey2
        have hrel0 := Lib.hid (And.intro HK.out HB.out)
        go_loopw [21, 22, 23, 24, 25, 26, 27, 28, 29, 112] (fun _ _ _ _ _ _ _ _ _ s112 wr => ∃ j : Nat, j ≤ 2 ∧ s112 = .int .i64 (j : Int) ∧ Hid (Keep wr [(g_y2, #[.slice X xn xc, .slice S (xn + 4) sc], 23), (g_x2, #[.int .i64 tlz, .int .i64 tsz, .int .u8 toz, .int .i64 tez, .slice I7 m7 mc7, .slice A7 n7 c7, .int .i64 trz], 34), (g + 1, #[.int .i64 tlz, .int .i64 tsz, .int .u8 toz, .int .i64 tez, .slice Iz imz mcz, .slice Bz kz dz, .int .i64 trz], 34), (g, #[.int .i64 lx, .int .i64 sx, .int .u8 ox, .int .i64 stx, .int .i64 ix, .int .i64 vex, .slice Ax nx cx], 25)] [(S, xn + 4, sealed entry bs), (A7, n7, tbz), (D, dn, sealed entry (encT ⟨tlz, tsz, toz, tez, Lz, tbz, trz⟩)), (C, cn, []), (X, xn, bs), (Bz, kz, tbz), (Ax, nx, bsx)] [(I7, m7, Lz), (Iz, imz, Lz)] [(p, entry)] ∧ Below w.heap.size w wr)) (fun _ _ _ _ _ _ _ _ _ s112 _ => 2 - (Go.RowKit.intOf s112).toNat)
        case atStart => exact ⟨0, by omega, rfl, hrel0.out⟩
        case round =>
          obtain ⟨j, hj, rfl, HR⟩ := hrel
          clear HK HB hrel0
          have HK := Lib.hid HR.out.1
          have HB := Lib.hid HR.out.2
          clear HR
          by_cases hlt : j < 2
          · obtain ⟨Y, yn, yc, ybs, hcell, hRd, hyc, hyn⟩ : ∃ (Y : Option Addr) (yn yc : Nat) (ybs : List UInt8), wr.cell? ⟨g_y2, j, none⟩ = some (.slice Y yn yc) ∧ Rd wr Y yn ybs ∧ yn ≤ yc ∧ yn ≤ 1004 := by
              rcases (show j = 0 ∨ j = 1 by omega) with rfl | rfl
              · exact ⟨X, xn, xc, bs, cell_of_row wr g_y2 0 _ 23 (0, 0) (HK.out.rows _ (.head _)), (HK.out.reads _ (.tail _ (.tail _ (.tail _ (.tail _ (.head _)))))), hxc, by omega⟩
              · exact ⟨S, xn + 4, sc, sealed entry bs, cell_of_row wr g_y2 1 _ 23 (0, 0) (HK.out.rows _ (.head _)), (HK.out.reads _ (.head _)), hcS, by omega⟩
            have hi1 : (0 : Int) ≤ (j : Int) := by omega
            have hi2 : (j : Int) < 2 := by omega
            have hwk : IntKind.i64.wrap ((j : Int) + 1) = (j : Int) + 1 := IntWalk.i64_in _ (by omega)
            have HJ := Lib.hid hlt
            clear hlt
            replace HK := Lib.hid (HK.out.read (hRd))
            clear hRd
            rcases back_cases ybs with hcs | hcs | hcs
            · obtain ⟨a, hRa, hyl, hgA, hgT⟩ := hcs
              have HRa := Lib.hid (And.intro hRa hyl)
              clear hRa hyl
              have HG := Lib.hid (And.intro hgA hgT)
              clear hgA hgT
              obtain ⟨al, asq, ao, ast, ai, av, ab⟩ := a
              go_wp2_with fail
              refine (getA_is wr (HK.out.tabs _ (.head _)).1 (HK.out.tabs _ (.head _)).2 (HK.out.reads _ (.head _)) (show yn ≤ 1000000 by omega) hyc).mono ?_
              rintro e u1 ⟨A14, n14, c14, rfl, ho4, hb⟩
              rw [HG.out.1] at ho4 ⊢
              simp only at ho4 ⊢
              have hW : Below wr.heap.size wr u1 := hb
              replace HK := Lib.hid (HK.out.below hW (Nat.le_refl _))
              replace HB := Lib.hid (HB.out.trans (hW.mono HB.out.size))
              clear hW
              replace HK := Lib.hid (HK.out.read (ho4.rd))
              have sz4 : n14 ≤ 1000000 := by have h1 := ho4.len; have h2 := HRa.out.1.2.2; unfold mostB at h2; simp only at h2; split at h2 <;> omega
              clear ho4 hb
              obtain ⟨g_u2, h_u2⟩ : ∃ g, u1.heap.size = g := ⟨_, rfl⟩
              obtain ⟨u2, e⟩ : ∃ x, u1.alloc (.cells #[.int .i64 al, .int .i64 asq, .int .u8 ao, .int .i64 ast, .int .i64 ai, .int .i64 av, .slice A14 n14 c14] 25) = x := ⟨_, rfl⟩
              obtain ⟨hW, hx⟩ := box_new e
              rw [h_u2] at hx
              have Eu2 := Lib.hid e
              clear e
              replace hx := Lib.hid hx
              replace HK := Lib.hid (HK.out.below hW (Nat.le_refl _))
              replace HB := Lib.hid (HB.out.trans (hW.mono HB.out.size))
              clear hW
              replace HK := Lib.hid (HK.out.row (show Row u2 (g_u2) #[.int .i64 al, .int .i64 asq, .int .u8 ao, .int .i64 ast, .int .i64 ai, .int .i64 av, .slice A14 n14 c14] 25 from hx.out))
              clear hx
              obtain ⟨a0, a1, a2, a3, a4, a5, a6⟩ := arr7 (w := (World.alloc u1 (.cells #[.int .i64 al, .int .i64 asq, .int .u8 ao, .int .i64 ast, .int .i64 ai, .int .i64 av, .slice A14 n14 c14] 25))) (by rw [Eu2.out]; exact (HK.out.rows _ (.head _)))
              go_wp2_with fail
              rw [Eu2.out]
              clear Eu2
              refine (putA_is u2 (HK.out.tabs _ (.head _)).1 (HK.out.tabs _ (.head _)).2 al asq ao ast ai av ab (HK.out.reads _ (.head _)) sz4).mono ?_
              rintro e u3 ⟨P, pn, pc, rfl, hop, hb⟩
              rw [show putA entry ⟨al, asq, ao, ast, ai, av, ab⟩ = (ybs, 0) by unfold putA; rw [if_pos HRa.out.1, ← HRa.out.2]] at hop ⊢
              simp only at hop ⊢
              clear a0 a1 a2 a3 a4 a5 a6
              have hW : Below u2.heap.size u2 u3 := hb
              replace HK := Lib.hid (HK.out.below hW (Nat.le_refl _))
              replace HB := Lib.hid (HB.out.trans (hW.mono HB.out.size))
              clear hW
              have hopr := hop.rd
              clear hop hb
              go_wp2_with fail
              refine (sameB_is u3 hopr (HK.out.reads _ (.tail _ (.head _))) (q := true) (by simp)).mono ?_
              rintro e _ ⟨rfl, rfl⟩
              clear hopr
              go_wp2_with fail
              refine (getT_is u3 (HK.out.tabs _ (.head _)).1 (HK.out.tabs _ (.head _)).2 (HK.out.reads _ (.tail _ (.head _))) (show yn ≤ 1000000 by omega) hyc).mono ?_
              rintro e u4 ⟨I16, m16, mc16, A16, n16, c16, rfl, hi6, hm6, ho6, hb⟩
              rw [HG.out.2] at hi6 ho6 ⊢
              simp only [zeroT] at hi6 ho6 ⊢
              have hW : Below u3.heap.size u3 u4 := hb
              replace HK := Lib.hid (HK.out.below hW (Nat.le_refl _))
              replace HB := Lib.hid (HB.out.trans (hW.mono HB.out.size))
              clear hW
              clear ho6 hi6 hb
              obtain ⟨g_u5, h_u5⟩ : ∃ g, u4.heap.size = g := ⟨_, rfl⟩
              obtain ⟨u5, e⟩ : ∃ x, u4.alloc (.cells #[.int .i64 0, .int .i64 0, .int .u8 0, .int .i64 0, .slice I16 m16 mc16, .slice A16 n16 c16, .int .i64 0] 34) = x := ⟨_, rfl⟩
              obtain ⟨hW, hx⟩ := box_new e
              rw [h_u5] at hx
              have Eu5 := Lib.hid e
              clear e
              replace hx := Lib.hid hx
              replace HK := Lib.hid (HK.out.below hW (Nat.le_refl _))
              replace HB := Lib.hid (HB.out.trans (hW.mono HB.out.size))
              clear hW
              replace HK := Lib.hid (HK.out.row (show Row u5 (g_u5) #[.int .i64 0, .int .i64 0, .int .u8 0, .int .i64 0, .slice I16 m16 mc16, .slice A16 n16 c16, .int .i64 0] 34 from hx.out))
              clear hx
              go_wp2
              rw [Eu5.out]
              clear Eu5
              have KL := Lib.hid (show Keep u5 [(g_y2, #[.slice X xn xc, .slice S (xn + 4) sc], 23), (g_x2, #[.int .i64 tlz, .int .i64 tsz, .int .u8 toz, .int .i64 tez, .slice I7 m7 mc7, .slice A7 n7 c7, .int .i64 trz], 34), (g + 1, #[.int .i64 tlz, .int .i64 tsz, .int .u8 toz, .int .i64 tez, .slice Iz imz mcz, .slice Bz kz dz, .int .i64 trz], 34), (g, #[.int .i64 lx, .int .i64 sx, .int .u8 ox, .int .i64 stx, .int .i64 ix, .int .i64 vex, .slice Ax nx cx], 25)] [(S, xn + 4, sealed entry bs), (A7, n7, tbz), (D, dn, sealed entry (encT ⟨tlz, tsz, toz, tez, Lz, tbz, trz⟩)), (C, cn, []), (X, xn, bs), (Bz, kz, tbz), (Ax, nx, bsx)] [(I7, m7, Lz), (Iz, imz, Lz)] [(p, entry)] from ⟨fun q hq => HK.out.rows q (.tail _ (.tail _ hq)), fun q hq => HK.out.reads q (.tail _ (.tail _ hq)), fun q hq => HK.out.ils q hq, HK.out.tabs⟩)
              go_roundw
              case rel => exact ⟨j + 1, by have := HJ.out; omega, by go_num, (⟨KL.out, HB.out⟩ : _ ∧ _)⟩
              case measure => have := HJ.out; simp [Go.RowKit.intOf]; omega
            · obtain ⟨a, hRa, hyl, hgA, hgT⟩ := hcs
              have HRa := Lib.hid (And.intro hRa hyl)
              clear hRa hyl
              have HG := Lib.hid (And.intro hgA hgT)
              clear hgA hgT
              obtain ⟨al, asq, ao, ae, aL, ab, ar⟩ := a
              go_wp2_with fail
              refine (getA_is wr (HK.out.tabs _ (.head _)).1 (HK.out.tabs _ (.head _)).2 (HK.out.reads _ (.head _)) (show yn ≤ 1000000 by omega) hyc).mono ?_
              rintro e u1 ⟨A14, n14, c14, rfl, ho4, hb⟩
              rw [HG.out.1] at ho4 ⊢
              simp only [zeroA] at ho4 ⊢
              have hW : Below wr.heap.size wr u1 := hb
              replace HK := Lib.hid (HK.out.below hW (Nat.le_refl _))
              replace HB := Lib.hid (HB.out.trans (hW.mono HB.out.size))
              clear hW
              clear ho4 hb
              obtain ⟨g_u2, h_u2⟩ : ∃ g, u1.heap.size = g := ⟨_, rfl⟩
              obtain ⟨u2, e⟩ : ∃ x, u1.alloc (.cells #[.int .i64 0, .int .i64 0, .int .u8 0, .int .i64 0, .int .i64 0, .int .i64 0, .slice A14 n14 c14] 25) = x := ⟨_, rfl⟩
              obtain ⟨hW, hx⟩ := box_new e
              rw [h_u2] at hx
              have Eu2 := Lib.hid e
              clear e
              replace hx := Lib.hid hx
              replace HK := Lib.hid (HK.out.below hW (Nat.le_refl _))
              replace HB := Lib.hid (HB.out.trans (hW.mono HB.out.size))
              clear hW
              replace HK := Lib.hid (HK.out.row (show Row u2 (g_u2) #[.int .i64 0, .int .i64 0, .int .u8 0, .int .i64 0, .int .i64 0, .int .i64 0, .slice A14 n14 c14] 25 from hx.out))
              clear hx
              go_wp2_with fail
              rw [Eu2.out]
              clear Eu2
              refine (getT_is u2 (HK.out.tabs _ (.head _)).1 (HK.out.tabs _ (.head _)).2 (HK.out.reads _ (.head _)) (show yn ≤ 1000000 by omega) hyc).mono ?_
              rintro e u4 ⟨I16, m16, mc16, A16, n16, c16, rfl, hi6, hm6, ho6, hb⟩
              rw [HG.out.2] at hi6 ho6 ⊢
              simp only at hi6 ho6 ⊢
              have hW : Below u2.heap.size u2 u4 := hb
              replace HK := Lib.hid (HK.out.below hW (Nat.le_refl _))
              replace HB := Lib.hid (HB.out.trans (hW.mono HB.out.size))
              clear hW
              replace HK := Lib.hid (HK.out.read (ho6.rd))
              replace HK := Lib.hid (HK.out.il (ownK_il hi6))
              have sz6 : n16 ≤ 1000000 := by have h1 := ho6.len; have h2 := HRa.out.1.2.2.2.2.2.1; simp only at h2; omega
              have sm6 : m16 ≤ 1000000 := by omega
              clear ho6 hi6 hb
              obtain ⟨g_u5, h_u5⟩ : ∃ g, u4.heap.size = g := ⟨_, rfl⟩
              obtain ⟨u5, e⟩ : ∃ x, u4.alloc (.cells #[.int .i64 al, .int .i64 asq, .int .u8 ao, .int .i64 ae, .slice I16 m16 mc16, .slice A16 n16 c16, .int .i64 ar] 34) = x := ⟨_, rfl⟩
              obtain ⟨hW, hx⟩ := box_new e
              rw [h_u5] at hx
              have Eu5 := Lib.hid e
              clear e
              replace hx := Lib.hid hx
              replace HK := Lib.hid (HK.out.below hW (Nat.le_refl _))
              replace HB := Lib.hid (HB.out.trans (hW.mono HB.out.size))
              clear hW
              replace HK := Lib.hid (HK.out.row (show Row u5 (g_u5) #[.int .i64 al, .int .i64 asq, .int .u8 ao, .int .i64 ae, .slice I16 m16 mc16, .slice A16 n16 c16, .int .i64 ar] 34 from hx.out))
              clear hx
              obtain ⟨a0, a1, a2, a3, a4, a5, a6⟩ := arr7 (w := (World.alloc u4 (.cells #[.int .i64 al, .int .i64 asq, .int .u8 ao, .int .i64 ae, .slice I16 m16 mc16, .slice A16 n16 c16, .int .i64 ar] 34))) (by rw [Eu5.out]; exact (HK.out.rows _ (.head _)))
              go_wp2_with fail
              rw [Eu5.out]
              clear Eu5
              refine (putT_is u5 (HK.out.tabs _ (.head _)).1 (HK.out.tabs _ (.head _)).2 al asq ao ae ar (HK.out.ils _ (.head _)) sm6 ab (HK.out.reads _ (.head _)) sz6).mono ?_
              rintro e u6 ⟨P, pn, pc, rfl, hop, hb⟩
              rw [show putT entry ⟨al, asq, ao, ae, aL, ab, ar⟩ = (ybs, 0) by unfold putT; rw [if_pos HRa.out.1, ← HRa.out.2]] at hop ⊢
              simp only at hop ⊢
              clear a0 a1 a2 a3 a4 a5 a6
              have hW : Below u5.heap.size u5 u6 := hb
              replace HK := Lib.hid (HK.out.below hW (Nat.le_refl _))
              replace HB := Lib.hid (HB.out.trans (hW.mono HB.out.size))
              clear hW
              have hopr := hop.rd
              clear hop hb
              go_wp2_with fail
              refine (sameB_is u6 hopr (HK.out.reads _ (.tail _ (.head _))) (q := true) (by simp)).mono ?_
              rintro e _ ⟨rfl, rfl⟩
              clear hopr
              go_wp2
              have KL := Lib.hid (show Keep u6 [(g_y2, #[.slice X xn xc, .slice S (xn + 4) sc], 23), (g_x2, #[.int .i64 tlz, .int .i64 tsz, .int .u8 toz, .int .i64 tez, .slice I7 m7 mc7, .slice A7 n7 c7, .int .i64 trz], 34), (g + 1, #[.int .i64 tlz, .int .i64 tsz, .int .u8 toz, .int .i64 tez, .slice Iz imz mcz, .slice Bz kz dz, .int .i64 trz], 34), (g, #[.int .i64 lx, .int .i64 sx, .int .u8 ox, .int .i64 stx, .int .i64 ix, .int .i64 vex, .slice Ax nx cx], 25)] [(S, xn + 4, sealed entry bs), (A7, n7, tbz), (D, dn, sealed entry (encT ⟨tlz, tsz, toz, tez, Lz, tbz, trz⟩)), (C, cn, []), (X, xn, bs), (Bz, kz, tbz), (Ax, nx, bsx)] [(I7, m7, Lz), (Iz, imz, Lz)] [(p, entry)] from ⟨fun q hq => HK.out.rows q (.tail _ (.tail _ hq)), fun q hq => HK.out.reads q (.tail _ (.tail _ hq)), fun q hq => HK.out.ils q (.tail _ hq), HK.out.tabs⟩)
              go_roundw
              case rel => exact ⟨j + 1, by have := HJ.out; omega, by go_num, (⟨KL.out, HB.out⟩ : _ ∧ _)⟩
              case measure => have := HJ.out; simp [Go.RowKit.intOf]; omega
            · obtain ⟨e1, e2, hne1, hne2, hgA, hgT⟩ := hcs
              have b1 : (e1 == 0) = false := by simpa using hne1
              have b2 : (e2 == 0) = false := by simpa using hne2
              clear hne1 hne2
              have HG := Lib.hid (And.intro hgA hgT)
              clear hgA hgT
              go_wp2_with fail
              refine (getA_is wr (HK.out.tabs _ (.head _)).1 (HK.out.tabs _ (.head _)).2 (HK.out.reads _ (.head _)) (show yn ≤ 1000000 by omega) hyc).mono ?_
              rintro e u1 ⟨A14, n14, c14, rfl, ho4, hb⟩
              rw [HG.out.1] at ho4 ⊢
              simp only [zeroA] at ho4 ⊢
              have hW : Below wr.heap.size wr u1 := hb
              replace HK := Lib.hid (HK.out.below hW (Nat.le_refl _))
              replace HB := Lib.hid (HB.out.trans (hW.mono HB.out.size))
              clear hW
              clear ho4 hb
              obtain ⟨g_u2, h_u2⟩ : ∃ g, u1.heap.size = g := ⟨_, rfl⟩
              obtain ⟨u2, e⟩ : ∃ x, u1.alloc (.cells #[.int .i64 0, .int .i64 0, .int .u8 0, .int .i64 0, .int .i64 0, .int .i64 0, .slice A14 n14 c14] 25) = x := ⟨_, rfl⟩
              obtain ⟨hW, hx⟩ := box_new e
              rw [h_u2] at hx
              have Eu2 := Lib.hid e
              clear e
              replace hx := Lib.hid hx
              replace HK := Lib.hid (HK.out.below hW (Nat.le_refl _))
              replace HB := Lib.hid (HB.out.trans (hW.mono HB.out.size))
              clear hW
              replace HK := Lib.hid (HK.out.row (show Row u2 (g_u2) #[.int .i64 0, .int .i64 0, .int .u8 0, .int .i64 0, .int .i64 0, .int .i64 0, .slice A14 n14 c14] 25 from hx.out))
              clear hx
              go_wp2_with fail
              rw [Eu2.out]
              clear Eu2
              refine (getT_is u2 (HK.out.tabs _ (.head _)).1 (HK.out.tabs _ (.head _)).2 (HK.out.reads _ (.head _)) (show yn ≤ 1000000 by omega) hyc).mono ?_
              rintro e u4 ⟨I16, m16, mc16, A16, n16, c16, rfl, hi6, hm6, ho6, hb⟩
              rw [HG.out.2] at hi6 ho6 ⊢
              simp only [zeroT] at hi6 ho6 ⊢
              have hW : Below u2.heap.size u2 u4 := hb
              replace HK := Lib.hid (HK.out.below hW (Nat.le_refl _))
              replace HB := Lib.hid (HB.out.trans (hW.mono HB.out.size))
              clear hW
              clear ho6 hi6 hb
              obtain ⟨g_u5, h_u5⟩ : ∃ g, u4.heap.size = g := ⟨_, rfl⟩
              obtain ⟨u5, e⟩ : ∃ x, u4.alloc (.cells #[.int .i64 0, .int .i64 0, .int .u8 0, .int .i64 0, .slice I16 m16 mc16, .slice A16 n16 c16, .int .i64 0] 34) = x := ⟨_, rfl⟩
              obtain ⟨hW, hx⟩ := box_new e
              rw [h_u5] at hx
              have Eu5 := Lib.hid e
              clear e
              replace hx := Lib.hid hx
              replace HK := Lib.hid (HK.out.below hW (Nat.le_refl _))
              replace HB := Lib.hid (HB.out.trans (hW.mono HB.out.size))
              clear hW
              replace HK := Lib.hid (HK.out.row (show Row u5 (g_u5) #[.int .i64 0, .int .i64 0, .int .u8 0, .int .i64 0, .slice I16 m16 mc16, .slice A16 n16 c16, .int .i64 0] 34 from hx.out))
              clear hx
              go_wp2
              rw [Eu5.out]
              clear Eu5
              have KL := Lib.hid (show Keep u5 [(g_y2, #[.slice X xn xc, .slice S (xn + 4) sc], 23), (g_x2, #[.int .i64 tlz, .int .i64 tsz, .int .u8 toz, .int .i64 tez, .slice I7 m7 mc7, .slice A7 n7 c7, .int .i64 trz], 34), (g + 1, #[.int .i64 tlz, .int .i64 tsz, .int .u8 toz, .int .i64 tez, .slice Iz imz mcz, .slice Bz kz dz, .int .i64 trz], 34), (g, #[.int .i64 lx, .int .i64 sx, .int .u8 ox, .int .i64 stx, .int .i64 ix, .int .i64 vex, .slice Ax nx cx], 25)] [(S, xn + 4, sealed entry bs), (A7, n7, tbz), (D, dn, sealed entry (encT ⟨tlz, tsz, toz, tez, Lz, tbz, trz⟩)), (C, cn, []), (X, xn, bs), (Bz, kz, tbz), (Ax, nx, bsx)] [(I7, m7, Lz), (Iz, imz, Lz)] [(p, entry)] from ⟨fun q hq => HK.out.rows q (.tail _ (.tail _ hq)), fun q hq => HK.out.reads q (.tail _ hq), fun q hq => HK.out.ils q hq, HK.out.tabs⟩)
              go_roundw
              case rel => exact ⟨j + 1, by have := HJ.out; omega, by go_num, (⟨KL.out, HB.out⟩ : _ ∧ _)⟩
              case measure => have := HJ.out; simp [Go.RowKit.intOf]; omega
          · obtain rfl : j = 2 := by omega
            go_wp2_with fail
            refine (awake_is _).mono ?_
            rintro e wz ⟨rfl, hb⟩
            have hW : Below wr.heap.size wr wz := hb
            replace HK := Lib.hid (HK.out.below hW (Nat.le_refl _))
            replace HB := Lib.hid (HB.out.trans (hW.mono HB.out.size))
            clear hW
            go_wp2
            go_ret
            exact told_mk (by simp) HB.out
      · have kRz := Lib.hid (decide_eq_false HRz)
        replace HRz := Lib.hid HRz
        have hs1 := q1
        have q1 := Lib.hid (decide_eq_true q1)
        obtain ⟨Z, hZs, hz⟩ := zero39
        have HZ := Lib.hid hZs
        clear hZs
        have hz25 := (zero_of_info zero25).1
        have hz34 := (zero_of_info zero34).1
        go_enter Try.func5, Try.ntmps5
        obtain ⟨a0, a1, a2, a3, a4, a5, a6⟩ := arr7 (w := (World.alloc (World.alloc w (.cells #[.int .i64 lx, .int .i64 sx, .int .u8 ox, .int .i64 stx, .int .i64 ix, .int .i64 vex, .slice Ax nx cx] 25)) (.cells #[.int .i64 tlz, .int .i64 tsz, .int .u8 toz, .int .i64 tez, .slice Iz imz mcz, .slice Bz kz dz, .int .i64 trz] 34))) (by rw [Ew2.out, Ew3.out]; exact (HK.out.rows _ (.tail _ (.head _))))
        obtain ⟨b0, b1, b2, b3, b4, b5, b6⟩ := arr7 (w := (World.alloc (World.alloc w (.cells #[.int .i64 lx, .int .i64 sx, .int .u8 ox, .int .i64 stx, .int .i64 ix, .int .i64 vex, .slice Ax nx cx] 25)) (.cells #[.int .i64 tlz, .int .i64 tsz, .int .u8 toz, .int .i64 tez, .slice Iz imz mcz, .slice Bz kz dz, .int .i64 trz] 34))) (by rw [Ew2.out, Ew3.out]; exact (HK.out.rows _ (.head _)))
        go_wp2_with fail
        rw [Ew2.out]
        rw [Ew3.out]
        clear Ew2 Ew3
        refine (small_is w3 lx sx ox stx ix vex tlz tsz toz tez trz q1.out).mono ?_
        rintro e w4 ⟨rfl, hb⟩
        have hW : Below w3.heap.size w3 w4 := hb
        replace HK := Lib.hid (HK.out.below hW (Nat.le_refl _))
        replace HB := Lib.hid (HB.out.trans (hW.mono HB.out.size))
        clear hW
        clear a0 a1 a2 a3 a4 a5 a6 b0 b1 b2 b3 b4 b5 b6 hb
        have hA4 : ∀ u, Below w4.heap.size w4 u → Row u g #[.int .i64 lx, .int .i64 sx, .int .u8 ox, .int .i64 stx, .int .i64 ix, .int .i64 vex, .slice Ax nx cx] 25 := fun u hu => (HK.out.rows _ (.tail _ (.head _))).below hu (Nat.le_refl _)
        go_upto_region 4 with (first
          | (go_at_call 12; refine (table_any _).mono ?_; rintro e w1 ⟨rfl, hb1⟩; rw [show tarr ((List.range 256).map entry) = T0 from rfl])
          | ((with_reducible refine wpList_store_new (o := ⟨none, .store 39 (.tmp 7) (.tmp 36), _, _, _, _⟩) ?_ 39 (.tmp 7) (.tmp 36) ?_ T0 Z ?_ ?_ 39 size39' HZ.out T0_one ?_)
             case refine_1 => rfl
             case refine_2 => rfl
             case refine_3 => rfl
             case refine_4 => rfl))
        have hW : Below w4.heap.size w4 w1 := hb1
        clear hb1 hz hA4
        replace HK := Lib.hid (HK.out.below hW (Nat.le_refl _))
        replace HB := Lib.hid (HB.out.trans (hW.mono HB.out.size))
        clear hW
        obtain ⟨p, hp⟩ : ∃ p, w1.heap.size = p := ⟨_, rfl⟩
        obtain ⟨wT, e⟩ : ∃ x, w1.alloc (.cells T0 39) = x := ⟨_, rfl⟩
        obtain ⟨hW, hx⟩ := box_new e
        rw [hp] at hx
        have EwT := Lib.hid e
        clear e
        replace hx := Lib.hid hx
        replace HK := Lib.hid (HK.out.below hW (Nat.le_refl _))
        replace HB := Lib.hid (HB.out.trans (hW.mono HB.out.size))
        clear hW
        clear hx
        have hTb : Tb wT p entry := by rw [← EwT.out, ← hp]; exact ⟨tab_new w1 (0, 0), by rw [size_alloc]; simp⟩
        replace HK := Lib.hid (HK.out.tab (hTb))
        clear hTb
        rw [EwT.out]
        clear EwT
        (try rw [hp])
        obtain ⟨a0, a1, a2, a3, a4, a5, a6⟩ := arr7 (w := wT) (by exact (HK.out.rows _ (.tail _ (.head _))))
        have HPx := Lib.hid (show putA entry ⟨lx, sx, ox, stx, ix, vex, bsx⟩ = ([], 110) by unfold putA; rw [if_neg HRx.out])
        have HPz := Lib.hid (show putT entry ⟨tlz, tsz, toz, tez, Lz, tbz, trz⟩ = ([], 110) by unfold putT; rw [if_neg HRz.out])
        go_wp2_with fail
        refine (putA_is wT (HK.out.tabs _ (.head _)).1 (HK.out.tabs _ (.head _)).2 lx sx ox stx ix vex bsx (HK.out.reads _ (.tail _ (.tail _ (.head _)))) (show nx ≤ 1000000 by omega)).mono ?_
        rintro e w6 ⟨C, cn, cc, rfl, hoc, hb⟩
        rw [HPx.out] at hoc ⊢
        simp only at hoc ⊢
        clear a0 a1 a2 a3 a4 a5 a6
        have hW : Below wT.heap.size wT w6 := hb
        replace HK := Lib.hid (HK.out.below hW (Nat.le_refl _))
        replace HB := Lib.hid (HB.out.trans (hW.mono HB.out.size))
        clear hW
        replace HK := Lib.hid (HK.out.read (hoc.rd))
        have hcC := hoc.cap
        have hlC := hoc.len
        clear hoc hb
        obtain ⟨a0, a1, a2, a3, a4, a5, a6⟩ := arr7 (w := w6) (by exact (HK.out.rows _ (.head _)))
        go_wp2_with fail
        refine (putT_is w6 (HK.out.tabs _ (.head _)).1 (HK.out.tabs _ (.head _)).2 tlz tsz toz tez trz (HK.out.ils _ (.head _)) (show imz ≤ 1000000 by omega) tbz (HK.out.reads _ (.tail _ (.tail _ (.head _)))) (show kz ≤ 1000000 by omega)).mono ?_
        rintro e w7 ⟨D, dn, dc, rfl, hod, hb⟩
        rw [HPz.out] at hod ⊢
        simp only at hod ⊢
        clear a0 a1 a2 a3 a4 a5 a6
        have hW : Below w6.heap.size w6 w7 := hb
        replace HK := Lib.hid (HK.out.below hW (Nat.le_refl _))
        replace HB := Lib.hid (HB.out.trans (hW.mono HB.out.size))
        clear hW
        replace HK := Lib.hid (HK.out.read (hod.rd))
        have hcD := hod.cap
        have hlD := hod.len
        clear hod hb
        clear hlC hlD
        obtain ⟨a0, a1, a2, a3, a4, a5, a6⟩ := arr7 (w := w7) (by exact (HK.out.rows _ (.tail _ (.head _))))
        go_wp2_with fail
        refine (rightA_is w7 lx sx ox stx ix vex bsx Ax nx cx lenx kRx.out).mono ?_
        rintro e w8 ⟨rfl, hb⟩
        have hW : Below w7.heap.size w7 w8 := hb
        replace HK := Lib.hid (HK.out.below hW (Nat.le_refl _))
        replace HB := Lib.hid (HB.out.trans (hW.mono HB.out.size))
        clear hW
        clear a0 a1 a2 a3 a4 a5 a6 hb
        obtain ⟨a0, a1, a2, a3, a4, a5, a6⟩ := arr7 (w := w8) (by exact (HK.out.rows _ (.head _)))
        go_wp2_with fail
        refine (rightT_is w8 tlz tsz toz tez trz (HK.out.ils _ (.head _)) (show imz ≤ 1000000 by omega) Bz kz dz tbz (HK.out.reads _ (.tail _ (.tail _ (.tail _ (.head _))))).len kRz.out).mono ?_
        rintro e w9 ⟨rfl, hb⟩
        have hW : Below w8.heap.size w8 w9 := hb
        replace HK := Lib.hid (HK.out.below hW (Nat.le_refl _))
        replace HB := Lib.hid (HB.out.trans (hW.mono HB.out.size))
        clear hW
        clear a0 a1 a2 a3 a4 a5 a6 hb
        go_wp2_with fail
        refine (seal_any ⟨p, 0, none⟩ entry X xn xc bs w9 (HK.out.tabs _ (.head _)).1 (HK.out.reads _ (.tail _ (.tail _ (.head _)))) (show xn ≤ 70368744177664 by omega)).mono ?_
        rintro e y1 ⟨S, sc, rfl, hos, hb⟩
        have hW : Below w9.heap.size w9 y1 := hb
        replace HK := Lib.hid (HK.out.below hW (Nat.le_refl _))
        replace HB := Lib.hid (HB.out.trans (hW.mono HB.out.size))
        clear hW
        replace HK := Lib.hid (HK.out.read (hos.rd))
        have hcS := hos.cap
        clear hos hb
        obtain ⟨g_y2, h_y2⟩ : ∃ g, y1.heap.size = g := ⟨_, rfl⟩
        obtain ⟨y2, e⟩ : ∃ x, y1.alloc (.cells #[.slice X xn xc, .slice S (xn + 4) sc] 23) = x := ⟨_, rfl⟩
        obtain ⟨hW, hx⟩ := box_new e
        rw [h_y2] at hx
        have Ey2 := Lib.hid e
        clear e
        replace hx := Lib.hid hx
        replace HK := Lib.hid (HK.out.below hW (Nat.le_refl _))
        replace HB := Lib.hid (HB.out.trans (hW.mono HB.out.size))
        clear hW
        replace HK := Lib.hid (HK.out.row (show Row y2 (g_y2) #[.slice X xn xc, .slice S (xn + 4) sc] 23 from hx.out))
        clear hx
        go_wp2
        rw [Ey2.out]
        clear Ey2
        have hrel0 := Lib.hid (And.intro HK.out HB.out)
        go_loopw [21, 22, 23, 24, 25, 26, 27, 28, 29, 112] (fun _ _ _ _ _ _ _ _ _ s112 wr => ∃ j : Nat, j ≤ 2 ∧ s112 = .int .i64 (j : Int) ∧ Hid (Keep wr [(g_y2, #[.slice X xn xc, .slice S (xn + 4) sc], 23), (g + 1, #[.int .i64 tlz, .int .i64 tsz, .int .u8 toz, .int .i64 tez, .slice Iz imz mcz, .slice Bz kz dz, .int .i64 trz], 34), (g, #[.int .i64 lx, .int .i64 sx, .int .u8 ox, .int .i64 stx, .int .i64 ix, .int .i64 vex, .slice Ax nx cx], 25)] [(S, xn + 4, sealed entry bs), (D, dn, []), (C, cn, []), (X, xn, bs), (Bz, kz, tbz), (Ax, nx, bsx)] [(Iz, imz, Lz)] [(p, entry)] ∧ Below w.heap.size w wr)) (fun _ _ _ _ _ _ _ _ _ s112 _ => 2 - (Go.RowKit.intOf s112).toNat)
        case atStart => exact ⟨0, by omega, rfl, hrel0.out⟩
        case round =>
          obtain ⟨j, hj, rfl, HR⟩ := hrel
          clear HK HB hrel0
          have HK := Lib.hid HR.out.1
          have HB := Lib.hid HR.out.2
          clear HR
          by_cases hlt : j < 2
          · obtain ⟨Y, yn, yc, ybs, hcell, hRd, hyc, hyn⟩ : ∃ (Y : Option Addr) (yn yc : Nat) (ybs : List UInt8), wr.cell? ⟨g_y2, j, none⟩ = some (.slice Y yn yc) ∧ Rd wr Y yn ybs ∧ yn ≤ yc ∧ yn ≤ 1004 := by
              rcases (show j = 0 ∨ j = 1 by omega) with rfl | rfl
              · exact ⟨X, xn, xc, bs, cell_of_row wr g_y2 0 _ 23 (0, 0) (HK.out.rows _ (.head _)), (HK.out.reads _ (.tail _ (.tail _ (.tail _ (.head _))))), hxc, by omega⟩
              · exact ⟨S, xn + 4, sc, sealed entry bs, cell_of_row wr g_y2 1 _ 23 (0, 0) (HK.out.rows _ (.head _)), (HK.out.reads _ (.head _)), hcS, by omega⟩
            have hi1 : (0 : Int) ≤ (j : Int) := by omega
            have hi2 : (j : Int) < 2 := by omega
            have hwk : IntKind.i64.wrap ((j : Int) + 1) = (j : Int) + 1 := IntWalk.i64_in _ (by omega)
            have HJ := Lib.hid hlt
            clear hlt
            replace HK := Lib.hid (HK.out.read (hRd))
            clear hRd
            rcases back_cases ybs with hcs | hcs | hcs
            · obtain ⟨a, hRa, hyl, hgA, hgT⟩ := hcs
              have HRa := Lib.hid (And.intro hRa hyl)
              clear hRa hyl
              have HG := Lib.hid (And.intro hgA hgT)
              clear hgA hgT
              obtain ⟨al, asq, ao, ast, ai, av, ab⟩ := a
              go_wp2_with fail
              refine (getA_is wr (HK.out.tabs _ (.head _)).1 (HK.out.tabs _ (.head _)).2 (HK.out.reads _ (.head _)) (show yn ≤ 1000000 by omega) hyc).mono ?_
              rintro e u1 ⟨A14, n14, c14, rfl, ho4, hb⟩
              rw [HG.out.1] at ho4 ⊢
              simp only at ho4 ⊢
              have hW : Below wr.heap.size wr u1 := hb
              replace HK := Lib.hid (HK.out.below hW (Nat.le_refl _))
              replace HB := Lib.hid (HB.out.trans (hW.mono HB.out.size))
              clear hW
              replace HK := Lib.hid (HK.out.read (ho4.rd))
              have sz4 : n14 ≤ 1000000 := by have h1 := ho4.len; have h2 := HRa.out.1.2.2; unfold mostB at h2; simp only at h2; split at h2 <;> omega
              clear ho4 hb
              obtain ⟨g_u2, h_u2⟩ : ∃ g, u1.heap.size = g := ⟨_, rfl⟩
              obtain ⟨u2, e⟩ : ∃ x, u1.alloc (.cells #[.int .i64 al, .int .i64 asq, .int .u8 ao, .int .i64 ast, .int .i64 ai, .int .i64 av, .slice A14 n14 c14] 25) = x := ⟨_, rfl⟩
              obtain ⟨hW, hx⟩ := box_new e
              rw [h_u2] at hx
              have Eu2 := Lib.hid e
              clear e
              replace hx := Lib.hid hx
              replace HK := Lib.hid (HK.out.below hW (Nat.le_refl _))
              replace HB := Lib.hid (HB.out.trans (hW.mono HB.out.size))
              clear hW
              replace HK := Lib.hid (HK.out.row (show Row u2 (g_u2) #[.int .i64 al, .int .i64 asq, .int .u8 ao, .int .i64 ast, .int .i64 ai, .int .i64 av, .slice A14 n14 c14] 25 from hx.out))
              clear hx
              obtain ⟨a0, a1, a2, a3, a4, a5, a6⟩ := arr7 (w := (World.alloc u1 (.cells #[.int .i64 al, .int .i64 asq, .int .u8 ao, .int .i64 ast, .int .i64 ai, .int .i64 av, .slice A14 n14 c14] 25))) (by rw [Eu2.out]; exact (HK.out.rows _ (.head _)))
              go_wp2_with fail
              rw [Eu2.out]
              clear Eu2
              refine (putA_is u2 (HK.out.tabs _ (.head _)).1 (HK.out.tabs _ (.head _)).2 al asq ao ast ai av ab (HK.out.reads _ (.head _)) sz4).mono ?_
              rintro e u3 ⟨P, pn, pc, rfl, hop, hb⟩
              rw [show putA entry ⟨al, asq, ao, ast, ai, av, ab⟩ = (ybs, 0) by unfold putA; rw [if_pos HRa.out.1, ← HRa.out.2]] at hop ⊢
              simp only at hop ⊢
              clear a0 a1 a2 a3 a4 a5 a6
              have hW : Below u2.heap.size u2 u3 := hb
              replace HK := Lib.hid (HK.out.below hW (Nat.le_refl _))
              replace HB := Lib.hid (HB.out.trans (hW.mono HB.out.size))
              clear hW
              have hopr := hop.rd
              clear hop hb
              go_wp2_with fail
              refine (sameB_is u3 hopr (HK.out.reads _ (.tail _ (.head _))) (q := true) (by simp)).mono ?_
              rintro e _ ⟨rfl, rfl⟩
              clear hopr
              go_wp2_with fail
              refine (getT_is u3 (HK.out.tabs _ (.head _)).1 (HK.out.tabs _ (.head _)).2 (HK.out.reads _ (.tail _ (.head _))) (show yn ≤ 1000000 by omega) hyc).mono ?_
              rintro e u4 ⟨I16, m16, mc16, A16, n16, c16, rfl, hi6, hm6, ho6, hb⟩
              rw [HG.out.2] at hi6 ho6 ⊢
              simp only [zeroT] at hi6 ho6 ⊢
              have hW : Below u3.heap.size u3 u4 := hb
              replace HK := Lib.hid (HK.out.below hW (Nat.le_refl _))
              replace HB := Lib.hid (HB.out.trans (hW.mono HB.out.size))
              clear hW
              clear ho6 hi6 hb
              obtain ⟨g_u5, h_u5⟩ : ∃ g, u4.heap.size = g := ⟨_, rfl⟩
              obtain ⟨u5, e⟩ : ∃ x, u4.alloc (.cells #[.int .i64 0, .int .i64 0, .int .u8 0, .int .i64 0, .slice I16 m16 mc16, .slice A16 n16 c16, .int .i64 0] 34) = x := ⟨_, rfl⟩
              obtain ⟨hW, hx⟩ := box_new e
              rw [h_u5] at hx
              have Eu5 := Lib.hid e
              clear e
              replace hx := Lib.hid hx
              replace HK := Lib.hid (HK.out.below hW (Nat.le_refl _))
              replace HB := Lib.hid (HB.out.trans (hW.mono HB.out.size))
              clear hW
              replace HK := Lib.hid (HK.out.row (show Row u5 (g_u5) #[.int .i64 0, .int .i64 0, .int .u8 0, .int .i64 0, .slice I16 m16 mc16, .slice A16 n16 c16, .int .i64 0] 34 from hx.out))
              clear hx
              go_wp2
              rw [Eu5.out]
              clear Eu5
              have KL := Lib.hid (show Keep u5 [(g_y2, #[.slice X xn xc, .slice S (xn + 4) sc], 23), (g + 1, #[.int .i64 tlz, .int .i64 tsz, .int .u8 toz, .int .i64 tez, .slice Iz imz mcz, .slice Bz kz dz, .int .i64 trz], 34), (g, #[.int .i64 lx, .int .i64 sx, .int .u8 ox, .int .i64 stx, .int .i64 ix, .int .i64 vex, .slice Ax nx cx], 25)] [(S, xn + 4, sealed entry bs), (D, dn, []), (C, cn, []), (X, xn, bs), (Bz, kz, tbz), (Ax, nx, bsx)] [(Iz, imz, Lz)] [(p, entry)] from ⟨fun q hq => HK.out.rows q (.tail _ (.tail _ hq)), fun q hq => HK.out.reads q (.tail _ (.tail _ hq)), fun q hq => HK.out.ils q hq, HK.out.tabs⟩)
              go_roundw
              case rel => exact ⟨j + 1, by have := HJ.out; omega, by go_num, (⟨KL.out, HB.out⟩ : _ ∧ _)⟩
              case measure => have := HJ.out; simp [Go.RowKit.intOf]; omega
            · obtain ⟨a, hRa, hyl, hgA, hgT⟩ := hcs
              have HRa := Lib.hid (And.intro hRa hyl)
              clear hRa hyl
              have HG := Lib.hid (And.intro hgA hgT)
              clear hgA hgT
              obtain ⟨al, asq, ao, ae, aL, ab, ar⟩ := a
              go_wp2_with fail
              refine (getA_is wr (HK.out.tabs _ (.head _)).1 (HK.out.tabs _ (.head _)).2 (HK.out.reads _ (.head _)) (show yn ≤ 1000000 by omega) hyc).mono ?_
              rintro e u1 ⟨A14, n14, c14, rfl, ho4, hb⟩
              rw [HG.out.1] at ho4 ⊢
              simp only [zeroA] at ho4 ⊢
              have hW : Below wr.heap.size wr u1 := hb
              replace HK := Lib.hid (HK.out.below hW (Nat.le_refl _))
              replace HB := Lib.hid (HB.out.trans (hW.mono HB.out.size))
              clear hW
              clear ho4 hb
              obtain ⟨g_u2, h_u2⟩ : ∃ g, u1.heap.size = g := ⟨_, rfl⟩
              obtain ⟨u2, e⟩ : ∃ x, u1.alloc (.cells #[.int .i64 0, .int .i64 0, .int .u8 0, .int .i64 0, .int .i64 0, .int .i64 0, .slice A14 n14 c14] 25) = x := ⟨_, rfl⟩
              obtain ⟨hW, hx⟩ := box_new e
              rw [h_u2] at hx
              have Eu2 := Lib.hid e
              clear e
              replace hx := Lib.hid hx
              replace HK := Lib.hid (HK.out.below hW (Nat.le_refl _))
              replace HB := Lib.hid (HB.out.trans (hW.mono HB.out.size))
              clear hW
              replace HK := Lib.hid (HK.out.row (show Row u2 (g_u2) #[.int .i64 0, .int .i64 0, .int .u8 0, .int .i64 0, .int .i64 0, .int .i64 0, .slice A14 n14 c14] 25 from hx.out))
              clear hx
              go_wp2_with fail
              rw [Eu2.out]
              clear Eu2
              refine (getT_is u2 (HK.out.tabs _ (.head _)).1 (HK.out.tabs _ (.head _)).2 (HK.out.reads _ (.head _)) (show yn ≤ 1000000 by omega) hyc).mono ?_
              rintro e u4 ⟨I16, m16, mc16, A16, n16, c16, rfl, hi6, hm6, ho6, hb⟩
              rw [HG.out.2] at hi6 ho6 ⊢
              simp only at hi6 ho6 ⊢
              have hW : Below u2.heap.size u2 u4 := hb
              replace HK := Lib.hid (HK.out.below hW (Nat.le_refl _))
              replace HB := Lib.hid (HB.out.trans (hW.mono HB.out.size))
              clear hW
              replace HK := Lib.hid (HK.out.read (ho6.rd))
              replace HK := Lib.hid (HK.out.il (ownK_il hi6))
              have sz6 : n16 ≤ 1000000 := by have h1 := ho6.len; have h2 := HRa.out.1.2.2.2.2.2.1; simp only at h2; omega
              have sm6 : m16 ≤ 1000000 := by omega
              clear ho6 hi6 hb
              obtain ⟨g_u5, h_u5⟩ : ∃ g, u4.heap.size = g := ⟨_, rfl⟩
              obtain ⟨u5, e⟩ : ∃ x, u4.alloc (.cells #[.int .i64 al, .int .i64 asq, .int .u8 ao, .int .i64 ae, .slice I16 m16 mc16, .slice A16 n16 c16, .int .i64 ar] 34) = x := ⟨_, rfl⟩
              obtain ⟨hW, hx⟩ := box_new e
              rw [h_u5] at hx
              have Eu5 := Lib.hid e
              clear e
              replace hx := Lib.hid hx
              replace HK := Lib.hid (HK.out.below hW (Nat.le_refl _))
              replace HB := Lib.hid (HB.out.trans (hW.mono HB.out.size))
              clear hW
              replace HK := Lib.hid (HK.out.row (show Row u5 (g_u5) #[.int .i64 al, .int .i64 asq, .int .u8 ao, .int .i64 ae, .slice I16 m16 mc16, .slice A16 n16 c16, .int .i64 ar] 34 from hx.out))
              clear hx
              obtain ⟨a0, a1, a2, a3, a4, a5, a6⟩ := arr7 (w := (World.alloc u4 (.cells #[.int .i64 al, .int .i64 asq, .int .u8 ao, .int .i64 ae, .slice I16 m16 mc16, .slice A16 n16 c16, .int .i64 ar] 34))) (by rw [Eu5.out]; exact (HK.out.rows _ (.head _)))
              go_wp2_with fail
              rw [Eu5.out]
              clear Eu5
              refine (putT_is u5 (HK.out.tabs _ (.head _)).1 (HK.out.tabs _ (.head _)).2 al asq ao ae ar (HK.out.ils _ (.head _)) sm6 ab (HK.out.reads _ (.head _)) sz6).mono ?_
              rintro e u6 ⟨P, pn, pc, rfl, hop, hb⟩
              rw [show putT entry ⟨al, asq, ao, ae, aL, ab, ar⟩ = (ybs, 0) by unfold putT; rw [if_pos HRa.out.1, ← HRa.out.2]] at hop ⊢
              simp only at hop ⊢
              clear a0 a1 a2 a3 a4 a5 a6
              have hW : Below u5.heap.size u5 u6 := hb
              replace HK := Lib.hid (HK.out.below hW (Nat.le_refl _))
              replace HB := Lib.hid (HB.out.trans (hW.mono HB.out.size))
              clear hW
              have hopr := hop.rd
              clear hop hb
              go_wp2_with fail
              refine (sameB_is u6 hopr (HK.out.reads _ (.tail _ (.head _))) (q := true) (by simp)).mono ?_
              rintro e _ ⟨rfl, rfl⟩
              clear hopr
              go_wp2
              have KL := Lib.hid (show Keep u6 [(g_y2, #[.slice X xn xc, .slice S (xn + 4) sc], 23), (g + 1, #[.int .i64 tlz, .int .i64 tsz, .int .u8 toz, .int .i64 tez, .slice Iz imz mcz, .slice Bz kz dz, .int .i64 trz], 34), (g, #[.int .i64 lx, .int .i64 sx, .int .u8 ox, .int .i64 stx, .int .i64 ix, .int .i64 vex, .slice Ax nx cx], 25)] [(S, xn + 4, sealed entry bs), (D, dn, []), (C, cn, []), (X, xn, bs), (Bz, kz, tbz), (Ax, nx, bsx)] [(Iz, imz, Lz)] [(p, entry)] from ⟨fun q hq => HK.out.rows q (.tail _ (.tail _ hq)), fun q hq => HK.out.reads q (.tail _ (.tail _ hq)), fun q hq => HK.out.ils q (.tail _ hq), HK.out.tabs⟩)
              go_roundw
              case rel => exact ⟨j + 1, by have := HJ.out; omega, by go_num, (⟨KL.out, HB.out⟩ : _ ∧ _)⟩
              case measure => have := HJ.out; simp [Go.RowKit.intOf]; omega
            · obtain ⟨e1, e2, hne1, hne2, hgA, hgT⟩ := hcs
              have b1 : (e1 == 0) = false := by simpa using hne1
              have b2 : (e2 == 0) = false := by simpa using hne2
              clear hne1 hne2
              have HG := Lib.hid (And.intro hgA hgT)
              clear hgA hgT
              go_wp2_with fail
              refine (getA_is wr (HK.out.tabs _ (.head _)).1 (HK.out.tabs _ (.head _)).2 (HK.out.reads _ (.head _)) (show yn ≤ 1000000 by omega) hyc).mono ?_
              rintro e u1 ⟨A14, n14, c14, rfl, ho4, hb⟩
              rw [HG.out.1] at ho4 ⊢
              simp only [zeroA] at ho4 ⊢
              have hW : Below wr.heap.size wr u1 := hb
              replace HK := Lib.hid (HK.out.below hW (Nat.le_refl _))
              replace HB := Lib.hid (HB.out.trans (hW.mono HB.out.size))
              clear hW
              clear ho4 hb
              obtain ⟨g_u2, h_u2⟩ : ∃ g, u1.heap.size = g := ⟨_, rfl⟩
              obtain ⟨u2, e⟩ : ∃ x, u1.alloc (.cells #[.int .i64 0, .int .i64 0, .int .u8 0, .int .i64 0, .int .i64 0, .int .i64 0, .slice A14 n14 c14] 25) = x := ⟨_, rfl⟩
              obtain ⟨hW, hx⟩ := box_new e
              rw [h_u2] at hx
              have Eu2 := Lib.hid e
              clear e
              replace hx := Lib.hid hx
              replace HK := Lib.hid (HK.out.below hW (Nat.le_refl _))
              replace HB := Lib.hid (HB.out.trans (hW.mono HB.out.size))
              clear hW
              replace HK := Lib.hid (HK.out.row (show Row u2 (g_u2) #[.int .i64 0, .int .i64 0, .int .u8 0, .int .i64 0, .int .i64 0, .int .i64 0, .slice A14 n14 c14] 25 from hx.out))
              clear hx
              go_wp2_with fail
              rw [Eu2.out]
              clear Eu2
              refine (getT_is u2 (HK.out.tabs _ (.head _)).1 (HK.out.tabs _ (.head _)).2 (HK.out.reads _ (.head _)) (show yn ≤ 1000000 by omega) hyc).mono ?_
              rintro e u4 ⟨I16, m16, mc16, A16, n16, c16, rfl, hi6, hm6, ho6, hb⟩
              rw [HG.out.2] at hi6 ho6 ⊢
              simp only [zeroT] at hi6 ho6 ⊢
              have hW : Below u2.heap.size u2 u4 := hb
              replace HK := Lib.hid (HK.out.below hW (Nat.le_refl _))
              replace HB := Lib.hid (HB.out.trans (hW.mono HB.out.size))
              clear hW
              clear ho6 hi6 hb
              obtain ⟨g_u5, h_u5⟩ : ∃ g, u4.heap.size = g := ⟨_, rfl⟩
              obtain ⟨u5, e⟩ : ∃ x, u4.alloc (.cells #[.int .i64 0, .int .i64 0, .int .u8 0, .int .i64 0, .slice I16 m16 mc16, .slice A16 n16 c16, .int .i64 0] 34) = x := ⟨_, rfl⟩
              obtain ⟨hW, hx⟩ := box_new e
              rw [h_u5] at hx
              have Eu5 := Lib.hid e
              clear e
              replace hx := Lib.hid hx
              replace HK := Lib.hid (HK.out.below hW (Nat.le_refl _))
              replace HB := Lib.hid (HB.out.trans (hW.mono HB.out.size))
              clear hW
              replace HK := Lib.hid (HK.out.row (show Row u5 (g_u5) #[.int .i64 0, .int .i64 0, .int .u8 0, .int .i64 0, .slice I16 m16 mc16, .slice A16 n16 c16, .int .i64 0] 34 from hx.out))
              clear hx
              go_wp2
              rw [Eu5.out]
              clear Eu5
              have KL := Lib.hid (show Keep u5 [(g_y2, #[.slice X xn xc, .slice S (xn + 4) sc], 23), (g + 1, #[.int .i64 tlz, .int .i64 tsz, .int .u8 toz, .int .i64 tez, .slice Iz imz mcz, .slice Bz kz dz, .int .i64 trz], 34), (g, #[.int .i64 lx, .int .i64 sx, .int .u8 ox, .int .i64 stx, .int .i64 ix, .int .i64 vex, .slice Ax nx cx], 25)] [(S, xn + 4, sealed entry bs), (D, dn, []), (C, cn, []), (X, xn, bs), (Bz, kz, tbz), (Ax, nx, bsx)] [(Iz, imz, Lz)] [(p, entry)] from ⟨fun q hq => HK.out.rows q (.tail _ (.tail _ hq)), fun q hq => HK.out.reads q (.tail _ hq), fun q hq => HK.out.ils q hq, HK.out.tabs⟩)
              go_roundw
              case rel => exact ⟨j + 1, by have := HJ.out; omega, by go_num, (⟨KL.out, HB.out⟩ : _ ∧ _)⟩
              case measure => have := HJ.out; simp [Go.RowKit.intOf]; omega
          · obtain rfl : j = 2 := by omega
            go_wp2_with fail
            refine (awake_is _).mono ?_
            rintro e wz ⟨rfl, hb⟩
            have hW : Below wr.heap.size wr wz := hb
            replace HK := Lib.hid (HK.out.below hW (Nat.le_refl _))
            replace HB := Lib.hid (HB.out.trans (hW.mono HB.out.size))
            clear hW
            go_wp2
            go_ret
            exact told_mk (by simp) HB.out
  · have q1 := Lib.hid (decide_eq_false q1)
    go_enter Try.func5, Try.ntmps5
    obtain ⟨a0, a1, a2, a3, a4, a5, a6⟩ := arr7 (w := (World.alloc (World.alloc w (.cells #[.int .i64 lx, .int .i64 sx, .int .u8 ox, .int .i64 stx, .int .i64 ix, .int .i64 vex, .slice Ax nx cx] 25)) (.cells #[.int .i64 tlz, .int .i64 tsz, .int .u8 toz, .int .i64 tez, .slice Iz imz mcz, .slice Bz kz dz, .int .i64 trz] 34))) (by rw [Ew2.out, Ew3.out]; exact (HK.out.rows _ (.tail _ (.head _))))
    obtain ⟨b0, b1, b2, b3, b4, b5, b6⟩ := arr7 (w := (World.alloc (World.alloc w (.cells #[.int .i64 lx, .int .i64 sx, .int .u8 ox, .int .i64 stx, .int .i64 ix, .int .i64 vex, .slice Ax nx cx] 25)) (.cells #[.int .i64 tlz, .int .i64 tsz, .int .u8 toz, .int .i64 tez, .slice Iz imz mcz, .slice Bz kz dz, .int .i64 trz] 34))) (by rw [Ew2.out, Ew3.out]; exact (HK.out.rows _ (.head _)))
    go_wp2_with fail
    rw [Ew2.out]
    rw [Ew3.out]
    clear Ew2 Ew3
    refine (small_is w3 lx sx ox stx ix vex tlz tsz toz tez trz q1.out).mono ?_
    rintro e w4 ⟨rfl, hb⟩
    have hW : Below w3.heap.size w3 w4 := hb
    replace HK := Lib.hid (HK.out.below hW (Nat.le_refl _))
    replace HB := Lib.hid (HB.out.trans (hW.mono HB.out.size))
    clear hW
    clear a0 a1 a2 a3 a4 a5 a6 b0 b1 b2 b3 b4 b5 b6 hb
    go_wp2_with fail
    refine (awake_is _).mono ?_
    rintro e wz ⟨rfl, hb⟩
    have hW : Below w4.heap.size w4 wz := hb
    replace HK := Lib.hid (HK.out.below hW (Nat.le_refl _))
    replace HB := Lib.hid (HB.out.trans (hW.mono HB.out.size))
    clear hW
    go_wp2
    go_ret
    exact told_mk (by simp) HB.out
end
end Go.Proofs.Ytmiapegecoaccaa
