/- The law DiskNumbers. -/
import Derived.Test.YtlhhijhmjkgnaaaLawK
import Derived.Test.YtlhhijhmjkgnaaaLawS
namespace Go.Proofs.Ytlhhijhmjkgnaaa
open Go.RowKit Go.Coop
set_option maxRecDepth 100000
theorem Dk.cells {w w' : World} {B g : Nat} {S : DS} {b : Nat} {cs : Array Value} {T : TypeId} (h : Dk w B g S) (hb : w.heap[b]? = some (.cells cs T (0, 0))) (hT : T ≠ 59 ∧ T ≠ 77) (hn : But [b] w w') (hB : B ≤ b) : Dk w' B g S ∧ Below B w w' := by
  obtain ⟨h0, h1, m, c, h2, h3, h4⟩ := h
  have g1 : b ≠ g := by
    rintro rfl
    have := hb.symm.trans h4.blk
    injection this with e
    injection e with _ e _
    exact hT.1 e
  have g2 : b ≠ m := by
    rintro rfl
    have := hb.symm.trans h4.med
    injection this with e
    injection e with _ e _
    exact hT.2 e
  have g3 : b ≠ c := by
    rintro rfl
    obtain ⟨D, ⟨es, clock, hm, _⟩, _⟩ := h4.cache
    have := hb.symm.trans hm
    injection this with e
    cases e
  exact ⟨⟨Nat.le_trans h0 hn.size, h1, m, c, h2, h3, h4.but hn (by simp; exact fun e => g1 e.symm) (by simp; exact fun e => g2 e.symm) (by simp; exact fun e => g3 e.symm)⟩, hn.below h0 (by simp; exact hB)⟩
/-- a write, and a block beside the disk -/
theorem dk_write_keep (w : World) {B g : Nat} {S : DS} (h : Dk w B g S) (hd : S.down = false) (hf : S.fails = false) (i : Nat) (hi : i < S.n) {A : Option Addr} {l : List UInt8} (hr : Rd w A 64 l) (cap : Nat) {b : Nat} {cs : Array Value} {T : TypeId} (hb : w.heap[b]? = some (.cells cs T (0, 0))) (hT : T ≠ 59) : Calls Try.prog 13 #[.pointer (some ⟨g, 0, none⟩), .int .i64 (i : Int), .slice A 64 cap] w (fun e w' => DkP B g (S.took.put i l) (.int .i64 0) w e w' ∧ w'.heap[b]? = some (.cells cs T (0, 0))) := by
  obtain ⟨h0, h1, m, c, h2, h3, h4⟩ := h
  refine (write_goes w h4 hd hf hi hr cap).mono fun e w' ⟨he, hD, hB⟩ => ⟨⟨he, did h0 h1 h2 h3 h3 (by simp; try omega) hD hB⟩, hB.cells hb ?_⟩
  have g1 : b ≠ g := by
    rintro rfl
    have := hb.symm.trans h4.blk
    injection this with e
    injection e with _ e _
    exact hT e
  have g3 : b ≠ c := by
    rintro rfl
    obtain ⟨D, ⟨es, clock, hm, _⟩, _⟩ := h4.cache
    have := hb.symm.trans hm
    injection this with e
    cases e
  simp
  exact ⟨g1, g3⟩
theorem numbers_law (w : World) : Calls Try.prog 3 #[] w (LawP w) := by
  go_enter Try.func3, Try.ntmps3
  go_wp2
  have hh0 : (w.alloc (.cells #[.int .i64 0, .int .i64 (-1), .int .i64 65537] 3)).heap[w.heap.size]? = some (.cells #[.int .i64 0, .int .i64 (-1), .int .i64 65537] 3 (0, 0)) := heap_alloc_new w _
  have HB0 : Hid (Below w.heap.size w (w.alloc (.cells #[.int .i64 0, .int .i64 (-1), .int .i64 65537] 3))) := (Below.refl _ _).alloc (Nat.le_refl _) _
  obtain ⟨b0, hb0⟩ : ∃ b0, w.heap.size = b0 := ⟨_, rfl⟩
  rw [hb0] at hh0 HB0 ⊢
  generalize w.alloc (.cells #[.int .i64 0, .int .i64 (-1), .int .i64 65537] 3) = wa at hh0 HB0 ⊢
  have HH := Lib.hid hh0
  clear hh0
  go_loopw [29] (fun i wr => ∃ k : Nat, k ≤ 3 ∧ i = .int .i64 k ∧ wr = wa) (fun i _ => 3 - (Go.RowKit.intOf i).toNat)
  case atStart => exact ⟨0, by omega, rfl, rfl⟩
  case round =>
    obtain ⟨k, hk, rfl, rfl⟩ := hrel
    by_cases hlt : k < 3
    · obtain ⟨x, hx, hcell⟩ : ∃ x : Int, (x < 1 ∨ 65536 < x) ∧ wr.cell? ⟨b0, k, none⟩ = some (.int .i64 x) := by
        rw [cell_of_row wr b0 k _ 3 (0, 0) HH.out]
        match k, hlt with
        | 0, _ => exact ⟨0, by omega, rfl⟩
        | 1, _ => exact ⟨-1, by omega, rfl⟩
        | 2, _ => exact ⟨65537, by omega, rfl⟩
      have HX := Lib.hid hx
      clear hx
      go_wp2_with (go_at_call 11; refine (new_no x HX.out _).mono ?_; rintro e v1 ⟨rfl, rfl⟩)
      go_roundw
      case rel => exact ⟨k + 1, by omega, by go_num, by trivial⟩
      case measure => simp [Go.RowKit.intOf]; omega
    · obtain rfl : k = 3 := by omega
      subst hb0
      clear HH
      go_wp2_with fail
      refine (new_yes 65536 (by omega) (by omega) _).mono ?_
      rintro e w1 ⟨ga, ma, ca, rfl, hDa, h1, h2, h3, hB1⟩
      have HA := Lib.hid (And.intro hDa (And.intro h1 (And.intro h2 (And.intro h3 hB1))))
      clear hDa h1 h2 h3 hB1
      go_wp2_with fail
      refine (new_yes 2 (by omega) (by omega) _).mono ?_
      rintro e w2 ⟨g, mb, cb, rfl, hDb, h1, h2, h3, hB2⟩
      have hg := HA.out.1.g_lt
      have hm := HA.out.1.m_lt
      have hc := HA.out.1.c_lt
      have hs := HA.out.2.2.2.2.size
      have HT := Lib.hid (And.intro (⟨Nat.le_trans hs hB2.size, HA.out.1.below hB2 (Nat.le_refl _), hDb, ⟨by omega, by omega, by omega, by omega, by omega, by omega, by omega, by omega, by omega⟩, ⟨HA.out.2.1, HA.out.2.2.1, HA.out.2.2.2.1⟩, ⟨by omega, by omega, by omega⟩⟩ : Two w2 wr.heap.size ga ma ca g mb cb (DS.new 65536) (DS.new 2)) (HA.out.2.2.2.2.trans (hB2.mono hs)))
      clear hDb h1 h2 h3 hB2 hg hm hc hs HA
      go_wp2_with fail
      refine (size_yes _ HT.out.1.a).mono ?_
      rintro e w3 ⟨rfl, rfl⟩
      have hsz : (DS.new 65536).n = 65536 := rfl
      rw [hsz]
      clear hsz
      go_wp2_with fail
      refine (of_any 5 _).mono ?_
      rintro e w4 ⟨rfl, hw⟩
      have hb4 : Below w2.heap.size w2 w4 := by rw [hw]; exact (Below.refl _ _).alloc (Nat.le_refl _) _
      have hr4 : Rd w4 (some ⟨w2.heap.size, 0, none⟩) 64 (ofB 5) := by rw [hw]; exact rd_new w2 _ (ofB_len 5) 5
      have HT4 := Lib.hid (And.intro (HT.out.1.below hb4) (And.intro (HT.out.2.trans (hb4.mono HT.out.2.size)) hr4))
      clear hw hb4 hr4 HT
      go_wp2_with fail
      refine (dd_write_goes _ HT4.out.1.a rfl rfl (i := 65535) (by decide) HT4.out.2.2 _).mono ?_
      rintro e v1 hd
      obtain ⟨c2, rfl, hT5, hB5⟩ := HT4.out.1.stepA hd
      have HD1 : Hid (Dk v1 w.heap.size g (DS.new 2)) := Dk.lower (B := wr.heap.size) ⟨hT5.base, hT5.lb.1, mb, cb, hT5.lb.2.1, hT5.lb.2.2, hT5.b⟩ HB0.out.size
      have HB1 : Hid (Below w.heap.size w v1) := HB0.out.trans ((HT4.out.2.1.trans hB5).mono HB0.out.size)
      clear hd hT5 hB5 HT4 HB0
      go_wp2_with fail
      refine (of_any 1 _).mono ?_
      rintro e v2 ⟨rfl, hw⟩
      have hW : Below v1.heap.size v1 v2 := hw ▸ (Below.refl _ _).alloc (Nat.le_refl _) _
      have HD2 := Lib.hid (HD1.out.below hW)
      have HB2 : Hid (Below w.heap.size w v2) := HB1.out.trans (hW.mono HB1.out.size)
      have HR2 := Lib.hid ((hw ▸ rd_new _ (ofB 1) (ofB_len _) 5 : Rd v2 (some ⟨v1.heap.size, 0, none⟩) 64 (ofB 1)))
      clear hw
      clear hW HD1 HB1
      go_wp2_with fail
      refine (dk_write_sector _ HD2.out rfl (i := 2) (.inr (by decide)) _).mono ?_
      rintro e v3 ⟨rfl, hD, hB⟩
      have hW : Below w.heap.size v2 v3 := hB
      have HB3 : Hid (Below w.heap.size w v3) := HB2.out.trans hW
      have HD3 := Lib.hid (hD)
      clear hD hB
      clear hW HD2 HR2 HB2
      go_wp2_with fail
      refine (of_any 1 _).mono ?_
      rintro e v4 ⟨rfl, hw⟩
      have hW : Below v3.heap.size v3 v4 := hw ▸ (Below.refl _ _).alloc (Nat.le_refl _) _
      have HD4 := Lib.hid (HD3.out.below hW)
      have HB4 : Hid (Below w.heap.size w v4) := HB3.out.trans (hW.mono HB3.out.size)
      have HR4 := Lib.hid ((hw ▸ rd_new _ (ofB 1) (ofB_len _) 5 : Rd v4 (some ⟨v3.heap.size, 0, none⟩) 64 (ofB 1)))
      clear hw
      clear hW HD3 HB3
      go_wp2_with fail
      refine (dk_write_sector _ HD4.out rfl (i := -1) (.inl (by decide)) _).mono ?_
      rintro e v5 ⟨rfl, hD, hB⟩
      have hW : Below w.heap.size v4 v5 := hB
      have HB5 : Hid (Below w.heap.size w v5) := HB4.out.trans hW
      have HD5 := Lib.hid (hD)
      clear hD hB
      clear hW HD4 HR4 HB4
      go_wp2_with fail
      refine (dk_write_arg _ HD5.out rfl (i := 0) (by decide) none 0 0 (by decide)).mono ?_
      rintro e v6 ⟨rfl, hD, hB⟩
      have hW : Below w.heap.size v5 v6 := hB
      have HB6 : Hid (Below w.heap.size w v6) := HB5.out.trans hW
      have HD6 := Lib.hid (hD)
      clear hD hB
      clear hW HD5 HB5
      have hmk : ∀ w : World, (Instr.makeSlice 29 (.int .i64 65) (.int .i64 65)).run Try.prog w = .ok (.slice (some ⟨w.heap.size, 0, none⟩) 65 65) (w.alloc (.cells (bvs (List.replicate 65 0)).toArray 5)) := fun w => make29 65 (by omega) w
      go_wp2_with fail
      clear hmk
      refine (dk_write_arg _ (HD6.out.below ((Below.refl _ _).alloc (Nat.le_refl _) _)) rfl (i := 0) (by decide) _ 65 65 (by decide)).mono ?_
      rintro e v7 ⟨rfl, hD, hB⟩
      have hW : Below w.heap.size v6 v7 := ((Below.refl _ _).alloc HB6.out.size _).trans hB
      have HB7 : Hid (Below w.heap.size w v7) := HB6.out.trans hW
      have HD7 := Lib.hid (hD)
      clear hD hB
      clear hW HD6 HB6
      go_wp2_with fail
      refine (dk_spoil_sector _ HD7.out (i := 2) (.inr (by decide)) 0 1).mono ?_
      rintro e v8 ⟨rfl, hD, hB⟩
      have hW : Below w.heap.size v7 v8 := hB
      have HB8 : Hid (Below w.heap.size w v8) := HB7.out.trans hW
      have HD8 := Lib.hid (hD)
      clear hD hB
      clear hW HD7 HB7
      go_wp2_with fail
      refine (dk_spoil_arg _ HD8.out (i := 0) (by decide) (a := 64) (.inr (by decide)) 1).mono ?_
      rintro e v9 ⟨rfl, hD, hB⟩
      have hW : Below w.heap.size v8 v9 := hB
      have HB9 : Hid (Below w.heap.size w v9) := HB8.out.trans hW
      have HD9 := Lib.hid (hD)
      clear hD hB
      clear hW HD8 HB8
      go_wp2_with fail
      refine (dk_spoil_arg _ HD9.out (i := 0) (by decide) (a := -1) (.inl (by decide)) 1).mono ?_
      rintro e v10 ⟨rfl, hD, hB⟩
      have hW : Below w.heap.size v9 v10 := hB
      have HB10 : Hid (Below w.heap.size w v10) := HB9.out.trans hW
      have HD10 := Lib.hid (hD)
      clear hD hB
      clear hW HD9 HB9
      go_wp2_with fail
      refine (dk_spoil _ HD10.out 0 (by decide) 63 (by decide) 7).mono ?_
      rintro e v11 ⟨rfl, hD, hB⟩
      have hW : Below w.heap.size v10 v11 := hB
      have HB11 : Hid (Below w.heap.size w v11) := HB10.out.trans hW
      have HD11 := Lib.hid (hD)
      clear hD hB
      clear hW HD10 HB10
      go_wp2_with fail
      refine (dk_read_sector _ HD11.out rfl (i := 2) (.inr (by decide))).mono ?_
      rintro e v12 ⟨rfl, hw⟩
      have hW : Below v11.heap.size v11 v12 := hw ▸ Below.refl _ _
      have HD12 := Lib.hid (HD11.out.below hW)
      have HB12 : Hid (Below w.heap.size w v12) := HB11.out.trans (hW.mono HB11.out.size)
      clear hw
      clear hW HD11 HB11
      go_wp2_with fail
      refine (of_any 3 _).mono ?_
      rintro e v13 ⟨rfl, hw⟩
      have hW : Below v12.heap.size v12 v13 := hw ▸ (Below.refl _ _).alloc (Nat.le_refl _) _
      have HD13 := Lib.hid (HD12.out.below hW)
      have HB13 : Hid (Below w.heap.size w v13) := HB12.out.trans (hW.mono HB12.out.size)
      have HR13 := Lib.hid ((hw ▸ rd_new _ (ofB 3) (ofB_len _) 5 : Rd v13 (some ⟨v12.heap.size, 0, none⟩) 64 (ofB 3)))
      have HI13 := Lib.hid (show v13.heap[v12.heap.size]? = some (.cells (bvs (ofB 3)).toArray 5 (0, 0)) from hw ▸ heap_alloc_new _ _)
      have HL13 := Lib.hid (show w.heap.size ≤ v12.heap.size from HB12.out.size)
      clear hw
      clear hW HD12 HB12
      obtain ⟨bi, hbi⟩ : ∃ bi, v12.heap.size = bi := ⟨_, rfl⟩
      rw [hbi] at HR13 HI13 HL13 ⊢
      clear hbi
      go_wp2_with fail
      refine (dk_write_keep _ HD13.out rfl rfl 0 (by decide) HR13.out _ HI13.out (by decide)).mono ?_
      rintro e v14 ⟨⟨rfl, hD, hB⟩, hh⟩
      have hW : Below w.heap.size v13 v14 := hB
      have HB14 : Hid (Below w.heap.size w v14) := HB13.out.trans hW
      have HD14 := Lib.hid (hD)
      clear hD hB
      clear hW HD13 HR13 HB13
      clear HI13
      have HI := Lib.hid hh
      have hcell : v14.cell? ⟨bi, 0, none⟩ = some (.int .u8 3) := (cell_of_row _ bi 0 _ 5 (0, 0) hh).trans (ofB_get 3 (by decide))
      have hfr : v14.frozen? ⟨bi, 0, none⟩ = false := frozen_of_row _ bi 0 _ 5 hh
      clear hh
      go_wp2_with fail
      clear hcell hfr
      have hdc := HD14.out.cells HI.out (by decide) ((But.refl [bi] _).setCell (p := ⟨bi, 0, none⟩) (by simp) (.int .u8 9)) HL13.out
      have HDc := Lib.hid hdc
      clear hdc HI HL13
      obtain ⟨xs, hxs⟩ : ∃ xs, v14.setCell ⟨bi, 0, none⟩ (.int .u8 9) = xs := ⟨_, rfl⟩
      rw [hxs] at HDc ⊢
      clear hxs HD14
      refine (dk_read _ HDc.out.1 rfl 0 (by decide)).mono ?_
      rintro e x2 ⟨rfl, hw⟩
      have hBx : Below xs.heap.size xs x2 := hw ▸ (Below.refl _ _).alloc (Nat.le_refl _) _
      have hh : x2.heap[xs.heap.size]? = some (.cells (bvs (ofB 3)).toArray 77 (0, 0)) := hw ▸ heap_alloc_new xs _
      obtain ⟨bo, hbo⟩ : ∃ bo, xs.heap.size = bo := ⟨_, rfl⟩
      have HX := Lib.hid (And.intro HDc.out.1 (And.intro (HB14.out.trans HDc.out.2) (hBx.setCell (p := ⟨bo, 0, none⟩) (by simp [hbo]) (.int .u8 9))))
      rw [hbo] at hh ⊢
      clear hbo hw HDc hBx HB14
      have hcell : x2.cell? ⟨bo, 0, none⟩ = some (.int .u8 3) := (cell_of_row _ bo 0 _ 77 (0, 0) hh).trans (ofB_get 3 (by decide))
      have hfr : x2.frozen? ⟨bo, 0, none⟩ = false := frozen_of_row _ bo 0 _ 77 hh
      clear hh
      go_wp2_with fail
      clear hcell hfr
      obtain ⟨v15, hv⟩ : ∃ v, x2.setCell ⟨bo, 0, none⟩ (.int .u8 9) = v := ⟨_, rfl⟩
      rw [hv] at HX ⊢
      clear hv
      have HD15 := Lib.hid (HX.out.1.below HX.out.2.2)
      have HB15 : Hid (Below w.heap.size w v15) := HX.out.2.1.trans (HX.out.2.2.mono HX.out.1.1)
      clear HX
      refine (dk_spoil _ HD15.out 0 (by decide) 0 (by decide) 255).mono ?_
      rintro e v16 ⟨rfl, hD, hB⟩
      have hW : Below w.heap.size v15 v16 := hB
      have HB16 : Hid (Below w.heap.size w v16) := HB15.out.trans hW
      have HD16 := Lib.hid (hD)
      clear hD hB
      clear hW HD15 HB15
      go_wp2_with fail
      refine (dk_reads _ HD16.out rfl 0 (by decide) 3 (q := true) (by kernel_rfl)).mono ?_
      rintro e v17 ⟨rfl, hB⟩
      have hW : Below v16.heap.size v16 v17 := hB
      have HD17 := Lib.hid (HD16.out.below hW)
      have HB17 : Hid (Below w.heap.size w v17) := HB16.out.trans (hW.mono HB16.out.size)
      clear hB
      clear hW HD16 HB16
      go_wp2_with fail
      refine (dk_crash _ HD17.out none 0 0 [] (RdV.nil _ _) (by omega)).mono ?_
      rintro e v18 ⟨rfl, hD, hB⟩
      have hW : Below w.heap.size v17 v18 := hB
      have HB18 : Hid (Below w.heap.size w v18) := HB17.out.trans hW
      have HD18 := Lib.hid (hD)
      clear hD hB
      clear hW HD17 HB17
      go_wp2_with fail
      refine (dk_read _ HD18.out rfl 0 (by decide)).mono ?_
      rintro e v19 ⟨rfl, hw⟩
      have hW : Below v18.heap.size v18 v19 := hw ▸ (Below.refl _ _).alloc (Nat.le_refl _) _
      have HD19 := Lib.hid (HD18.out.below hW)
      have HB19 : Hid (Below w.heap.size w v19) := HB18.out.trans (hW.mono HB18.out.size)
      have HR19 := Lib.hid ((hw ▸ rd_new _ _ (by kernel_rfl) 77 : Rd v19 (some ⟨v18.heap.size, 0, none⟩) 64 (255 :: (List.replicate 62 0 ++ [7]))))
      clear hw
      clear hW HD18 HB18
      obtain ⟨ad, ea, _, hcs⟩ := HR19.out.cells (by omega)
      injection ea with ea
      subst ea
      have hc0 := hcs 0 255 rfl
      have hc1 := hcs 1 0 rfl
      have hc2 := hcs 63 7 rfl
      rw [addr_at, Nat.zero_add] at hc0 hc1 hc2
      unfold BV at hc0 hc1 hc2
      have e0 : (((255 : UInt8).toNat : Nat) : Int) = 255 := rfl
      have e1 : (((0 : UInt8).toNat : Nat) : Int) = 0 := rfl
      have e2 : (((7 : UInt8).toNat : Nat) : Int) = 7 := rfl
      rw [e0] at hc0
      rw [e1] at hc1
      rw [e2] at hc2
      clear hcs e0 e1 e2
      clear HR19
      go_wp2_with fail
      refine (dk_arm _ HD19.out rfl (-3) (by decide)).mono ?_
      rintro e v20 ⟨rfl, hD, hB⟩
      have hW : Below w.heap.size v19 v20 := hB
      have HB20 : Hid (Below w.heap.size w v20) := HB19.out.trans hW
      have HD20 := Lib.hid (hD)
      clear hD hB
      clear hW HD19 HB19
      clear hc0 hc1 hc2
      go_wp2_with fail
      refine (dk_flush_fails _ HD20.out rfl rfl).mono ?_
      rintro e v21 ⟨rfl, hD, hB⟩
      have hW : Below w.heap.size v20 v21 := hB
      have HB21 : Hid (Below w.heap.size w v21) := HB20.out.trans hW
      have HD21 := Lib.hid (hD)
      clear hD hB
      clear hW HD20 HB20
      go_wp2_with fail
      refine (dk_arm_down _ HD21.out rfl 4).mono ?_
      rintro e v22 ⟨rfl, hD, hB⟩
      have hW : Below w.heap.size v21 v22 := hB
      have HB22 : Hid (Below w.heap.size w v22) := HB21.out.trans hW
      have HD22 := Lib.hid (hD)
      clear hD hB
      clear hW HD21 HB21
      go_wp2_with fail
      refine (dk_flush_down _ HD22.out rfl).mono ?_
      rintro e v23 ⟨rfl, hD, hB⟩
      have hW : Below w.heap.size v22 v23 := hB
      have HB23 : Hid (Below w.heap.size w v23) := HB22.out.trans hW
      have HD23 := Lib.hid (hD)
      clear hD hB
      clear hW HD22 HB22
      go_wp2_with fail
      refine (dk_spoil _ HD23.out 1 (by decide) 0 (by decide) 1).mono ?_
      rintro e v24 ⟨rfl, hD, hB⟩
      have hW : Below w.heap.size v23 v24 := hB
      have HB24 : Hid (Below w.heap.size w v24) := HB23.out.trans hW
      have HD24 := Lib.hid (hD)
      clear hD hB
      clear hW HD23 HB23
      go_wp2_with fail
      refine (dk_crash _ HD24.out none 0 0 [] (RdV.nil _ _) (by omega)).mono ?_
      rintro e v25 ⟨rfl, hD, hB⟩
      have hW : Below w.heap.size v24 v25 := hB
      have HB25 : Hid (Below w.heap.size w v25) := HB24.out.trans hW
      have HD25 := Lib.hid (hD)
      clear hD hB
      clear hW HD24 HB24
      go_wp2_with fail
      refine (dk_flush _ HD25.out rfl rfl).mono ?_
      rintro e v26 ⟨rfl, hD, hB⟩
      have hW : Below w.heap.size v25 v26 := hB
      have HB26 : Hid (Below w.heap.size w v26) := HB25.out.trans hW
      have HD26 := Lib.hid (hD)
      clear hD hB
      clear hW HD25 HB25
      go_wp2_with fail
      refine (dk_read _ HD26.out rfl 1 (by decide)).mono ?_
      rintro e v27 ⟨rfl, hw⟩
      have hW : Below v26.heap.size v26 v27 := hw ▸ (Below.refl _ _).alloc (Nat.le_refl _) _
      have HD27 := Lib.hid (HD26.out.below hW)
      have HB27 : Hid (Below w.heap.size w v27) := HB26.out.trans (hW.mono HB26.out.size)
      have HR27 := Lib.hid ((hw ▸ rd_new _ _ (by kernel_rfl) 77 : Rd v27 (some ⟨v26.heap.size, 0, none⟩) 64 (1 :: List.replicate 63 0)))
      clear hw
      clear hW HD26 HB26
      obtain ⟨ad, ea, _, hcs⟩ := HR27.out.cells (by omega)
      injection ea with ea
      subst ea
      have hc0 := hcs 0 1 rfl
      rw [addr_at, Nat.zero_add] at hc0
      unfold BV at hc0
      have e0 : (((1 : UInt8).toNat : Nat) : Int) = 1 := rfl
      rw [e0] at hc0
      clear hcs e0 HR27
      go_wp2_with fail
      refine (awake_any _).mono ?_
      rintro e wz ⟨rfl, hz⟩
      have HZ := Lib.hid hz
      clear hz hc0
      go_wp2
      go_ret
      exact ⟨rfl, HB27.out.trans (HZ.out.mono HB27.out.size)⟩
end Go.Proofs.Ytlhhijhmjkgnaaa
