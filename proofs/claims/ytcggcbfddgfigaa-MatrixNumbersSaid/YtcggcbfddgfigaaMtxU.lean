/- MatrixNumbers. -/
import Derived.Test.YtcggcbfddgfigaaMtxT
namespace Go.Proofs.Ytcggcbfddgfigaa
open Go.RowKit Go.Coop

def longM (q : Nat) : List (List UInt8) := (List.range 256).map fun i => if i < q then [1] else []
theorem longM_set {q : Nat} (h : q < 256) : (longM q).set q [1] = longM (q + 1) := by
  apply List.ext_getElem?
  intro i
  rw [List.getElem?_set]
  unfold longM
  by_cases hi : i < 256
  · by_cases e : q = i
    · subst e; simp [hi]
    · rw [if_neg e]
      simp only [List.getElem?_map, List.getElem?_range hi, Option.map_some]
      congr 1
      by_cases h2 : i < q
      · rw [if_pos h2, if_pos (by omega)]
      · rw [if_neg h2, if_neg (by omega)]
  · rw [List.getElem?_eq_none (by simp; omega), List.getElem?_eq_none (by simp; omega)]
    split
    · rw [if_neg (by simp; omega)]
    · rfl
theorem longM_zero : longM 0 = tabM 256 0 unitF := by
  unfold longM tabM
  exact List.map_congr_left fun i _ => by rw [if_neg (by omega)]; rfl
theorem long_bad : rightB (longM 256) = false := by
  unfold rightB
  rw [decide_eq_false (by unfold longM; simp)]
  rfl
theorem longM_at {q i : Nat} (h : i < 256) : (longM q)[i]? = some (if i < q then [1] else []) := by unfold longM; simp [h]

set_option maxHeartbeats 8000000 in
set_option maxRecDepth 100000 in
theorem numbers_any (w : World) : Calls Try.prog 3 #[] w fun e w' => e = .returned (.bool true) ∧ Below w.heap.size w w' := by
  have hm1 : ∀ W : World, (Instr.makeSlice 25 (.int .i64 256) (.int .i64 256)).run Try.prog W = .ok (.slice (some ⟨W.heap.size, 0, none⟩) 256 256) (W.alloc (.cells (outC W.heap.size 256 0 0) 26)) := make25 256 0 (by omega)
  go_enter Try.func3, Try.ntmps3
  go_wp2_with fail
  refine (new_any _).mono ?_
  rintro e w1 ⟨g, rfl, hF, hg, hB⟩
  have hW : Below w.heap.size w w1 := hB
  have HB1 : Hid (Below w.heap.size w w1) := hW
  have HF1 := Lib.hid (hF)
  clear hW 
  clear hF hg hB
  go_wp2_with fail
  obtain ⟨gl, hgl⟩ : ∃ gl, w1.heap.size = gl := ⟨_, rfl⟩
  have HL0 : Hid (MO (w1.alloc (.cells (outC w1.heap.size 256 0 0) 26)) gl 0 (some ⟨gl, 0, none⟩) 256 256 (longM 0)) := by rw [longM_zero]; exact (mo_nils w1 gl 256 hgl.symm (by decide) unitF).lower (Nat.le_refl _) (Nat.zero_le _)
  rw [hgl] at HL0
  try rw [hgl]
  go_loopw [40] (fun i wr => ∃ q : Nat, q ≤ 256 ∧ i = .int .i64 q ∧ Hid (MO wr gl 0 (some ⟨gl, 0, none⟩) 256 256 (longM q)) ∧ Hid (Below gl w1 wr)) (fun i _ => 256 - (intOf i).toNat)
  case atStart => exact ⟨0, by omega, rfl, HL0.out, (Below.refl _ _).alloc (by omega) _⟩
  case round =>
    obtain ⟨q, hq, rfl, HL, HB⟩ := hrel
    clear HL0 hm1
    by_cases hlt : q < 256
    · obtain ⟨g1, B1, d1, r1, e1, _, hgs, hfz, hr1, hc1, _⟩ := HL.out.row hlt
      injection e1 with e1
      injection e1 with e1 _ _
      subst e1
      have hfq := hfz q
      have hcA : (wr.alloc (.cells #[.int .u8 1] 5)).cell? ⟨gl, q, none⟩ = some (.slice B1 r1.length d1) := (World.cell?_alloc_lt _ _ _ hgs).trans hc1
      have hfA : (wr.alloc (.cells #[.int .u8 1] 5)).frozen? ⟨gl, q, none⟩ = false := ((Below.refl _ _).alloc (Nat.le_refl _) _).frozen (p := ⟨gl, q, none⟩) (by exact hgs) |>.trans hfq
      generalize r1.length = L at *
      clear hr1 hfz
      go_wp2
      go_roundw
      case rel =>
        have hbs := HB.out.size
        refine ⟨q + 1, by omega, by go_num, ?_, ?_⟩
        rotate_left
        · exact (HB.out.setCell (p := ⟨gl, q, none⟩) (Nat.le_refl _) _).alloc (by simp; omega) _
        rw [← longM_set hlt, ← World.setCell_alloc_past _ gl q _ hgs]
        exact (HL.out.alloc _).setRow (B := some ⟨wr.heap.size, 0, none⟩) (d := 1) (r := [1]) rfl ((own_new wr [1] 1 rfl (by decide)).lower (Nat.zero_le _))
      case measure => simp [intOf]; omega
    · have e256 : q = 256 := by omega
      have HL := Lib.hid (by have := HL.out; rw [e256] at this; exact this : MO wr gl 0 (some ⟨gl, 0, none⟩) 256 256 (longM 256))
      clear e256
      obtain ⟨w2, rfl⟩ : ∃ w2 : World, w2 = wr := ⟨_, rfl⟩
      have HBAD : Hid (Bad w2 (some ⟨gl, 0, none⟩) 256 256) := bad_of HL.out (by omega) long_bad
      have HF2 := Lib.hid (HF1.out.below HB.out (by have := HF1.out.lt; omega))
      have HB2 : Hid (Below w.heap.size w w2) := HB1.out.trans (HB.out.mono (by have := HB1.out.size; omega))
      clear HL HB HB1 HF1 hgl
      have hm2 : ∀ W : World, (Instr.makeSlice 26 (.int .i64 256) (.int .i64 256)).run Try.prog W = .ok (.slice (some ⟨W.heap.size, 0, none⟩) 256 256) (W.alloc (.cells (rowC 256 (fun _ => 0)) 5)) := make26 256 (by omega)
      go_upto_region 8 with (fail)
      go_cut [59, 60, 61] from 48 to 61 (fun s59 s60 s61 wc => ∃ gs : Nat, s59 = .slice (some ⟨gs, 0, none⟩) 7 7 ∧ s60 = .int .i64 7 ∧ s61 = .int .i64 0 ∧ Hid (Below w2.heap.size w2 wc) ∧ Hid (∀ i, i < 7 → ∃ A n c, wc.cell? ⟨gs, i, none⟩ = some (.slice A n c) ∧ Bad wc A n c))
      case first =>
        go_wp2
        go_meet
        case rel => exact ⟨w2.heap.size + 10, rfl, rfl, rfl, (seven_ok w2 gl HBAD.out).1, (seven_ok w2 gl HBAD.out).2⟩
      case rest =>
        obtain ⟨gs, rfl, rfl, rfl, HBc, H7⟩ := hcut
        have HF3 := Lib.hid (HF2.out.below HBc.out HF2.out.lt)
        have HB3 : Hid (Below w.heap.size w wc) := HB2.out.trans (HBc.out.mono HB2.out.size)
        clear hm2 HBc HB2 HF2 HBAD
        go_wp2_with fail
        go_loopw [61] (fun i wr => ∃ q : Nat, q ≤ 7 ∧ i = .int .i64 q ∧ Hid (Below wc.heap.size wc wr)) (fun i _ => 7 - (intOf i).toNat)
        case atStart => exact ⟨0, by omega, rfl, Below.refl _ _⟩
        case round =>
          obtain ⟨q, hq, rfl, HB⟩ := hrel
          by_cases hlt : q < 7
          · have hd7 : decide ((q : Int) < 7) = true := by simp; omega
            obtain ⟨A, n, c, hcc, hbad⟩ := H7.out q hlt
            have hc2 := (HB.out.cell (p := ⟨gs, q, none⟩) (block_lt_of_cell hcc)).trans hcc
            have HBA := Lib.hid (hbad.below HB.out (Nat.le_refl _))
            clear hcc hbad
            go_wp2_with fail
            obtain ⟨hn, M, hM, hr⟩ := HBA.out
            refine (errs_any g A n c M wr (HF3.out.below HB.out HF3.out.lt) hM (by omega) hr).mono ?_
            rintro e w4 ⟨rfl, hB⟩
            have HB4 := Lib.hid (HB.out.trans (hB.mono HB.out.size))
            clear hB hM hr
            go_wp2
            go_roundw
            case rel => exact ⟨q + 1, by omega, by go_num, HB4.out⟩
            case measure => simp [intOf]; omega
          · obtain ⟨w4, rfl⟩ : ∃ w4 : World, w4 = wr := ⟨_, rfl⟩
            have HF4 := Lib.hid (HF3.out.below HB.out HF3.out.lt)
            have HB4 := Lib.hid (HB3.out.trans (HB.out.mono HB3.out.size))
            clear HB HB3 HF3 H7
            go_upto_region 14 with (fail)
            go_cut [73, 74, 75] from 73 to 75 (fun s73 s74 s75 wc => ∃ gs : Nat, s73 = .slice (some ⟨gs, 0, none⟩) 3 3 ∧ s74 = .int .i64 3 ∧ s75 = .int .i64 0 ∧ Hid (Below w4.heap.size w4 wc) ∧ Hid (∀ i, i < 3 → ∃ x, wc.cell? ⟨gs, i, none⟩ = some (.int .i64 x) ∧ (x < 1 ∨ 255 < x)))
            case first =>
              go_wp2
              go_meet
              case rel =>
                refine ⟨w4.heap.size, rfl, rfl, rfl, (Below.refl _ _).alloc (Nat.le_refl _) _, fun i hi => ?_⟩
                match i, hi with
                | 0, _ => exact ⟨0, cell_of_row _ w4.heap.size 0 _ 3 (0, 0) (heap_alloc_new w4 _), by omega⟩
                | 1, _ => exact ⟨-1, cell_of_row _ w4.heap.size 1 _ 3 (0, 0) (heap_alloc_new w4 _), by omega⟩
                | 2, _ => exact ⟨256, cell_of_row _ w4.heap.size 2 _ 3 (0, 0) (heap_alloc_new w4 _), by omega⟩
            case rest =>
              obtain ⟨gt, rfl, rfl, rfl, HBd, H3⟩ := hcut
              have HF5 := Lib.hid (HF4.out.below HBd.out HF4.out.lt)
              have HB5 := Lib.hid (HB4.out.trans (HBd.out.mono HB4.out.size))
              clear HBd HB4 HF4
              go_wp2_with fail
              go_loopw [75] (fun i wr => ∃ q : Nat, q ≤ 3 ∧ i = .int .i64 q ∧ Hid (Below wc.heap.size wc wr)) (fun i _ => 3 - (intOf i).toNat)
              case atStart => exact ⟨0, by omega, rfl, Below.refl _ _⟩
              case round =>
                obtain ⟨q, hq, rfl, HB⟩ := hrel
                by_cases hlt : q < 3
                · have hd3 : decide ((q : Int) < 3) = true := by simp; omega
                  obtain ⟨x, hcc, hx⟩ := H3.out q hlt
                  have hc2 := (HB.out.cell (p := ⟨gt, q, none⟩) (block_lt_of_cell hcc)).trans hcc
                  have HX := Lib.hid hx
                  clear hcc hx
                  go_wp2_with fail
                  refine (unit_no x wr HX.out).mono ?_
                  rintro e w6 ⟨rfl, hB⟩
                  have HB6 := Lib.hid (HB.out.trans (hB.mono HB.out.size))
                  clear hB
                  go_wp2
                  go_roundw
                  case rel => exact ⟨q + 1, by omega, by go_num, HB6.out⟩
                  case measure => simp [intOf]; omega
                · obtain ⟨w6, rfl⟩ : ∃ w6 : World, w6 = wr := ⟨_, rfl⟩
                  have HF6 := Lib.hid (HF5.out.below HB.out HF5.out.lt)
                  have HB6 := Lib.hid (HB5.out.trans (HB.out.mono HB5.out.size))
                  clear HB HB5 HF5 H3
                  go_upto_region 21 with (fail)
                  go_cut [96, 97, 98] from 90 to 98 (fun s96 s97 s98 wc => ∃ gs : Nat, s96 = .slice (some ⟨gs, 0, none⟩) 6 6 ∧ s97 = .int .i64 6 ∧ s98 = .int .i64 0 ∧ Hid (Below w6.heap.size w6 wc) ∧ Hid (∀ i, i < 6 → ∃ x y : Int, wc.cell? ⟨gs, i * 2, none⟩ = some (.int .i64 x) ∧ wc.cell? ⟨gs, i * 2 + 1, none⟩ = some (.int .i64 y) ∧ -9223372036854775808 ≤ x ∧ x ≤ 9223372036854775807 ∧ -9223372036854775808 ≤ y ∧ y ≤ 9223372036854775807 ∧ (x < 1 ∨ y < 1 ∨ 256 < x + y)))
                  case first =>
                    go_wp2
                    go_meet
                    case rel =>
                      have hc : ∀ i v, #[Value.int .i64 0, .int .i64 1, .int .i64 1, .int .i64 0, .int .i64 (-1), .int .i64 2, .int .i64 128, .int .i64 129, .int .i64 256, .int .i64 1, .int .i64 4611686018427387904, .int .i64 4611686018427387904][i]? = some v → (w6.alloc (.cells #[Value.int .i64 0, .int .i64 1, .int .i64 1, .int .i64 0, .int .i64 (-1), .int .i64 2, .int .i64 128, .int .i64 129, .int .i64 256, .int .i64 1, .int .i64 4611686018427387904, .int .i64 4611686018427387904] 33)).cell? ⟨w6.heap.size, i, none⟩ = some v := fun i v hv => by rw [cell_of_row _ w6.heap.size i _ 33 (0, 0) (heap_alloc_new w6 _)]; exact hv
                      refine ⟨w6.heap.size, rfl, rfl, rfl, (Below.refl _ _).alloc (Nat.le_refl _) _, fun i hi => ?_⟩
                      match i, hi with
                      | 0, _ => exact ⟨0, 1, hc 0 _ rfl, hc 1 _ rfl, by omega, by omega, by omega, by omega, by omega⟩
                      | 1, _ => exact ⟨1, 0, hc 2 _ rfl, hc 3 _ rfl, by omega, by omega, by omega, by omega, by omega⟩
                      | 2, _ => exact ⟨-1, 2, hc 4 _ rfl, hc 5 _ rfl, by omega, by omega, by omega, by omega, by omega⟩
                      | 3, _ => exact ⟨128, 129, hc 6 _ rfl, hc 7 _ rfl, by omega, by omega, by omega, by omega, by omega⟩
                      | 4, _ => exact ⟨256, 1, hc 8 _ rfl, hc 9 _ rfl, by omega, by omega, by omega, by omega, by omega⟩
                      | 5, _ => exact ⟨4611686018427387904, 4611686018427387904, hc 10 _ rfl, hc 11 _ rfl, by omega, by omega, by omega, by omega, by omega⟩
                  case rest =>
                    obtain ⟨gu, rfl, rfl, rfl, HBd, H6⟩ := hcut
                    have HF7 := Lib.hid (HF6.out.below HBd.out HF6.out.lt)
                    have HB7 := Lib.hid (HB6.out.trans (HBd.out.mono HB6.out.size))
                    clear HBd HB6 HF6
                    go_wp2_with fail
                    go_loopw [98] (fun i wr => ∃ q : Nat, q ≤ 6 ∧ i = .int .i64 q ∧ Hid (Below wc.heap.size wc wr)) (fun i _ => 6 - (intOf i).toNat)
                    case atStart => exact ⟨0, by omega, rfl, Below.refl _ _⟩
                    case round =>
                      obtain ⟨q, hq, rfl, HB⟩ := hrel
                      by_cases hlt : q < 6
                      · have hd6 : decide ((q : Int) < 6) = true := by simp; omega
                        obtain ⟨x, y, hcx, hcy, hx1, hx2, hy1, hy2, hxy⟩ := H6.out q hlt
                        have hc1 := (HB.out.cell (p := ⟨gu, q * 2, none⟩) (block_lt_of_cell hcx)).trans hcx
                        have hc2 := (HB.out.cell (p := ⟨gu, q * 2 + 1, none⟩) (block_lt_of_cell hcy)).trans hcy
                        have HX := Lib.hid (And.intro hx1 (And.intro hx2 (And.intro hy1 (And.intro hy2 hxy))))
                        clear hcx hcy hx1 hx2 hy1 hy2 hxy
                        go_wp2_with fail
                        refine (cauchy_arg g x y _ ((HF7.out.below HB.out HF7.out.lt).alloc _) HX.out.1 HX.out.2.1 HX.out.2.2.1 HX.out.2.2.2.1 HX.out.2.2.2.2).mono ?_
                        rintro e w8 ⟨rfl, hB⟩
                        have HB8 := Lib.hid (HB.out.trans (((Below.refl wc.heap.size wr).alloc HB.out.size (.cells #[.int .i64 x, .int .i64 y] 33)).trans (hB.mono (by simp; have := HB.out.size; omega))))
                        clear hB
                        go_wp2
                        go_roundw
                        case rel => exact ⟨q + 1, by omega, by go_num, HB8.out⟩
                        case measure => simp [intOf]; omega
                      · obtain ⟨w8, rfl⟩ : ∃ w8 : World, w8 = wr := ⟨_, rfl⟩
                        have HF8 := Lib.hid (HF7.out.below HB.out HF7.out.lt)
                        have HB8 := Lib.hid (HB7.out.trans (HB.out.mono HB7.out.size))
                        clear HB HB7 HF7 H6
                        go_wp2_with fail
                        refine (cauchy_yes g 128 128 w8 HF8.out (by omega) (by omega) (by omega)).mono ?_
                        rintro e w9 ⟨Ag, cg, rfl, hM, hB⟩
                        have hW : Below w8.heap.size w8 w9 := hB
                        have HF9 := Lib.hid (HF8.out.below hW HF8.out.lt)
                        have HB9 : Hid (Below w.heap.size w w9) := HB8.out.trans (hW.mono HB8.out.size)
                        have Hg9 := Lib.hid (hM)
                        clear hW HF8 HB8
                        clear hM hB
                        go_wp2_with fail
                        refine (unit_yes 255 w9 (by omega) (by omega)).mono ?_
                        rintro e w10 ⟨Aa, ca, rfl, hM, hB⟩
                        have hW : Below w9.heap.size w9 w10 := hB
                        have HF10 := Lib.hid (HF9.out.below hW HF9.out.lt)
                        have Hg10 := Lib.hid (Hg9.out.below hW (Nat.le_refl _))
                        have HB10 : Hid (Below w.heap.size w w10) := HB9.out.trans (hW.mono HB9.out.size)
                        have Ha10 := Lib.hid (hM)
                        clear hW HF9 Hg9 HB9
                        clear hM hB
                        go_wp2_with fail
                        refine (mul_shape g _ 1 1 [[1, 2]] _ 1 1 [[1]] _ (by exact (((HF10.out.alloc _).alloc _).alloc _).alloc _) (by exact ((mo1 w10 [1, 2] 2 rfl).alloc _).alloc _) (by have := mo1 ((w10.alloc (.cells (bvs [1, 2]).toArray 5)).alloc (.cells #[.slice (some ⟨w10.heap.size, 0, none⟩) 2 2] 26)) [1] 1 rfl; simp only [size_alloc] at this; exact this) (by omega) (by omega) (.inr (.inr (by decide)))).mono ?_
                        rintro e w11 ⟨rfl, hB⟩
                        have hW : Below w10.heap.size w10 w11 := (((((Below.refl w10.heap.size w10).alloc (Nat.le_refl _) _).alloc (by simp) _).alloc (by simp; omega) _).alloc (by simp; omega) _).trans (hB.mono (by simp; omega))
                        have HF11 := Lib.hid (HF10.out.below hW HF10.out.lt)
                        have Hg11 := Lib.hid (Hg10.out.below hW (Nat.le_refl _))
                        have Ha11 := Lib.hid (Ha10.out.below hW (Nat.le_refl _))
                        have HB11 : Hid (Below w.heap.size w w11) := HB10.out.trans (hW.mono HB10.out.size)
                        clear hW HF10 Hg10 Ha10 HB10
                        clear hB
                        go_wp2_with fail
                        refine (invert_shape g _ 1 1 [[1, 2]] _ (by exact (HF11.out.alloc _).alloc _) (by exact mo1 w11 [1, 2] 2 rfl) (by omega) (.inr (by decide))).mono ?_
                        rintro e w12 ⟨rfl, hB⟩
                        have hW : Below w11.heap.size w11 w12 := (((Below.refl w11.heap.size w11).alloc (Nat.le_refl _) _).alloc (by simp) _).trans (hB.mono (by simp; omega))
                        have HF12 := Lib.hid (HF11.out.below hW HF11.out.lt)
                        have Hg12 := Lib.hid (Hg11.out.below hW (Nat.le_refl _))
                        have Ha12 := Lib.hid (Ha11.out.below hW (Nat.le_refl _))
                        have HB12 : Hid (Below w.heap.size w w12) := HB11.out.trans (hW.mono HB11.out.size)
                        clear hW HF11 Hg11 Ha11 HB11
                        clear hB
                        go_wp2_with fail
                        refine (pick_len _ 255 ca _ none 0 0 w12 Ha12.out (by omega) (right_tab (by omega) (by omega) (by omega) (by omega)) (.inl (by omega))).mono ?_
                        rintro e w13 ⟨rfl, hB⟩
                        have hW : Below w12.heap.size w12 w13 := hB
                        have HF13 := Lib.hid (HF12.out.below hW HF12.out.lt)
                        have Hg13 := Lib.hid (Hg12.out.below hW (Nat.le_refl _))
                        have Ha13 := Lib.hid (Ha12.out.below hW (Nat.le_refl _))
                        have HB13 : Hid (Below w.heap.size w w13) := HB12.out.trans (hW.mono HB12.out.size)
                        clear hW HF12 Hg12 Ha12 HB12
                        clear hB
                        go_wp2_with fail
                        refine (pick_any _ 255 ca _ _ 1 1 [255] _ (by exact Ha13.out.alloc _) (right_tab (by omega) (by omega) (by omega) (by omega)) (by exact RdV.new w13 [.int .i64 (255)] 3 (0, 0)) (by omega) (by omega) (by intro x hx; simp at hx; omega)).mono ?_
                        rintro e w14 hI
                        obtain ⟨_, rfl, hB⟩ := hI.resolve_left (fun h => by have := h.1 (255) (by simp); rw [tabM_len] at this; omega)
                        have hW : Below w13.heap.size w13 w14 := ((Below.refl w13.heap.size w13).alloc (Nat.le_refl _) _).trans (hB.mono (by simp))
                        have HF14 := Lib.hid (HF13.out.below hW HF13.out.lt)
                        have Hg14 := Lib.hid (Hg13.out.below hW (Nat.le_refl _))
                        have Ha14 := Lib.hid (Ha13.out.below hW (Nat.le_refl _))
                        have HB14 : Hid (Below w.heap.size w w14) := HB13.out.trans (hW.mono HB13.out.size)
                        clear hW HF13 Hg13 Ha13 HB13
                        clear hB
                        go_wp2_with fail
                        refine (pick_any _ 255 ca _ _ 1 1 [-1] _ (by exact Ha14.out.alloc _) (right_tab (by omega) (by omega) (by omega) (by omega)) (by exact RdV.new w14 [.int .i64 (-1)] 3 (0, 0)) (by omega) (by omega) (by intro x hx; simp at hx; omega)).mono ?_
                        rintro e w15 hI
                        obtain ⟨_, rfl, hB⟩ := hI.resolve_left (fun h => by have := h.1 (-1) (by simp); rw [tabM_len] at this; omega)
                        have hW : Below w14.heap.size w14 w15 := ((Below.refl w14.heap.size w14).alloc (Nat.le_refl _) _).trans (hB.mono (by simp))
                        have HF15 := Lib.hid (HF14.out.below hW HF14.out.lt)
                        have Hg15 := Lib.hid (Hg14.out.below hW (Nat.le_refl _))
                        have Ha15 := Lib.hid (Ha14.out.below hW (Nat.le_refl _))
                        have HB15 : Hid (Below w.heap.size w w15) := HB14.out.trans (hW.mono HB14.out.size)
                        clear hW HF14 Hg14 Ha14 HB14
                        clear hB
                        obtain ⟨C, hm3⟩ : ∃ C : Array Value, ∀ W : World, (Instr.makeSlice 29 (.int .i64 256) (.int .i64 256)).run Try.prog W = .ok (.slice (some ⟨W.heap.size, 0, none⟩) 256 256) (W.alloc (.cells C 3)) := by
                          obtain ⟨i, hi, hz, hs, hb⟩ := info_parts info3
                          refine ⟨_, fun W => run_make (P := Try.prog) W 29 3 i (.int .i64 0) Try.underlying29 hi hz .i64 .i64 256 256 (by omega) (by omega) (by rw [hb]; omega) (by omega)⟩
                        go_wp2_with fail
                        refine (pick_len _ 255 ca _ _ 256 256 _ (by exact Ha15.out.alloc _) (by omega) (right_tab (by omega) (by omega) (by omega) (by omega)) (.inr (by omega))).mono ?_
                        rintro e w16 ⟨rfl, hB⟩
                        have hW : Below w15.heap.size w15 w16 := ((Below.refl w15.heap.size w15).alloc (Nat.le_refl _) _).trans (hB.mono (by simp))
                        have HF16 := Lib.hid (HF15.out.below hW HF15.out.lt)
                        have Hg16 := Lib.hid (Hg15.out.below hW (Nat.le_refl _))
                        have Ha16 := Lib.hid (Ha15.out.below hW (Nat.le_refl _))
                        have HB16 : Hid (Below w.heap.size w w16) := HB15.out.trans (hW.mono HB15.out.size)
                        clear hW HF15 Hg15 Ha15 HB15
                        clear hB hm3
                        go_wp2_with fail
                        refine (cauchy_none none 1 1 w16 (.inl rfl)).mono ?_
                        rintro e w17 ⟨rfl, hB⟩
                        have hW : Below w16.heap.size w16 w17 := hB
                        have HF17 := Lib.hid (HF16.out.below hW HF16.out.lt)
                        have Hg17 := Lib.hid (Hg16.out.below hW (Nat.le_refl _))
                        have Ha17 := Lib.hid (Ha16.out.below hW (Nat.le_refl _))
                        have HB17 : Hid (Below w.heap.size w w17) := HB16.out.trans (hW.mono HB16.out.size)
                        clear hW HF16 Hg16 Ha16 HB16
                        clear hB
                        go_wp2_with fail
                        refine (mul_none none none none 0 0 0 0 w17 (.inl rfl)).mono ?_
                        rintro e w18 ⟨rfl, hB⟩
                        have hW : Below w17.heap.size w17 w18 := hB
                        have HF18 := Lib.hid (HF17.out.below hW HF17.out.lt)
                        have Hg18 := Lib.hid (Hg17.out.below hW (Nat.le_refl _))
                        have Ha18 := Lib.hid (Ha17.out.below hW (Nat.le_refl _))
                        have HB18 : Hid (Below w.heap.size w w18) := HB17.out.trans (hW.mono HB17.out.size)
                        clear hW HF17 Hg17 Ha17 HB17
                        clear hB
                        have hz := (zero_of_info info42).1
                        obtain ⟨Z, hZ⟩ : ∃ Z, Z = (Array.replicate 255 (Value.int .u8 0) ++ Array.replicate 256 (.int .i64 0)) := ⟨_, rfl⟩
                        rw [← hZ] at hz
                        have HZ0 : Hid (Z[0]? = some (.int .u8 0)) := by show Z[0]? = _; rw [hZ]; simp
                        clear hZ
                        go_wp2_with fail
                        refine (invert_none (some ⟨w18.heap.size, 0, none⟩) none 0 0 (w18.alloc (.cells Z 42)) (.inr ⟨_, rfl, by rw [cell_of_row _ w18.heap.size 0 Z 42 (0, 0) (heap_alloc_new w18 _)]; exact HZ0.out⟩)).mono ?_
                        rintro e w19 ⟨rfl, hB⟩
                        have hW : Below w18.heap.size w18 w19 := ((Below.refl w18.heap.size w18).alloc (Nat.le_refl _) _).trans (hB.mono (by simp))
                        have HF19 := Lib.hid (HF18.out.below hW HF18.out.lt)
                        have Hg19 := Lib.hid (Hg18.out.below hW (Nat.le_refl _))
                        have Ha19 := Lib.hid (Ha18.out.below hW (Nat.le_refl _))
                        have HB19 : Hid (Below w.heap.size w w19) := HB18.out.trans (hW.mono HB18.out.size)
                        clear hW HF18 Hg18 Ha18 HB18
                        clear hB hz
                        obtain ⟨gg, Bg, dg, rg, rfl, _, _, _, hrg, hcg, _⟩ := Hg19.out.row (show 127 < 128 by omega)
                        rw [tabM_at 128 _ (by omega)] at hrg
                        injection hrg with hrg
                        rw [← hrg, rowL_len] at hcg
                        clear hrg
                        go_wp2_with fail
                        refine (rank_any g _ 128 cg 128 (cauF 128) w19 HF19.out Hg19.out (by omega) (by omega) (by omega) (by omega)).mono ?_
                        rintro e w20 ⟨rfl, hB⟩
                        rw [cauchy_rank (by omega)]
                        clear hcg
                        have hW : Below w19.heap.size w19 w20 := hB
                        have HF20 := Lib.hid (HF19.out.below hW HF19.out.lt)
                        have Hg20 := Lib.hid (Hg19.out.below hW (Nat.le_refl _))
                        have Ha20 := Lib.hid (Ha19.out.below hW (Nat.le_refl _))
                        have HB20 : Hid (Below w.heap.size w w20) := HB19.out.trans (hW.mono HB19.out.size)
                        clear hW HF19 Hg19 Ha19 HB19
                        clear hB
                        go_wp2_with fail
                        refine (rank_any g _ 255 ca 255 unitF w20 HF20.out Ha20.out (by omega) (by omega) (by omega) (by omega)).mono ?_
                        rintro e w21 ⟨rfl, hB⟩
                        rw [unit_rank]
                        have hW : Below w20.heap.size w20 w21 := hB
                        have HF21 := Lib.hid (HF20.out.below hW HF20.out.lt)
                        have Hg21 := Lib.hid (Hg20.out.below hW (Nat.le_refl _))
                        have Ha21 := Lib.hid (Ha20.out.below hW (Nat.le_refl _))
                        have HB21 : Hid (Below w.heap.size w w21) := HB20.out.trans (hW.mono HB20.out.size)
                        clear hW HF20 Hg20 Ha20 HB20
                        clear hB
                        go_wp2_with fail
                        refine (rank_none none _ 255 ca w21 (.inl rfl)).mono ?_
                        rintro e w22 ⟨rfl, j22, hw⟩
                        have hW : Below w21.heap.size w21 w22 := by rw [hw]; exact ⟨rfl, rfl, rfl, Nat.le_refl _, fun _ _ => rfl⟩
                        have HF22 := Lib.hid (HF21.out.below hW HF21.out.lt)
                        have Hg22 := Lib.hid (Hg21.out.below hW (Nat.le_refl _))
                        have Ha22 := Lib.hid (Ha21.out.below hW (Nat.le_refl _))
                        have HB22 : Hid (Below w.heap.size w w22) := HB21.out.trans (hW.mono HB21.out.size)
                        clear hW HF21 Hg21 Ha21 HB21
                        clear hw
                        go_wp2_with fail
                        refine (awake_any w22).mono ?_
                        rintro e w23 ⟨rfl, hB⟩
                        have hW : Below w22.heap.size w22 w23 := hB
                        have HF23 := Lib.hid (HF22.out.below hW HF22.out.lt)
                        have Hg23 := Lib.hid (Hg22.out.below hW (Nat.le_refl _))
                        have Ha23 := Lib.hid (Ha22.out.below hW (Nat.le_refl _))
                        have HB23 : Hid (Below w.heap.size w w23) := HB22.out.trans (hW.mono HB22.out.size)
                        clear hW HF22 Hg22 Ha22 HB22
                        clear hB
                        go_wp2
                        go_ret
                        exact ⟨rfl, HB23.out⟩
end Go.Proofs.Ytcggcbfddgfigaa
