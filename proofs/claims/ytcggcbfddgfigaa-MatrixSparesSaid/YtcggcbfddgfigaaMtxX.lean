/- MatrixSpares. -/
import Derived.Test.YtcggcbfddgfigaaMtxW
import Derived.Deep.CutRange
namespace Go.Proofs.Ytcggcbfddgfigaa
open Go.RowKit Go.Coop

theorem u8_xor255 (y : UInt8) : ∃ x : UInt8, Value.int .u8 (bits BinOp.xor IntKind.u8 (y.toNat : Int) 255) = BV x := by
  refine ⟨y ^^^ 255, ?_⟩
  have h := u8_xor_nat y.toNat 255 (UInt8.toNat_lt y) (by omega)
  unfold BV
  rw [UInt8.toNat_xor]
  exact congrArg (Value.int .u8) h

set_option maxHeartbeats 4000000 in
set_option maxRecDepth 100000 in
theorem spares_any (z : Nat) (B : Option Addr) (m d : Nat) (l : List UInt8) (w : World) (hz : z < 256) (h : Rd w B m l) (hm : m ≤ 9223372036854775807) :
    Calls Try.prog 9 #[.int .u8 (z : Int), .slice B m d] w fun e w' => e = .returned (.bool true) ∧ Below w.heap.size w w' := by
  have HR0 := Lib.hid h
  obtain ⟨n, hn⟩ : ∃ n, n = 1 + z % 6 := ⟨_, rfl⟩
  have hn' : (1 : Int) + (z : Int) % 6 = (n : Int) := by omega
  have hn1 : 1 ≤ n := by omega
  have hn2 : n ≤ 6 := by omega
  clear h hn
  go_enter Try.func9, Try.ntmps9
  go_wp2_with fail
  refine (new_any _).mono ?_
  rintro e w1 ⟨g, rfl, hF, hg, hB⟩
  have hW : Below w.heap.size w w1 := hB
  have HR1 := Lib.hid (HR0.out.below hW (Nat.le_refl _))
  have HB1 : Hid (Below w.heap.size w w1) := hW
  have HF1 := Lib.hid (hF)
  clear hW HR0
  clear hF hg hB
  go_wp2_with fail
  refine (square_any n B m d l w1 HR1.out (by omega) hm).mono ?_
  rintro e w2 ⟨Am, cm, rfl, hM, hB⟩
  have hW : Below w1.heap.size w1 w2 := hB
  have HF2 := Lib.hid (HF1.out.below hW HF1.out.lt)
  have HB2 : Hid (Below w.heap.size w w2) := HB1.out.trans (hW.mono HB1.out.size)
  have Hm2 := Lib.hid (hM)
  clear hW HR1 HF1 HB1
  clear hM hB
  obtain ⟨F, hFe⟩ : ∃ F, F = sqF n l := ⟨_, rfl⟩
  rw [← hFe] at Hm2
  clear hFe
  go_wp2_with fail
  refine (copym_any _ n cm _ w2 Hm2.out.mr (by omega) (fun r hr => by obtain ⟨i, hi⟩ := List.mem_iff_getElem?.1 hr; have hil := (List.getElem?_eq_some_iff.1 hi).1; rw [tabM_len] at hil; rw [tabM_at n F hil] at hi; injection hi with hi; rw [← hi, rowL_len]; omega)).mono ?_
  rintro e w3 ⟨As, cs, rfl, hM, hB⟩
  have hW : Below w2.heap.size w2 w3 := hB
  have HF3 := Lib.hid (HF2.out.below hW HF2.out.lt)
  have Hm3 := Lib.hid (Hm2.out.below hW (Nat.le_refl _))
  have HB3 : Hid (Below w.heap.size w w3) := HB2.out.trans (hW.mono HB2.out.size)
  have Hs3 := Lib.hid (hM)
  clear hW HF2 Hm2 HB2
  clear hM hB
  go_wp2_with fail
  refine (pick_x _ n cm n F _ 2 2 [0, 0] _ (by exact Hm3.out.alloc _) hn1 (by omega) hn1 (by omega) (by exact RdV.new w3 [.int .i64 0, .int .i64 0] 3 (0, 0)) (by omega) (by omega) (by intro x hx; simp at hx; omega)).mono ?_
  rintro e w4 ⟨Ax, cx, rfl, hM, hB⟩
  have HMm := Hm3
  have HMs := Hs3
  have hW : Below w3.heap.size w3 w4 := ((Below.refl w3.heap.size w3).alloc (Nat.le_refl _) _).trans (hB.mono (by simp))
  have HF4 := Lib.hid (HF3.out.below hW HF3.out.lt)
  have Hm4 := Lib.hid (Hm3.out.below hW (Nat.le_refl _))
  have Hs4 := Lib.hid (Hs3.out.below hW (Nat.le_refl _))
  have HB4 : Hid (Below w.heap.size w w4) := HB3.out.trans (hW.mono HB3.out.size)
  have HW34 := Lib.hid hW
  have HB3L := HB3
  clear hW HF3 Hm3 Hs3 HB3
  have HX4 : Hid (MX w4 w3.heap.size w3.heap.size Ax 2 cx (tabM 2 n (pickF [0, 0] F))) := hM.lower (by simp) (by simp)
  clear hM hB
  go_wp2_with fail
  refine (invert_any g _ n cm F w4 HF4.out Hm4.out hn1 (by omega)).mono ?_
  rintro e w5 hI
  have HY : ∃ (Ay : Option Addr) (ny cy : Nat) (v : Int), e = .returned (.tuple #[.slice Ay ny cy, .int .i64 v]) ∧ (v = 0 ∨ v = 31) ∧ ny ≤ 6 ∧ (∀ bx, Spare w4.heap.size bx w5 Ay ny) ∧ Below w4.heap.size w4 w5 := by
    rcases hI with ⟨_, Ay, cy, rfl, hM, hB⟩ | ⟨_, rfl, hB⟩
    · exact ⟨Ay, n, cy, 0, rfl, .inl rfl, hn2, fun bx => spare_of hM hn1 hn2 (Nat.le_refl _), hB⟩
    · exact ⟨none, 0, 0, 31, rfl, .inr rfl, by omega, fun bx i hi => by omega, hB⟩
  obtain ⟨Ay, ny, cy, v, rfl, hv, hny, hSy, hB5⟩ := HY
  have HF5 := Lib.hid (HF4.out.below hB5 HF4.out.lt)
  have Hm5 := Lib.hid (Hm4.out.below hB5 (Nat.le_refl _))
  have HW45 := Lib.hid hB5
  have HSy := Lib.hid hSy
  clear hI hB5 HF4 Hm4 Hs4 hSy
  go_wp2_with fail
  refine (unit_yes n w5 hn1 (by omega)).mono ?_
  rintro e w6 ⟨Au, cu, rfl, hM, hB⟩
  have HF6 := Lib.hid (HF5.out.below hB HF5.out.lt)
  have Hm6 := Lib.hid (Hm5.out.below hB (Nat.le_refl _))
  have Hu6 := Lib.hid hM
  have HW46 := Lib.hid (HW45.out.trans (hB.mono HW45.out.size))
  have HSy6 := Lib.hid (fun bx => (HSy.out bx).below hB (Nat.le_refl _))
  clear hM hB HF5 Hm5 HW45 HSy
  go_wp2_with fail
  refine (mul_yes g _ n cm n F _ cu n unitF w6 HF6.out Hm6.out Hu6.out hn1 (by omega) hn1 (by omega) hn1 (by omega)).mono ?_
  rintro e w7 ⟨Az, cz, rfl, hM, hB⟩
  have HSz := Lib.hid (fun bx => spare_of (S := w4.heap.size) (bx := bx) hM hn1 hn2 HW46.out.size)
  have HSy7 := Lib.hid (fun bx => (HSy6.out bx).below hB (Nat.le_refl _))
  have HW47 := Lib.hid (HW46.out.trans (hB.mono HW46.out.size))
  clear hM hB HF6 Hm6 Hu6 HW46 HSy6
  obtain ⟨vs, hvo, hvr, hvd⟩ := HX4.out.out
  have hcap := hvo.cap
  have hx2 : decide ((1 : Int) ≤ (cx : Int)) = true := by simp; omega
  have HXV := Lib.hid (And.intro hvo (And.intro hvr hvd))
  clear hvo hvr hvd
  have HV := Lib.hid hv
  clear hv
  go_upto_region 9 with (fail)
  go_cut [77] from 55 to 77 (fun s77 wc => s77 = .bool false ∧ wc = w7)
  case first =>
    rcases HV.out with rfl | rfl
    · go_wp2
      go_meet
      case rel => exact ⟨rfl, rfl⟩
    · go_wp2
      go_meet
      case rel => exact ⟨rfl, rfl⟩
  case rest =>
    obtain ⟨rfl, rfl⟩ := hcut
    obtain ⟨w7, rfl⟩ : ∃ w7 : World, w7 = wc := ⟨_, rfl⟩
    obtain ⟨gx, b0, d0, cur0, b1, d1, hAx, hgx, hv0, hv1, ho0, ho1, hb01⟩ : ∃ (gx b0 d0 : Nat) (cur0 : Array Value) (b1 d1 : Nat), Ax = some ⟨gx, 0, none⟩ ∧ w4.heap[gx]? = some (.cells cur0 26 (0, 0)) ∧ cur0[0]? = some (.slice (some ⟨b0, 0, none⟩) n d0) ∧ cur0[1]? = some (.slice (some ⟨b1, 0, none⟩) n d1) ∧ Own w4 w3.heap.size 5 (some ⟨b0, 0, none⟩) n d0 (rowL n (F 0)) ∧ Own w4 w3.heap.size 5 (some ⟨b1, 0, none⟩) n d1 (rowL n (F 0)) ∧ b0 ≠ b1 := by
      obtain ⟨gx, _, _, _, hAx, _⟩ := HX4.out.mo.row (show 0 < 2 by omega)
      subst hAx
      obtain ⟨cur, hcur⟩ := HX4.out.mo.cells
      have hcl : ∀ i v, vs[i]? = some v → i < 2 → cur[i]? = some v := fun i v hi h2 => by
        obtain ⟨ad, v', e, _, hv', hc⟩ := HXV.out.1.rd.at_ h2
        injection e with e
        subst e
        rw [add_zero_off, cell_of_row _ _ i _ 26 (0, 0) hcur] at hc
        rw [hi] at hv'
        injection hv' with hv'
        subst hv'
        exact hc
      have e0 : rowL n (pickF [0, 0] F 0) = rowL n (F 0) := rfl
      have e1 : rowL n (pickF [0, 0] F 1) = rowL n (F 0) := rfl
      obtain ⟨B0, d0, h0, o0⟩ := HXV.out.2.1 0 _ (tabM_at n _ (show 0 < 2 by omega))
      obtain ⟨B1, d1, h1, o1⟩ := HXV.out.2.1 1 _ (tabM_at n _ (show 1 < 2 by omega))
      rw [rowL_len] at h0 o0 h1 o1
      rw [e0] at o0
      rw [e1] at o1
      obtain ⟨b0, rfl, _⟩ := o0.addr (by omega)
      obtain ⟨b1, rfl, _⟩ := o1.addr (by omega)
      exact ⟨gx, b0, d0, cur, b1, d1, rfl, hcur, hcl 0 _ h0 (by omega), hcl 1 _ h1 (by omega), o0, o1, HXV.out.2.2 0 1 b0 b1 n n d0 d1 (by omega) h0 h1⟩
    subst hAx
    have HSx : Hid (Spare w4.heap.size b0 w7 (some ⟨gx, 0, none⟩) 1) := by
      have hs : Spare w4.heap.size b0 w4 (some ⟨gx, 0, none⟩) 1 := fun i hi => by
        obtain rfl : i = 0 := by omega
        obtain ⟨b, cr, e, hb, _, hx⟩ := own_cells ho0 (by omega)
        injection e with e
        injection e with e _ _
        subst e
        exact ⟨gx, b0, n, d0, cur0, cr, rfl, hgx, hv0, hn2, hb, hx, .inr rfl⟩
      exact hs.below HW47.out (Nat.le_refl _)
    have hbb0 := own_lt ho0 rfl
    have hbb1 := own_lt ho1 rfl
    have H01 := Lib.hid (And.intro hbb0 (And.intro hbb1 hb01))
    have HX0 := Lib.hid (And.intro hgx (And.intro hv1 ho1))
    clear hgx hv0 hv1 ho0 ho1 hb01 hbb0 hbb1
    go_upto_region 11 with (fail)
    go_cut [82, 83, 84] from 78 to 84 (fun s82 s83 s84 wc => ∃ gs : Nat, s82 = .slice (some ⟨gs, 0, none⟩) 3 3 ∧ s83 = .int .i64 3 ∧ s84 = .int .i64 0 ∧ Hid (Below w4.heap.size w4 wc) ∧ Hid (∃ cur, wc.heap[gs]? = some (.cells cur 25 (0, 0)) ∧ ∀ q, q < 3 → ∃ A k c, cur[q]? = some (.slice A k c) ∧ k ≤ 6 ∧ Spare w4.heap.size b0 wc A k))
    case first =>
      go_wp2
      go_meet
      case rel =>
        have hal : Below w7.heap.size w7 (w7.alloc (.cells #[.slice (some ⟨gx, 0, none⟩) 1 cx, .slice Ay ny cy, .slice Az n cz] 25)) := (Below.refl _ _).alloc (Nat.le_refl _) _
        refine ⟨w7.heap.size, rfl, rfl, rfl, HW47.out.trans (hal.mono HW47.out.size), ⟨_, heap_alloc_new w7 _, fun q hq => ?_⟩⟩
        match q, hq with
        | 0, _ => exact ⟨_, 1, _, rfl, by omega, HSx.out.below hal (Nat.le_refl _)⟩
        | 1, _ => exact ⟨_, ny, _, rfl, hny, (HSy7.out b0).below hal (Nat.le_refl _)⟩
        | 2, _ => exact ⟨_, n, _, rfl, hn2, (HSz.out b0).below hal (Nat.le_refl _)⟩
    case rest =>
      obtain ⟨gs, rfl, rfl, rfl, HWc, HL⟩ := hcut
      clear HSx HSy7 HSz HW47 HXV hx2
      go_wp2_with fail
      go_loopw [84] (fun i wr => ∃ q : Nat, q ≤ 3 ∧ i = .int .i64 q ∧ Hid (Flip w4.heap.size b0 wc wr)) (fun i _ => 3 - (intOf i).toNat)
      case atStart => exact ⟨0, by omega, rfl, Flip.refl _ _ _⟩
      case round =>
        obtain ⟨q, hq, rfl, HP⟩ := hrel
        by_cases hlt : q < 3
        · have hd3 : decide ((q : Int) < 3) = true := by simp; omega
          obtain ⟨curl, hgl, hl⟩ := HL.out
          obtain ⟨A, k, cc, hq1, hk6, hsp⟩ := hl q hlt
          have hcl : wr.cell? ⟨gs, q, none⟩ = some (.slice A k cc) := by rw [cell_of_row _ gs q _ 25 (0, 0) (HP.out.outer gs curl 25 hgl (by decide))]; exact hq1
          have HS := Lib.hid hsp
          clear hgl hl hq1 hsp
          go_wp2_with fail
          obtain ⟨wq, rfl⟩ : ∃ wq : World, wq = wr := ⟨_, rfl⟩
          have HPq := HP
          clear HP hcl
          go_loopw [90] (fun i wr => ∃ p : Nat, p ≤ k ∧ i = .int .i64 p ∧ Hid (Flip w4.heap.size b0 wc wr)) (fun i _ => k - (intOf i).toNat)
          case atStart => exact ⟨0, by omega, rfl, HPq.out⟩
          case round =>
            obtain ⟨p, hp, rfl, HP⟩ := hrel
            by_cases hpk : p < k
            · obtain ⟨g, b, L, dd, co, cr, rfl, hg1, hg2, hL6, hg3, hg4, hg5⟩ := HS.out p hpk
              have hcr : wr.cell? ⟨g, p, none⟩ = some (.slice (some ⟨b, 0, none⟩) L dd) := by rw [cell_of_row _ g p _ 26 (0, 0) (HP.out.outer g co 26 hg1 (by decide))]; exact hg2
              have HG := Lib.hid (And.intro hg1 (And.intro hg2 (And.intro hg3 (And.intro hg4 hg5))))
              have hpk' : (p : Int) < k := by omega
              clear hg1 hg2 hg3 hg4 hg5
              go_wp2_with fail
              obtain ⟨wp, rfl⟩ : ∃ wp : World, wp = wr := ⟨_, rfl⟩
              have HPp := HP
              clear HP hcr
              go_loopw [98] (fun i wr => ∃ j : Nat, j ≤ L ∧ i = .int .i64 j ∧ Hid (Flip w4.heap.size b0 wc wr)) (fun i _ => L - (intOf i).toNat)
              case atStart => exact ⟨0, by omega, rfl, HPp.out⟩
              case round =>
                obtain ⟨j, hj, rfl, HP⟩ := hrel
                by_cases hjL : j < L
                · have hcr : wr.cell? ⟨g, p, none⟩ = some (.slice (some ⟨b, 0, none⟩) L dd) := by rw [cell_of_row _ g p _ 26 (0, 0) (HP.out.outer g co 26 HG.out.1 (by decide))]; exact HG.out.2.1
                  obtain ⟨cr', h1, h2, h3⟩ := HP.out.rows b cr HG.out.2.2.1
                  obtain ⟨x, hx⟩ := HG.out.2.2.2.1 j hjL
                  obtain ⟨y, hy⟩ := h3 j x hx
                  have hcy : wr.cell? ⟨b, j, none⟩ = some (.int .u8 (y.toNat : Int)) := by rw [cell_of_row _ b j _ 5 (0, 0) h1]; exact hy
                  have hfy : wr.frozen? ⟨b, j, none⟩ = false := frozen_of_row _ b j _ 5 h1
                  obtain ⟨x2, hx2⟩ := u8_xor255 y
                  have HX2 := Lib.hid hx2
                  obtain ⟨Y, hY⟩ : ∃ Y, (y.toNat : Int) = Y := ⟨_, rfl⟩
                  rw [hY] at hcy HX2
                  have hjL' : (j : Int) < L := by omega
                  clear h1 h2 h3 hx hy hx2 hY
                  go_wp2
                  go_roundw
                  case rel =>
                    refine ⟨j + 1, by omega, by go_num, ?_⟩
                    have e := HX2.out
                    rw [e]
                    exact HP.out.step HG.out.2.2.1 HG.out.2.2.2.2 x2
                  case measure => simp [intOf]; omega
                · go_wp2
                  go_roundw
                  case rel => exact ⟨p + 1, by omega, by go_num, HP.out⟩
                  case measure => simp [intOf]; omega
            · go_wp2
              go_roundw
              case rel => exact ⟨q + 1, by omega, by go_num, HP.out⟩
              case measure => simp [intOf]; omega
        · obtain ⟨wf, rfl⟩ : ∃ wf : World, wf = wr := ⟨_, rfl⟩
          go_upto_region 24 with (fail)
          have hsz34 := HW34.out.size
          have hF3 : Below w3.heap.size wc wf := HP.out.below hsz34 H01.out.1.1
          have h3f : Below w3.heap.size w3 wf := (HW34.out.trans (HWc.out.mono hsz34)).trans hF3
          have HMf := Lib.hid (HMm.out.below h3f (Nat.le_refl _))
          have HSf := Lib.hid (HMs.out.below h3f (Nat.le_refl _))
          have hgx4 : gx < w4.heap.size := (Array.getElem?_eq_some_iff.1 HX0.out.1).1
          have hgxc : wc.heap[gx]? = some (.cells cur0 26 (0, 0)) := (HWc.out.block gx hgx4).trans HX0.out.1
          have hx1 : wf.cell? ⟨gx, 1, none⟩ = some (.slice (some ⟨b1, 0, none⟩) n d1) := by rw [cell_of_row _ gx 1 _ 26 (0, 0) (HP.out.outer gx cur0 26 hgxc (by decide))]; exact HX0.out.2.1
          have HR1 : Hid (Rd wf (some ⟨b1, 0, none⟩) n (rowL n (F 0))) := by
            refine (HX0.out.2.2.at_block (w' := wf) fun g hg => ?_).rd
            injection hg with hg
            injection hg with hg _ _
            subst hg
            exact (HP.out.low b1 H01.out.2.1.2 (fun e => H01.out.2.2 e.symm)).trans (HWc.out.block b1 H01.out.2.1.2)
          obtain ⟨gw, Bw, dw, rw', eA, _, _, _, hrw, hcw, how⟩ := HSf.out.row (show 0 < n by omega)
          subst eA
          rw [tabM_at n F (show 0 < n by omega)] at hrw
          injection hrw with hrw
          rw [← hrw, rowL_len] at hcw how
          have HRW := Lib.hid how.rd
          have HBf : Hid (Below w.heap.size w wf) := HB4.out.trans ((HWc.out.mono HB4.out.size).trans (HP.out.below HB4.out.size (by have h1 := H01.out.1.1; have h2 := HB3L.out.size; omega)))
          have HS2 := Lib.hid (And.intro hx1 hcw)
          have hn01 : (0 : Int) < n := by omega
          have hn02 : 0 < n := by omega
          clear hsz34 hF3 h3f hgx4 hgxc hx1 hrw hcw how HP HWc HX0 HMm HMs HW34 HL H01
          refine wp_region_held_drew (S := fun u => u.cell? ⟨gx, 1, none⟩ = some (.slice (some ⟨b1, 0, none⟩) n d1) ∧ u.cell? ⟨gw, 0, none⟩ = some (.slice Bw n dw)) (by kernel_rfl) (by exact HS2.out) (fun hHeld => ?_)
          refine wpAnyH_take (i := 0) (oi := ⟨some 113, _, _, _, _, _⟩) (v := ?_) rfl (by kernel_rfl) (by kernel_rfl) (by kernel_rfl) (fun _ _ _ h => h) (Or.inl ⟨by rfl, ?_⟩) (by assumption) ?_
          rotate_left
          · intro w hSw
            obtain ⟨s1, s2⟩ := hSw
            go_simp
            all_goals (with_reducible rfl)
          try simp only [Act.put, List.setIfInBounds_toArray, List.set_cons_zero, List.set_cons_succ]
          refine wpAnyH_take (i := 1) (oi := ⟨some 114, _, _, _, _, _⟩) (v := ?_) rfl (by kernel_rfl) (by kernel_rfl) (by kernel_rfl) (fun _ _ _ h => h) (Or.inl ⟨by rfl, ?_⟩) (by assumption) ?_
          rotate_left
          · intro w hSw
            obtain ⟨s1, s2⟩ := hSw
            go_simp
            all_goals (with_reducible rfl)
          try simp only [Act.put, List.setIfInBounds_toArray, List.set_cons_zero, List.set_cons_succ]
          refine wpAnyH_ready (rs := [2]) (by kernel_rfl) (by simp) (AllReadyH.cons (o := ⟨some 115, _, _, _, _, _⟩) rfl (fun K hK => ?_) AllReadyH.nil)
          go_simp
          refine (samem_yes _ n cm _ _ cs wf.drew (HMf.out.mr.drew) (HSf.out.mr.drew) (by omega)).mono ?_
          rintro e wg ⟨rfl, jg, hw⟩
          have hS2 : (fun u => u.cell? ⟨gx, 1, none⟩ = some (.slice (some ⟨b1, 0, none⟩) n d1) ∧ u.cell? ⟨gw, 0, none⟩ = some (.slice Bw n dw)) wg := by rw [hw]; exact HS2.out
          have HWG : Hid (Below wf.heap.size wf wg ∧ wf.heap.size ≤ wg.heap.size) := by rw [hw]; exact ⟨⟨rfl, rfl, rfl, Nat.le_refl _, fun _ _ => rfl⟩, Nat.le_refl _⟩
          clear hw
          refine hK.out _ _ (hS2) (fun hHeld => ?_)
          clear hK K
          try simp only [Act.put, List.setIfInBounds_toArray, List.set_cons_zero, List.set_cons_succ]
          refine wpAnyH_take (i := 3) (oi := ⟨some 116, _, _, _, _, _⟩) (v := ?_) rfl (by kernel_rfl) (by kernel_rfl) (by kernel_rfl) (fun _ _ _ h => h) (Or.inl ⟨by rfl, ?_⟩) (by assumption) ?_
          rotate_left
          · intro w hSw
            obtain ⟨s1, s2⟩ := hSw
            go_simp
            all_goals (with_reducible rfl)
          try simp only [Act.put, List.setIfInBounds_toArray, List.set_cons_zero, List.set_cons_succ]
          refine wpAnyH_take (i := 4) (oi := ⟨some 117, _, _, _, _, _⟩) (v := ?_) rfl (by kernel_rfl) (by kernel_rfl) (by kernel_rfl) (fun _ _ _ h => h) (Or.inl ⟨by rfl, ?_⟩) (by assumption) ?_
          rotate_left
          · intro w hSw
            obtain ⟨s1, s2⟩ := hSw
            go_simp
            all_goals (with_reducible rfl)
          try simp only [Act.put, List.setIfInBounds_toArray, List.set_cons_zero, List.set_cons_succ]
          refine wpAnyH_take (i := 5) (oi := ⟨some 118, _, _, _, _, _⟩) (v := ?_) rfl (by kernel_rfl) (by kernel_rfl) (by kernel_rfl) (fun _ _ _ h => h) (Or.inl ⟨by rfl, ?_⟩) (by assumption) ?_
          rotate_left
          · intro w hSw
            obtain ⟨s1, s2⟩ := hSw
            go_simp
            all_goals (with_reducible rfl)
          try simp only [Act.put, List.setIfInBounds_toArray, List.set_cons_zero, List.set_cons_succ]
          refine wpAnyH_take (i := 6) (oi := ⟨some 119, _, _, _, _, _⟩) (v := ?_) rfl (by kernel_rfl) (by kernel_rfl) (by kernel_rfl) (fun _ _ _ h => h) (Or.inl ⟨by rfl, ?_⟩) (by assumption) ?_
          rotate_left
          · intro w hSw
            obtain ⟨s1, s2⟩ := hSw
            go_simp
            all_goals (with_reducible rfl)
          try simp only [Act.put, List.setIfInBounds_toArray, List.set_cons_zero, List.set_cons_succ]
          refine wpAnyH_take (i := 7) (oi := ⟨some 120, _, _, _, _, _⟩) (v := ?_) rfl (by kernel_rfl) (by kernel_rfl) (by kernel_rfl) (fun _ _ _ h => h) (Or.inl ⟨by rfl, ?_⟩) (by assumption) ?_
          rotate_left
          · intro w hSw
            obtain ⟨s1, s2⟩ := hSw
            go_simp
            all_goals (with_reducible rfl)
          try simp only [Act.put, List.setIfInBounds_toArray, List.set_cons_zero, List.set_cons_succ]
          refine wpAnyH_take (i := 8) (oi := ⟨some 121, _, _, _, _, _⟩) (v := ?_) rfl (by kernel_rfl) (by kernel_rfl) (by kernel_rfl) (fun _ _ _ h => h) (Or.inl ⟨by rfl, ?_⟩) (by assumption) ?_
          rotate_left
          · intro w hSw
            obtain ⟨s1, s2⟩ := hSw
            go_simp
            all_goals (with_reducible rfl)
          try simp only [Act.put, List.setIfInBounds_toArray, List.set_cons_zero, List.set_cons_succ]
          refine wpAnyH_take (i := 9) (oi := ⟨some 122, _, _, _, _, _⟩) (v := ?_) rfl (by kernel_rfl) (by kernel_rfl) (by kernel_rfl) (fun _ _ _ h => h) (Or.inl ⟨by rfl, ?_⟩) (by assumption) ?_
          rotate_left
          · intro w hSw
            obtain ⟨s1, s2⟩ := hSw
            go_simp
            all_goals (with_reducible rfl)
          try simp only [Act.put, List.setIfInBounds_toArray, List.set_cons_zero, List.set_cons_succ]
          refine wpAnyH_ready (rs := [10]) (by kernel_rfl) (by simp) (AllReadyH.cons (o := ⟨some 123, _, _, _, _, _⟩) rfl (fun K hK => ?_) AllReadyH.nil)
          go_simp
          refine (same_yes _ n d1 (rowL n (F 0)) _ n dw wg (HR1.out.below HWG.out.1 (Nat.le_refl _)) (HRW.out.below HWG.out.1 (Nat.le_refl _))).mono ?_
          rintro e wh ⟨rfl, rfl⟩
          refine hK.out _ _ (hS2) (fun hHeld => ?_)
          clear hK K
          try simp only [Act.put, List.setIfInBounds_toArray, List.set_cons_zero, List.set_cons_succ]
          refine wpAnyH_take (i := 11) (oi := ⟨some 124, _, _, _, _, _⟩) (v := ?_) rfl (by kernel_rfl) (by kernel_rfl) (by kernel_rfl) (fun _ _ _ h => h) (Or.inl ⟨by rfl, ?_⟩) (by assumption) ?_
          rotate_left
          · intro w hSw
            obtain ⟨s1, s2⟩ := hSw
            go_simp
            all_goals (with_reducible rfl)
          try simp only [Act.put, List.setIfInBounds_toArray, List.set_cons_zero, List.set_cons_succ]
          refine wpAnyH_take (i := 12) (oi := ⟨some 125, _, _, _, _, _⟩) (v := ?_) rfl (by kernel_rfl) (by kernel_rfl) (by kernel_rfl) (fun _ _ _ h => h) (Or.inl ⟨by rfl, ?_⟩) (by assumption) ?_
          rotate_left
          · intro w hSw
            obtain ⟨s1, s2⟩ := hSw
            go_simp
            all_goals (with_reducible rfl)
          try simp only [Act.put, List.setIfInBounds_toArray, List.set_cons_zero, List.set_cons_succ]
          refine wpAnyH_ready (rs := [13]) (by kernel_rfl) (by simp) (AllReadyH.cons (o := ⟨some 126, _, _, _, _, _⟩) rfl (fun K hK => ?_) AllReadyH.nil)
          go_simp
          refine (awake_any wg).mono ?_
          rintro e wh ⟨rfl, hBh⟩
          have HBH := Lib.hid hBh
          refine hK.out _ _ (⟨(hBh.cell (block_lt_of_cell hS2.1)).trans hS2.1, (hBh.cell (block_lt_of_cell hS2.2)).trans hS2.2⟩) (fun hHeld => ?_)
          clear hK K
          try simp only [Act.put, List.setIfInBounds_toArray, List.set_cons_zero, List.set_cons_succ]
          refine wpAnyH_take (i := 14) (oi := ⟨some 127, _, _, _, _, _⟩) (v := ?_) rfl (by kernel_rfl) (by kernel_rfl) (by kernel_rfl) (fun _ _ _ h => h) (Or.inl ⟨by rfl, ?_⟩) (by assumption) ?_
          rotate_left
          · intro w hSw
            obtain ⟨s1, s2⟩ := hSw
            go_simp
            all_goals (with_reducible rfl)
          try simp only [Act.put, List.setIfInBounds_toArray, List.set_cons_zero, List.set_cons_succ]
          refine wpAnyH_take (i := 15) (oi := ⟨some 4, _, _, _, _, _⟩) (v := ?_) rfl (by kernel_rfl) (by kernel_rfl) (by kernel_rfl) (fun _ _ _ h => h) (Or.inl ⟨by rfl, ?_⟩) (by assumption) ?_
          rotate_left
          · intro w hSw
            obtain ⟨s1, s2⟩ := hSw
            go_simp
            all_goals (with_reducible rfl)
          try simp only [Act.put, List.setIfInBounds_toArray, List.set_cons_zero, List.set_cons_succ]
          refine wpAnyH_done (by kernel_rfl) ?_ _
          go_wp2
          go_ret
          exact ⟨rfl, HBf.out.trans ((HWG.out.1.mono HBf.out.size).trans (HBH.out.mono (Nat.le_trans HBf.out.size HWG.out.2)))⟩
end Go.Proofs.Ytcggcbfddgfigaa
