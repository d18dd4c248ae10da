/- The reference's products, rows that are picked, unit, Cauchy. -/
import Derived.Test.YtcggcbfddgfigaaMtxY
import Derived.Test.YtcggcbfddgfigaaMtxS
namespace Go.Proofs.Ytcggcbfddgfigaa
open Go.RowKit Go.Coop

theorem MR.tab {w : World} {A : Option Addr} {n k : Nat} {F : Fn2} (h : MR w A n (tabM n k F)) {i : Nat} (hi : i < n) : ∃ ad B d, A = some ad ∧ ad.block < w.heap.size ∧ w.cell? (ad.add i) = some (.slice B k d) ∧ Rd w B k (rowL k (F i)) := by
  obtain ⟨ad, B, d, r, e, hlt, hr, hc, hd⟩ := h.row hi
  rw [tabM_at k F hi] at hr
  injection hr with hr
  rw [← hr, rowL_len] at hc hd
  exact ⟨ad, B, d, e, hlt, hc, hd⟩
/-- a row, so far -/
def RRow (b0 m q : Nat) (P : Fn2) (wo : World) (v i : Value) (wr : World) : Prop := ∃ (j : Nat) (A' : Option Addr) (c' : Nat), j ≤ m ∧ i = .int .i64 j ∧ v = .slice A' j c' ∧ Hid (Own wr b0 5 A' j c' (rowL j (P q))) ∧ Hid (Below b0 wo wr)
/-- a sum, so far -/
def RSum (k q j : Nat) (F G : Fn2) (wl : World) (v i : Value) (wr : World) : Prop := ∃ (l S p : Nat), l ≤ k ∧ i = .int .i64 l ∧ v = .int .u8 S ∧ S < 256 ∧ Hid (S = xs l fun t => mul (nf F q t) (nf G t j)) ∧ Hid (wr = wl.drewN p)

set_option maxHeartbeats 1000000 in
set_option maxRecDepth 100000 in
theorem rmulm_yes (A : Option Addr) (n c k : Nat) (F : Fn2) (B : Option Addr) (d m : Nat) (G : Fn2) (w : World) (h : MR w A n (tabM n k F)) (h' : MR w B k (tabM k m G)) (hn1 : 1 ≤ n) (hn2 : n ≤ 255) (hk1 : 1 ≤ k) (hk2 : k ≤ 255) (hm1 : 1 ≤ m) (hm2 : m ≤ 255) :
    Calls Try.prog 21 #[.slice A n c, .slice B k d] w (GotM w n (tabM n m (mulF k F G))) := by
  have K1 := rright_any A n c _ w h
  rw [right_tab hn1 hn2 hk1 hk2] at K1
  have HA := Lib.hid h
  have HB := Lib.hid h'
  obtain ⟨ad, A0, da, rfl, _, hca, _⟩ := h.tab (show 0 < n by omega)
  obtain ⟨bd, B0, db, rfl, _, hcb, _⟩ := h'.tab (show 0 < k by omega)
  have HC := Lib.hid (And.intro (show w.cell? ad = some (.slice A0 k da) from hca) (show w.cell? bd = some (.slice B0 m db) from hcb))
  have hn0 : (0 : Int) < n := by omega
  have hn0' : 0 < n := by omega
  have hk0 : (0 : Int) < k := by omega
  have hk0' : 0 < k := by omega
  clear h h' hca hcb
  go_enter Try.func21, Try.ntmps21
  go_wp2_with fail
  refine K1.mono ?_
  rintro e w1 ⟨rfl, p1, hw1⟩
  have K2 := rright_any (some bd) k d _ w1 (by rw [hw1]; exact HB.out.drewN p1)
  rw [right_tab hk1 hk2 hm1 hm2] at K2
  have HW1 := Lib.hid hw1
  clear hw1 K1
  go_wp2_with fail
  refine K2.mono ?_
  rintro e w2 ⟨rfl, p2, hw2⟩
  have HB0 : Hid (Below w.heap.size w w2 ∧ w2.heap.size = w.heap.size) := by rw [hw2, HW1.out]; exact ⟨⟨rfl, rfl, rfl, Nat.le_refl _, fun _ _ => rfl⟩, rfl⟩
  have hca : w2.cell? ad = some (.slice A0 k da) := by rw [hw2, HW1.out]; exact HC.out.1
  have HA2 := Lib.hid (HA.out.below HB0.out.1 (Nat.le_refl _))
  have HB2 := Lib.hid (HB.out.below HB0.out.1 (Nat.le_refl _))
  have HC2 : Hid (w2.cell? bd = some (.slice B0 m db) ∧ bd.block < w2.heap.size) := by
    have : w2.cell? bd = some (.slice B0 m db) := by rw [hw2, HW1.out]; exact HC.out.2
    exact ⟨this, block_lt_of_cell this⟩
  clear hw2 HW1 K2 HA HB HC
  go_wp2_with fail
  clear hca
  obtain ⟨P, hP⟩ : ∃ P, mulF k F G = P := ⟨_, rfl⟩
  have HP := Lib.hid hP
  rw [hP]
  clear hP
  go_loopw [6, 7] (fun v i wr => ∃ (q : Nat) (A : Option Addr) (c : Nat), q ≤ n ∧ i = .int .i64 q ∧ v = .slice A q c ∧ Hid (MO wr w2.heap.size w2.heap.size A q c (tabM q m P)) ∧ Hid (Below w2.heap.size w2 wr)) (fun _ i _ => n - (intOf i).toNat)
  case atStart => exact ⟨0, none, 0, by omega, rfl, rfl, MO.nil _ _ _, Below.refl _ _⟩
  case round =>
    obtain ⟨q, A, c, hq, rfl, rfl, HM, HB⟩ := hrel
    by_cases hlt : q < n
    · obtain ⟨wo, rfl⟩ : ∃ wo : World, wo = wr := ⟨_, rfl⟩
      obtain ⟨ad', Ba, da', e', _, hcaq, hra⟩ := (HA2.out.below HB.out (Nat.le_refl _)).tab hlt
      injection e' with e'
      subst e'
      have HRA := Lib.hid (And.intro hcaq hra)
      clear hcaq hra
      go_wp2_with fail
      obtain ⟨b0, hb0⟩ : ∃ b0, wo.heap.size = b0 := ⟨_, rfl⟩
      go_loopw [8, 9] (fun v i wr => RRow b0 m q P wo v i wr) (fun _ i _ => m - (intOf i).toNat)
      case atStart => exact ⟨0, none, 0, by omega, rfl, rfl, Own.nil _ _ _, Below.refl _ _⟩
      case round =>
        obtain ⟨j, A', c', hj, rfl, rfl, HO, HI⟩ := hrel
        have hBI : Below w2.heap.size w2 wr := HB.out.trans (HI.out.mono (by have := HB.out.size; omega))
        have hcb : wr.cell? bd = some (.slice B0 m db) := (hBI.cell HC2.out.2).trans HC2.out.1
        have HBI := Lib.hid hBI
        clear hBI
        by_cases hjm : j < m
        · obtain ⟨wl, rfl⟩ : ∃ wl : World, wl = wr := ⟨_, rfl⟩
          go_wp2_with fail
          clear hcb
          go_loopw [10, 11] (fun v i wr => RSum k q j F G wl v i wr) (fun _ i _ => k - (intOf i).toNat)
          case atStart => exact ⟨0, 0, 0, by omega, rfl, rfl, by omega, rfl, rfl⟩
          case round =>
            obtain ⟨l, S, p, hl, rfl, rfl, hS, HS, HW⟩ := hrel
            by_cases hlk : l < k
            · have hRA : Rd wr Ba k (rowL k (F q)) := by rw [HW.out]; exact (HRA.out.2.below HI.out (by omega)).drewN p
              obtain ⟨xa, X', rfl, _, hxa, hcx⟩ := hRA.at_ hlk
              obtain ⟨bd', Bl, dl, e', _, hcbl, hrb⟩ := (HB2.out.below HBI.out (Nat.le_refl _)).tab hlk
              injection e' with e'
              subst e'
              obtain ⟨xb, Y', rfl, _, hxb, hcy⟩ := hrb.at_ hjm
              rw [rowL_at _ hlk] at hxa
              rw [rowL_at _ hjm] at hxb
              injection hxa with hxa
              injection hxb with hxb
              have hc1 : wr.cell? (ad.add q) = some (.slice (some xa) k da') := by rw [HW.out]; exact (HI.out.cell (by have := block_lt_of_cell HRA.out.1; omega)).trans HRA.out.1
              have hc2 : wr.cell? (bd.add l) = some (.slice (some xb) m dl) := by rw [HW.out]; exact hcbl
              have hc3 : wr.cell? (xb.add j) = some (BV Y') := by rw [HW.out]; exact hcy
              have hXb := X'.toNat_lt
              have hYb := Y'.toNat_lt
              unfold BV at hcx hc3
              obtain ⟨X, hX⟩ : ∃ X, X'.toNat = X := ⟨_, rfl⟩
              obtain ⟨Y, hY⟩ : ∃ Y, Y'.toNat = Y := ⟨_, rfl⟩
              rw [hX] at hcx hXb
              rw [hY] at hc3 hYb
              have HXY : Hid (nf F q l = X ∧ nf G l j = Y) := by unfold nf; rw [hxa, hxb]; exact ⟨hX, hY⟩
              have KQ := Lib.hid (rmul_q X Y wr hXb hYb)
              have hxor := u8_xor_nat S (mul X Y) hS (mul_lt _ _)
              have hq0 : (0 : Int) ≤ q := by omega
              have hqn : (q : Int) < n := by omega
              have hl0 : (0 : Int) ≤ l := by omega
              have hlk' : (l : Int) < k := by omega
              have hj0 : (0 : Int) ≤ j := by omega
              have hjm' : (j : Int) < m := by omega
              clear hRA hxa hcbl hrb hxb hcy hX hY
              go_wp2_with fail
              go_quiet ((go_at_call 45; exact KQ.out _))
              go_wp2
              go_roundw
              case rel => exact ⟨l + 1, S ^^^ mul X Y, _, by omega, by go_num, rfl, xor_lt _ _ hS (mul_lt _ _), by show _ = xs l _ ^^^ mul (nf F q l) (nf G l j); rw [← HS.out, HXY.out.1, HXY.out.2], by rw [HW.out, World.drewN_drewN]; rfl⟩
              case measure => simp [intOf]; omega
            · obtain rfl : l = k := by omega
              have hPq : (P q j).toNat = S := by
                rw [HS.out, ← HP.out]
                have := nf_mulF l F G q j
                unfold nf at this
                exact this
              have HPQ := Lib.hid hPq
              have HO2 : Hid (Own wr b0 5 A' j c' (rowL j (P q))) := by show Own _ _ _ _ _ _ _; rw [HW.out]; exact HO.out.drewN p
              have HI2 : Hid (Below b0 wo wr) := by show Below _ _ _; rw [HW.out]; exact ⟨HI.out.os, HI.out.tape, HI.out.output, HI.out.size, HI.out.block⟩
              have hbs := HI2.out.size
              clear hPq
              go_wp2_with (at_builtin; refine wpList_app _ rfl (.tmp 66) (.tmp 68) _ rfl b0 5 Try.underlying26 info5 rfl (HO2.out.alloc _) rfl (Rd.one wr (S : Int) (by omega) (by omega) 5 (0, 0)) (by omega) (by rw [size_alloc]; omega) (j + 1) rfl ?_; intro A2 c2 w3 ho hg hat)
              have HO3 := Lib.hid ho
              have HI3 : Hid (Below b0 wo w3) := (HI2.out.alloc (by omega) _).grown hg (by rw [size_alloc]; omega) (fun k hk => (HO2.out.block k hk).1)
              clear ho hg hat
              go_roundw
              case rel =>
                refine ⟨j + 1, A2, c2, by omega, by go_num, rfl, ?_, HI3.out⟩
                have e : UInt8.ofNat (S : Int).toNat = P q j := by
                  apply UInt8.toNat_inj.1
                  rw [UInt8.toNat_ofNat', Int.toNat_natCast, HPQ.out]
                  exact Nat.mod_eq_of_lt hS
                rw [rowL_snoc, ← e]
                exact HO3.out
              case measure => simp [intOf]; omega
        · obtain rfl : j = m := by omega
          have hbs := HB.out.size
          have HM2 := Lib.hid (HM.out.below HI.out (by omega))
          have HO2 : Hid (Own wr w2.heap.size 5 A' j c' (rowL j (P q))) := HO.out.lower (by omega)
          go_wp2_with (at_builtin; refine wpList_appM _ rfl (.tmp 70) (.tmp 72) rfl rfl (HM2.out.alloc _) rfl (RdV.one _ _ _ _) (rowL_len _ _) (HO2.out.alloc _) (by omega) (by rw [size_alloc]; have := HBI.out.size; omega) (q + 1) rfl ?_; intro A2 c2 w3 hM2 hg2)
          have HM3 := Lib.hid hM2
          have HB3 : Hid (Below w2.heap.size w2 w3) := (HBI.out.alloc HBI.out.size _).grown hg2 (by rw [size_alloc]; have := HBI.out.size; omega) (fun k hk => (mo_block HM2.out k hk).1)
          clear hM2 hg2
          go_roundw
          case rel => exact ⟨q + 1, A2, c2, by omega, by go_num, rfl, by rw [tabM_snoc]; exact HM3.out, HB3.out⟩
          case measure => simp [intOf]; omega
    · obtain rfl : q = n := by omega
      go_wp2
      go_ret2
      have e := HB0.out.2
      have hm := HM.out
      rw [e, ← HP.out] at hm
      exact ⟨A, c, rfl, hm, HB0.out.1.trans (HB.out.mono (by omega))⟩
end Go.Proofs.Ytcggcbfddgfigaa
