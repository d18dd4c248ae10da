/- MatrixInverse. -/
import Derived.Test.YtcggcbfddgfigaaMtxO
namespace Go.Proofs.Ytcggcbfddgfigaa
open Go.RowKit Go.Coop

theorem tab_eq {n k : Nat} {F G : Fn2} (h : ∀ i j, i < n → j < k → nf F i j = nf G i j) : tabM n k F = tabM n k G := tabM_congr fun i j hi hj => UInt8.toNat_inj.1 (h i j hi hj)
theorem inv_flip {n : Nat} {a b : Nat → Nat → Nat} (h : Inv2 n a b) : Inv2 n b a := ⟨h.2, h.1⟩
theorem mul_inv {n : Nat} {X F : Fn2} (h : Inv2 n (nf X) (nf F)) : tabM n n (mulF n X F) = tabM n n unitF :=
  tab_eq fun i j hi hj => by rw [nf_mulF, nf_unit]; exact h.1 i j hi hj
theorem inv_back {n : Nat} {F : Fn2} (h : rankF n n F unitF = n) : rankF n n (besF n n F unitF) unitF = n ∧ tabM n n (besF n n (besF n n F unitF) unitF) = tabM n n F := by
  have h1 := invF_spec h
  have h2 : rankF n n (besF n n F unitF) unitF = n := full_of_inv (nf_lt F) (inv_flip h1)
  refine ⟨h2, tab_eq fun i j hi hj => ?_⟩
  have h3 := invF_spec h2
  exact inv_sides n (nf (besF n n F unitF)) _ _ h3.1 h1.1 (nf_lt _) (nf_lt _) i j hi hj

set_option maxHeartbeats 1000000 in
set_option maxRecDepth 100000 in
theorem inverse_any (z : Nat) (B : Option Addr) (m d : Nat) (l : List UInt8) (w : World) (hz : z < 256) (h : Rd w B m l) (hm : m ≤ 9223372036854775807) :
    Calls Try.prog 6 #[.int .u8 (z : Int), .slice B m d] w fun e w' => e = .returned (.bool true) ∧ Below w.heap.size w w' := by
  have HR0 := Lib.hid h
  obtain ⟨n, hn⟩ : ∃ n, n = 1 + z % 10 := ⟨_, rfl⟩
  have hn' : (1 : Int) + (z : Int) % 10 = (n : Int) := by omega
  have hn1 : 1 ≤ n := by omega
  have hn2 : n ≤ 10 := by omega
  clear h hn
  go_enter Try.func6, Try.ntmps6
  go_wp2_with fail
  refine (new_any _).mono ?_
  rintro e w1 ⟨g, rfl, hF, hg, hB⟩
  have hW : Below w.heap.size w w1 := hB
  have HR1 := Lib.hid (HR0.out.below hW (Nat.le_refl _))
  have HB1 : Hid (Below w.heap.size w w1) := hW
  have HF1 := Lib.hid (hF)
  clear hW HR0
  clear hF hg hB
  go_wp2_with fail
  refine (square_any n B m d l w1 HR1.out (by omega) hm).mono ?_
  rintro e w2 ⟨Am, cm, rfl, hM, hB⟩
  have hW : Below w1.heap.size w1 w2 := hB
  have HF2 := Lib.hid (HF1.out.below hW HF1.out.lt)
  have HB2 : Hid (Below w.heap.size w w2) := HB1.out.trans (hW.mono HB1.out.size)
  have Hm2 := Lib.hid (hM)
  clear hW HR1 HF1 HB1
  clear hM hB
  go_wp2_with fail
  refine (unit_yes n w2 hn1 (by omega)).mono ?_
  rintro e w3 ⟨Au, cu, rfl, hM, hB⟩
  have hW : Below w2.heap.size w2 w3 := hB
  have HF3 := Lib.hid (HF2.out.below hW HF2.out.lt)
  have Hm3 := Lib.hid (Hm2.out.below hW (Nat.le_refl _))
  have HB3 : Hid (Below w.heap.size w w3) := HB2.out.trans (hW.mono HB2.out.size)
  have Hu3 := Lib.hid (hM)
  clear hW HF2 Hm2 HB2
  clear hM hB
  obtain ⟨F, hFe⟩ : ∃ F, F = sqF n l := ⟨_, rfl⟩
  rw [← hFe] at Hm3
  clear hFe
  go_wp2_with fail
  refine (invert_any g _ n cm F w3 HF3.out Hm3.out hn1 (by omega)).mono ?_
  rintro e w4 hI
  rcases hI with ⟨hrk, Ax, cx, rfl, hM, hB⟩ | ⟨hrk, rfl, hB⟩
  · have hW : Below w3.heap.size w3 w4 := hB
    have HF4 := Lib.hid (HF3.out.below hW HF3.out.lt)
    have Hm4 := Lib.hid (Hm3.out.below hW (Nat.le_refl _))
    have Hu4 := Lib.hid (Hu3.out.below hW (Nat.le_refl _))
    have HB4 := Lib.hid (HB3.out.trans (hW.mono HB3.out.size))
    have Hx4 := Lib.hid (hM)
    clear hW hB HB3 HF3 Hm3 Hu3 hM
    have HK := Lib.hid hrk
    obtain ⟨X, hX⟩ : ∃ X, besF n n F unitF = X := ⟨_, rfl⟩
    rw [hX] at Hx4
    have HX : Hid (Inv2 n (nf X) (nf F)) := by rw [← hX]; exact invF_spec hrk
    have HY : Hid (rankF n n X unitF = n ∧ tabM n n (besF n n X unitF) = tabM n n F) := by rw [← hX]; exact inv_back hrk
    clear hX hrk
    go_wp2_with fail
    refine (rank_any g _ n cm n F w4 HF4.out Hm4.out hn1 (by omega) hn1 (by omega)).mono ?_
    rintro e w5 ⟨rfl, hB⟩
    rw [HK.out]
    have hW : Below w4.heap.size w4 w5 := hB
    have HF5 := Lib.hid (HF4.out.below hW HF4.out.lt)
    have Hm5 := Lib.hid (Hm4.out.below hW (Nat.le_refl _))
    have Hu5 := Lib.hid (Hu4.out.below hW (Nat.le_refl _))
    have Hx5 := Lib.hid (Hx4.out.below hW (Nat.le_refl _))
    have HB5 : Hid (Below w.heap.size w w5) := HB4.out.trans (hW.mono HB4.out.size)
    clear hW HF4 Hm4 Hu4 Hx4 HB4
    clear hB
    go_wp2_with fail
    refine (mul_yes g _ n cm n F _ cx n X w5 HF5.out Hm5.out Hx5.out hn1 (by omega) hn1 (by omega) hn1 (by omega)).mono ?_
    rintro e w6 ⟨Aa, ca, rfl, hM, hB⟩
    rw [mul_inv (inv_flip HX.out)] at hM
    have hW : Below w5.heap.size w5 w6 := hB
    have HF6 := Lib.hid (HF5.out.below hW HF5.out.lt)
    have Hm6 := Lib.hid (Hm5.out.below hW (Nat.le_refl _))
    have Hu6 := Lib.hid (Hu5.out.below hW (Nat.le_refl _))
    have Hx6 := Lib.hid (Hx5.out.below hW (Nat.le_refl _))
    have HB6 : Hid (Below w.heap.size w w6) := HB5.out.trans (hW.mono HB5.out.size)
    have Ha6 := Lib.hid (hM)
    clear hW HF5 Hm5 Hu5 Hx5 HB5
    clear hM hB
    go_wp2_with fail
    refine (mul_yes g _ n cx n X _ cm n F w6 HF6.out Hx6.out Hm6.out hn1 (by omega) hn1 (by omega) hn1 (by omega)).mono ?_
    rintro e w7 ⟨Ac, cc, rfl, hM, hB⟩
    rw [mul_inv HX.out] at hM
    have hW : Below w6.heap.size w6 w7 := hB
    have HF7 := Lib.hid (HF6.out.below hW HF6.out.lt)
    have Hm7 := Lib.hid (Hm6.out.below hW (Nat.le_refl _))
    have Hu7 := Lib.hid (Hu6.out.below hW (Nat.le_refl _))
    have Hx7 := Lib.hid (Hx6.out.below hW (Nat.le_refl _))
    have Ha7 := Lib.hid (Ha6.out.below hW (Nat.le_refl _))
    have HB7 : Hid (Below w.heap.size w w7) := HB6.out.trans (hW.mono HB6.out.size)
    have Hc7 := Lib.hid (hM)
    clear hW HF6 Hm6 Hu6 Hx6 Ha6 HB6
    clear hM hB
    go_wp2_with fail
    refine (invert_any g _ n cx X w7 HF7.out Hx7.out hn1 (by omega)).mono ?_
    rintro e w8 hI
    obtain ⟨_, Ay, cy, rfl, hM, hB⟩ := hI.resolve_right (fun h => h.1 HY.out.1)
    rw [HY.out.2] at hM
    have hW : Below w7.heap.size w7 w8 := hB
    have HF8 := Lib.hid (HF7.out.below hW HF7.out.lt)
    have Hm8 := Lib.hid (Hm7.out.below hW (Nat.le_refl _))
    have Hu8 := Lib.hid (Hu7.out.below hW (Nat.le_refl _))
    have Hx8 := Lib.hid (Hx7.out.below hW (Nat.le_refl _))
    have Ha8 := Lib.hid (Ha7.out.below hW (Nat.le_refl _))
    have Hc8 := Lib.hid (Hc7.out.below hW (Nat.le_refl _))
    have HB8 : Hid (Below w.heap.size w w8) := HB7.out.trans (hW.mono HB7.out.size)
    have Hy8 := Lib.hid (hM)
    clear hW HF7 Hm7 Hu7 Hx7 Ha7 Hc7 HB7
    clear hM hB
    go_wp2_with fail
    refine (samem_yes _ n ca _ _ cu w8 Ha8.out.mr Hu8.out.mr (by omega)).mono ?_
    rintro e w9 ⟨rfl, j9, hw⟩
    have hW : Below w8.heap.size w8 w9 := by rw [hw]; exact ⟨rfl, rfl, rfl, Nat.le_refl _, fun _ _ => rfl⟩
    have HF9 := Lib.hid (HF8.out.below hW HF8.out.lt)
    have Hm9 := Lib.hid (Hm8.out.below hW (Nat.le_refl _))
    have Hu9 := Lib.hid (Hu8.out.below hW (Nat.le_refl _))
    have Hx9 := Lib.hid (Hx8.out.below hW (Nat.le_refl _))
    have Ha9 := Lib.hid (Ha8.out.below hW (Nat.le_refl _))
    have Hc9 := Lib.hid (Hc8.out.below hW (Nat.le_refl _))
    have Hy9 := Lib.hid (Hy8.out.below hW (Nat.le_refl _))
    have HB9 : Hid (Below w.heap.size w w9) := HB8.out.trans (hW.mono HB8.out.size)
    clear hW HF8 Hm8 Hu8 Hx8 Ha8 Hc8 Hy8 HB8
    clear hw
    go_wp2_with fail
    refine (samem_yes _ n cc _ _ cu w9 Hc9.out.mr Hu9.out.mr (by omega)).mono ?_
    rintro e w10 ⟨rfl, j10, hw⟩
    have hW : Below w9.heap.size w9 w10 := by rw [hw]; exact ⟨rfl, rfl, rfl, Nat.le_refl _, fun _ _ => rfl⟩
    have HF10 := Lib.hid (HF9.out.below hW HF9.out.lt)
    have Hm10 := Lib.hid (Hm9.out.below hW (Nat.le_refl _))
    have Hu10 := Lib.hid (Hu9.out.below hW (Nat.le_refl _))
    have Hx10 := Lib.hid (Hx9.out.below hW (Nat.le_refl _))
    have Ha10 := Lib.hid (Ha9.out.below hW (Nat.le_refl _))
    have Hc10 := Lib.hid (Hc9.out.below hW (Nat.le_refl _))
    have Hy10 := Lib.hid (Hy9.out.below hW (Nat.le_refl _))
    have HB10 : Hid (Below w.heap.size w w10) := HB9.out.trans (hW.mono HB9.out.size)
    clear hW HF9 Hm9 Hu9 Hx9 Ha9 Hc9 Hy9 HB9
    clear hw
    go_wp2_with fail
    refine (samem_yes _ n cy _ _ cm w10 Hy10.out.mr Hm10.out.mr (by omega)).mono ?_
    rintro e w11 ⟨rfl, j11, hw⟩
    have hW : Below w10.heap.size w10 w11 := by rw [hw]; exact ⟨rfl, rfl, rfl, Nat.le_refl _, fun _ _ => rfl⟩
    have HF11 := Lib.hid (HF10.out.below hW HF10.out.lt)
    have Hm11 := Lib.hid (Hm10.out.below hW (Nat.le_refl _))
    have Hu11 := Lib.hid (Hu10.out.below hW (Nat.le_refl _))
    have Hx11 := Lib.hid (Hx10.out.below hW (Nat.le_refl _))
    have Ha11 := Lib.hid (Ha10.out.below hW (Nat.le_refl _))
    have Hc11 := Lib.hid (Hc10.out.below hW (Nat.le_refl _))
    have Hy11 := Lib.hid (Hy10.out.below hW (Nat.le_refl _))
    have HB11 : Hid (Below w.heap.size w w11) := HB10.out.trans (hW.mono HB10.out.size)
    clear hW HF10 Hm10 Hu10 Hx10 Ha10 Hc10 Hy10 HB10
    clear hw
    go_wp2_with fail
    refine (awake_any w11).mono ?_
    rintro e w12 ⟨rfl, hB⟩
    have hW : Below w11.heap.size w11 w12 := hB
    have HF12 := Lib.hid (HF11.out.below hW HF11.out.lt)
    have Hm12 := Lib.hid (Hm11.out.below hW (Nat.le_refl _))
    have Hu12 := Lib.hid (Hu11.out.below hW (Nat.le_refl _))
    have Hx12 := Lib.hid (Hx11.out.below hW (Nat.le_refl _))
    have Ha12 := Lib.hid (Ha11.out.below hW (Nat.le_refl _))
    have Hc12 := Lib.hid (Hc11.out.below hW (Nat.le_refl _))
    have Hy12 := Lib.hid (Hy11.out.below hW (Nat.le_refl _))
    have HB12 : Hid (Below w.heap.size w w12) := HB11.out.trans (hW.mono HB11.out.size)
    clear hW HF11 Hm11 Hu11 Hx11 Ha11 Hc11 Hy11 HB11
    clear hB
    go_wp2
    go_ret
    exact ⟨rfl, HB12.out⟩
  · have hW : Below w3.heap.size w3 w4 := hB
    have HF4 := Lib.hid (HF3.out.below hW HF3.out.lt)
    have Hm4 := Lib.hid (Hm3.out.below hW (Nat.le_refl _))
    have Hu4 := Lib.hid (Hu3.out.below hW (Nat.le_refl _))
    have HB4 := Lib.hid (HB3.out.trans (hW.mono HB3.out.size))
    clear hW hB HB3 HF3 Hm3 Hu3
    have HK := Lib.hid hrk
    obtain ⟨r, hr⟩ : ∃ r, rankF n n F unitF = r := ⟨_, rfl⟩
    go_wp2_with fail
    refine (rank_any g _ n cm n F w4 HF4.out Hm4.out hn1 (by omega) hn1 (by omega)).mono ?_
    rintro e w5 ⟨rfl, hB⟩
    rw [hr]
    have hW : Below w4.heap.size w4 w5 := hB
    have HF5 := Lib.hid (HF4.out.below hW HF4.out.lt)
    have Hm5 := Lib.hid (Hm4.out.below hW (Nat.le_refl _))
    have Hu5 := Lib.hid (Hu4.out.below hW (Nat.le_refl _))
    have HB5 : Hid (Below w.heap.size w w5) := HB4.out.trans (hW.mono HB4.out.size)
    clear hW HF4 Hm4 Hu4 HB4
    clear hB
    have hq : ((r : Int) == (n : Int)) = false := beq_eq_false_iff_ne.2 (by have := HK.out; rw [hr] at this; omega)
    clear hr hrk
    go_wp2_with fail
    refine (awake_any w5).mono ?_
    rintro e w6 ⟨rfl, hB⟩
    have hW : Below w5.heap.size w5 w6 := hB
    have HF6 := Lib.hid (HF5.out.below hW HF5.out.lt)
    have Hm6 := Lib.hid (Hm5.out.below hW (Nat.le_refl _))
    have Hu6 := Lib.hid (Hu5.out.below hW (Nat.le_refl _))
    have HB6 : Hid (Below w.heap.size w w6) := HB5.out.trans (hW.mono HB5.out.size)
    clear hW HF5 Hm5 Hu5 HB5
    clear hB
    go_wp2
    go_ret
    exact ⟨rfl, HB6.out⟩
end Go.Proofs.Ytcggcbfddgfigaa
