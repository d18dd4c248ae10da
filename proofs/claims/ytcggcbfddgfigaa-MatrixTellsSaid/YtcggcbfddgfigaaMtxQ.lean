/- MatrixProducts. -/
import Derived.Test.YtcggcbfddgfigaaMtxP
namespace Go.Proofs.Ytcggcbfddgfigaa
open Go.RowKit Go.Coop

theorem nf_mulF_eq (n : Nat) (F G : Fn2) : nf (mulF n F G) = mm n (nf F) (nf G) := by funext i j; exact nf_mulF n F G i j
theorem mulF_assoc (n : Nat) (F G H : Fn2) : tabM n n (mulF n F (mulF n G H)) = tabM n n (mulF n (mulF n F G) H) :=
  tab_eq fun i j _ _ => by rw [nf_mulF_eq, nf_mulF_eq, nf_mulF_eq, nf_mulF_eq]; exact (mm_assoc n n _ _ _ i j).symm
theorem mulF_unit (n : Nat) (F : Fn2) : tabM n n (mulF n F unitF) = tabM n n F :=
  tab_eq fun i j _ hj => by rw [nf_mulF_eq, mm_congr (B' := unitM) (fun _ _ => rfl) (fun k _ => nf_unit k j)]; exact mm_unit_r n _ i j hj (nf_lt _ _ _)
theorem rank_prod {n : Nat} {F G : Fn2} : rankF n n (mulF n F G) unitF = n ↔ rankF n n F unitF = n ∧ rankF n n G unitF = n := by
  refine ⟨fun h => ?_, fun ⟨h1, h2⟩ => ?_⟩
  · have hp := rankF_is n n (mulF n F G) unitF
    rw [nf_mulF_eq, h] at hp
    have a := (rankF_is n n F unitF).prod_l hp
    have b := (rankF_is n n G unitF).prod_r (nf_lt F) hp
    have c := (rankF_le n n F unitF).1
    have d := (rankF_le n n G unitF).1
    omega
  · have a := invF_spec h1
    have b := invF_spec h2
    have c := a.step b (b' := mm n (nf (besF n n G unitF)) (nf (besF n n F unitF))) (fun _ _ _ _ => rfl) (nf_lt _) (nf_lt _)
    exact full_of_inv (G := unitF) (fun _ _ => mm_lt _ _ _ _ _) (by rw [nf_mulF_eq]; exact c)
theorem inv_prod {n : Nat} {F G : Fn2} (h1 : rankF n n F unitF = n) (h2 : rankF n n G unitF = n) : tabM n n (mulF n (besF n n G unitF) (besF n n F unitF)) = tabM n n (besF n n (mulF n F G) unitF) := by
  have a := invF_spec h1
  have b := invF_spec h2
  have c := a.step b (b' := mm n (nf (besF n n G unitF)) (nf (besF n n F unitF))) (fun _ _ _ _ => rfl) (nf_lt _) (nf_lt _)
  have d := invF_spec (rank_prod.2 ⟨h1, h2⟩)
  rw [nf_mulF_eq] at d
  exact tab_eq fun i j hi hj => by rw [nf_mulF_eq]; exact inv_sides n (mm n (nf F) (nf G)) _ _ c.1 d.2 (fun _ _ => mm_lt _ _ _ _ _) (nf_lt _) i j hi hj

set_option maxHeartbeats 2000000 in
set_option maxRecDepth 100000 in
theorem products_any (z : Nat) (B : Option Addr) (m d : Nat) (l : List UInt8) (B' : Option Addr) (m' d' : Nat) (l' : List UInt8) (B'' : Option Addr) (m'' d'' : Nat) (l'' : List UInt8) (w : World) (hz : z < 256) (h : Rd w B m l) (hm : m ≤ 9223372036854775807) (h' : Rd w B' m' l') (hm' : m' ≤ 9223372036854775807) (h'' : Rd w B'' m'' l'') (hm'' : m'' ≤ 9223372036854775807) :
    Calls Try.prog 7 #[.int .u8 (z : Int), .slice B m d, .slice B' m' d', .slice B'' m'' d''] w fun e w' => e = .returned (.bool true) ∧ Below w.heap.size w w' := by
  have HR0 := Lib.hid h
  have HS0 := Lib.hid h'
  have HT0 := Lib.hid h''
  obtain ⟨n, hn⟩ : ∃ n, n = 1 + z % 7 := ⟨_, rfl⟩
  have hn' : (1 : Int) + (z : Int) % 7 = (n : Int) := by omega
  have hn1 : 1 ≤ n := by omega
  have hn2 : n ≤ 7 := by omega
  clear h h' h'' hn
  go_enter Try.func7, Try.ntmps7
  go_wp2_with fail
  refine (new_any _).mono ?_
  rintro e w1 ⟨g, rfl, hF, hg, hB⟩
  have hW : Below w.heap.size w w1 := hB
  have HR1 := Lib.hid (HR0.out.below hW (Nat.le_refl _))
  have HS1 := Lib.hid (HS0.out.below hW (Nat.le_refl _))
  have HT1 := Lib.hid (HT0.out.below hW (Nat.le_refl _))
  have HB1 : Hid (Below w.heap.size w w1) := hW
  have HF1 := Lib.hid (hF)
  clear hW HR0 HS0 HT0
  clear hF hg hB
  go_wp2_with fail
  refine (square_any n B m d l w1 HR1.out (by omega) hm).mono ?_
  rintro e w2 ⟨Ax, cx, rfl, hM, hB⟩
  obtain ⟨F, hF⟩ : ∃ F, sqF n l = F := ⟨_, rfl⟩
  rw [hF] at hM
  have HHF := Lib.hid hF
  clear hF
  have hW : Below w1.heap.size w1 w2 := hB
  have HS2 := Lib.hid (HS1.out.below hW (Nat.le_refl _))
  have HT2 := Lib.hid (HT1.out.below hW (Nat.le_refl _))
  have HF2 := Lib.hid (HF1.out.below hW HF1.out.lt)
  have HB2 : Hid (Below w.heap.size w w2) := HB1.out.trans (hW.mono HB1.out.size)
  have Hx2 := Lib.hid (hM)
  clear hW HR1 HS1 HT1 HF1 HB1
  clear hM hB HHF
  go_wp2_with fail
  refine (square_any n B' m' d' l' w2 HS2.out (by omega) hm').mono ?_
  rintro e w3 ⟨Ay, cy, rfl, hM, hB⟩
  obtain ⟨G, hG⟩ : ∃ G, sqF n l' = G := ⟨_, rfl⟩
  rw [hG] at hM
  have HHG := Lib.hid hG
  clear hG
  have hW : Below w2.heap.size w2 w3 := hB
  have HT3 := Lib.hid (HT2.out.below hW (Nat.le_refl _))
  have HF3 := Lib.hid (HF2.out.below hW HF2.out.lt)
  have Hx3 := Lib.hid (Hx2.out.below hW (Nat.le_refl _))
  have HB3 : Hid (Below w.heap.size w w3) := HB2.out.trans (hW.mono HB2.out.size)
  have Hy3 := Lib.hid (hM)
  clear hW HS2 HT2 HF2 Hx2 HB2
  clear hM hB HHG
  go_wp2_with fail
  refine (square_any n B'' m'' d'' l'' w3 HT3.out (by omega) hm'').mono ?_
  rintro e w4 ⟨Az, cz, rfl, hM, hB⟩
  obtain ⟨H, hH⟩ : ∃ H, sqF n l'' = H := ⟨_, rfl⟩
  rw [hH] at hM
  have HHH := Lib.hid hH
  clear hH
  have hW : Below w3.heap.size w3 w4 := hB
  have HF4 := Lib.hid (HF3.out.below hW HF3.out.lt)
  have Hx4 := Lib.hid (Hx3.out.below hW (Nat.le_refl _))
  have Hy4 := Lib.hid (Hy3.out.below hW (Nat.le_refl _))
  have HB4 : Hid (Below w.heap.size w w4) := HB3.out.trans (hW.mono HB3.out.size)
  have Hz4 := Lib.hid (hM)
  clear hW HT3 HF3 Hx3 Hy3 HB3
  clear hM hB HHH
  go_wp2_with fail
  refine (unit_yes n w4 hn1 (by omega)).mono ?_
  rintro e w5 ⟨Au, cu, rfl, hM, hB⟩
  have hW : Below w4.heap.size w4 w5 := hB
  have HF5 := Lib.hid (HF4.out.below hW HF4.out.lt)
  have Hx5 := Lib.hid (Hx4.out.below hW (Nat.le_refl _))
  have Hy5 := Lib.hid (Hy4.out.below hW (Nat.le_refl _))
  have Hz5 := Lib.hid (Hz4.out.below hW (Nat.le_refl _))
  have HB5 : Hid (Below w.heap.size w w5) := HB4.out.trans (hW.mono HB4.out.size)
  have Hu5 := Lib.hid (hM)
  clear hW HF4 Hx4 Hy4 Hz4 HB4
  clear hM hB
  go_wp2_with fail
  refine (mul_yes g _ n cx n F _ cy n G w5 HF5.out Hx5.out Hy5.out hn1 (by omega) hn1 (by omega) hn1 (by omega)).mono ?_
  rintro e w6 ⟨Ap, cp, rfl, hM, hB⟩
  obtain ⟨P, hP⟩ : ∃ P, mulF n F G = P := ⟨_, rfl⟩
  rw [hP] at hM
  have HHP := Lib.hid hP
  clear hP
  have hW : Below w5.heap.size w5 w6 := hB
  have HF6 := Lib.hid (HF5.out.below hW HF5.out.lt)
  have Hx6 := Lib.hid (Hx5.out.below hW (Nat.le_refl _))
  have Hy6 := Lib.hid (Hy5.out.below hW (Nat.le_refl _))
  have Hz6 := Lib.hid (Hz5.out.below hW (Nat.le_refl _))
  have Hu6 := Lib.hid (Hu5.out.below hW (Nat.le_refl _))
  have HB6 : Hid (Below w.heap.size w w6) := HB5.out.trans (hW.mono HB5.out.size)
  have Hp6 := Lib.hid (hM)
  clear hW HF5 Hx5 Hy5 Hz5 Hu5 HB5
  clear hM hB
  go_wp2_with fail
  refine (mul_yes g _ n cy n G _ cz n H w6 HF6.out Hy6.out Hz6.out hn1 (by omega) hn1 (by omega) hn1 (by omega)).mono ?_
  rintro e w7 ⟨Aq, cq, rfl, hM, hB⟩
  obtain ⟨Q, hQ⟩ : ∃ Q, mulF n G H = Q := ⟨_, rfl⟩
  rw [hQ] at hM
  have HHQ := Lib.hid hQ
  clear hQ
  have hW : Below w6.heap.size w6 w7 := hB
  have HF7 := Lib.hid (HF6.out.below hW HF6.out.lt)
  have Hx7 := Lib.hid (Hx6.out.below hW (Nat.le_refl _))
  have Hy7 := Lib.hid (Hy6.out.below hW (Nat.le_refl _))
  have Hz7 := Lib.hid (Hz6.out.below hW (Nat.le_refl _))
  have Hu7 := Lib.hid (Hu6.out.below hW (Nat.le_refl _))
  have Hp7 := Lib.hid (Hp6.out.below hW (Nat.le_refl _))
  have HB7 : Hid (Below w.heap.size w w7) := HB6.out.trans (hW.mono HB6.out.size)
  have Hq7 := Lib.hid (hM)
  clear hW HF6 Hx6 Hy6 Hz6 Hu6 Hp6 HB6
  clear hM hB
  go_wp2_with fail
  refine (mul_yes g _ n cp n P _ cz n H w7 HF7.out Hp7.out Hz7.out hn1 (by omega) hn1 (by omega) hn1 (by omega)).mono ?_
  rintro e w8 ⟨Ar, cr, rfl, hM, hB⟩
  obtain ⟨R, hR⟩ : ∃ R, mulF n P H = R := ⟨_, rfl⟩
  rw [hR] at hM
  have HHR := Lib.hid hR
  clear hR
  have hW : Below w7.heap.size w7 w8 := hB
  have HF8 := Lib.hid (HF7.out.below hW HF7.out.lt)
  have Hx8 := Lib.hid (Hx7.out.below hW (Nat.le_refl _))
  have Hy8 := Lib.hid (Hy7.out.below hW (Nat.le_refl _))
  have Hz8 := Lib.hid (Hz7.out.below hW (Nat.le_refl _))
  have Hu8 := Lib.hid (Hu7.out.below hW (Nat.le_refl _))
  have Hp8 := Lib.hid (Hp7.out.below hW (Nat.le_refl _))
  have Hq8 := Lib.hid (Hq7.out.below hW (Nat.le_refl _))
  have HB8 : Hid (Below w.heap.size w w8) := HB7.out.trans (hW.mono HB7.out.size)
  have Hr8 := Lib.hid (hM)
  clear hW HF7 Hx7 Hy7 Hz7 Hu7 Hp7 Hq7 HB7
  clear hM hB
  go_wp2_with fail
  refine (mul_yes g _ n cx n F _ cq n Q w8 HF8.out Hx8.out Hq8.out hn1 (by omega) hn1 (by omega) hn1 (by omega)).mono ?_
  rintro e w9 ⟨As, cs, rfl, hM, hB⟩
  rw [show tabM n n (mulF n F Q) = tabM n n R from by rw [← HHQ.out, mulF_assoc, HHP.out, HHR.out]] at hM
  have hW : Below w8.heap.size w8 w9 := hB
  have HF9 := Lib.hid (HF8.out.below hW HF8.out.lt)
  have Hx9 := Lib.hid (Hx8.out.below hW (Nat.le_refl _))
  have Hy9 := Lib.hid (Hy8.out.below hW (Nat.le_refl _))
  have Hz9 := Lib.hid (Hz8.out.below hW (Nat.le_refl _))
  have Hu9 := Lib.hid (Hu8.out.below hW (Nat.le_refl _))
  have Hp9 := Lib.hid (Hp8.out.below hW (Nat.le_refl _))
  have Hq9 := Lib.hid (Hq8.out.below hW (Nat.le_refl _))
  have Hr9 := Lib.hid (Hr8.out.below hW (Nat.le_refl _))
  have HB9 : Hid (Below w.heap.size w w9) := HB8.out.trans (hW.mono HB8.out.size)
  have Hs9 := Lib.hid (hM)
  clear hW HF8 Hx8 Hy8 Hz8 Hu8 Hp8 Hq8 Hr8 HB8
  clear hM hB
  go_wp2_with fail
  refine (mul_yes g _ n cx n F _ cu n unitF w9 HF9.out Hx9.out Hu9.out hn1 (by omega) hn1 (by omega) hn1 (by omega)).mono ?_
  rintro e w10 ⟨At, ct, rfl, hM, hB⟩
  rw [mulF_unit] at hM
  have hW : Below w9.heap.size w9 w10 := hB
  have HF10 := Lib.hid (HF9.out.below hW HF9.out.lt)
  have Hx10 := Lib.hid (Hx9.out.below hW (Nat.le_refl _))
  have Hy10 := Lib.hid (Hy9.out.below hW (Nat.le_refl _))
  have Hz10 := Lib.hid (Hz9.out.below hW (Nat.le_refl _))
  have Hu10 := Lib.hid (Hu9.out.below hW (Nat.le_refl _))
  have Hp10 := Lib.hid (Hp9.out.below hW (Nat.le_refl _))
  have Hq10 := Lib.hid (Hq9.out.below hW (Nat.le_refl _))
  have Hr10 := Lib.hid (Hr9.out.below hW (Nat.le_refl _))
  have Hs10 := Lib.hid (Hs9.out.below hW (Nat.le_refl _))
  have HB10 : Hid (Below w.heap.size w w10) := HB9.out.trans (hW.mono HB9.out.size)
  have Ht10 := Lib.hid (hM)
  clear hW HF9 Hx9 Hy9 Hz9 Hu9 Hp9 Hq9 Hr9 Hs9 HB9
  clear hM hB
  go_wp2_with fail
  refine (samem_yes _ n cr _ _ cs w10 Hr10.out.mr Hs10.out.mr (by omega)).mono ?_
  rintro e w11 ⟨rfl, j11, hw⟩
  have hW : Below w10.heap.size w10 w11 := by rw [hw]; exact ⟨rfl, rfl, rfl, Nat.le_refl _, fun _ _ => rfl⟩
  have HF11 := Lib.hid (HF10.out.below hW HF10.out.lt)
  have Hx11 := Lib.hid (Hx10.out.below hW (Nat.le_refl _))
  have Hy11 := Lib.hid (Hy10.out.below hW (Nat.le_refl _))
  have Hz11 := Lib.hid (Hz10.out.below hW (Nat.le_refl _))
  have Hu11 := Lib.hid (Hu10.out.below hW (Nat.le_refl _))
  have Hp11 := Lib.hid (Hp10.out.below hW (Nat.le_refl _))
  have Hq11 := Lib.hid (Hq10.out.below hW (Nat.le_refl _))
  have Hr11 := Lib.hid (Hr10.out.below hW (Nat.le_refl _))
  have Hs11 := Lib.hid (Hs10.out.below hW (Nat.le_refl _))
  have Ht11 := Lib.hid (Ht10.out.below hW (Nat.le_refl _))
  have HB11 : Hid (Below w.heap.size w w11) := HB10.out.trans (hW.mono HB10.out.size)
  clear hW HF10 Hx10 Hy10 Hz10 Hu10 Hp10 Hq10 Hr10 Hs10 Ht10 HB10
  clear hw
  go_wp2_with fail
  refine (samem_yes _ n ct _ _ cx w11 Ht11.out.mr Hx11.out.mr (by omega)).mono ?_
  rintro e w12 ⟨rfl, j12, hw⟩
  have hW : Below w11.heap.size w11 w12 := by rw [hw]; exact ⟨rfl, rfl, rfl, Nat.le_refl _, fun _ _ => rfl⟩
  have HF12 := Lib.hid (HF11.out.below hW HF11.out.lt)
  have Hx12 := Lib.hid (Hx11.out.below hW (Nat.le_refl _))
  have Hy12 := Lib.hid (Hy11.out.below hW (Nat.le_refl _))
  have Hz12 := Lib.hid (Hz11.out.below hW (Nat.le_refl _))
  have Hu12 := Lib.hid (Hu11.out.below hW (Nat.le_refl _))
  have Hp12 := Lib.hid (Hp11.out.below hW (Nat.le_refl _))
  have Hq12 := Lib.hid (Hq11.out.below hW (Nat.le_refl _))
  have Hr12 := Lib.hid (Hr11.out.below hW (Nat.le_refl _))
  have Hs12 := Lib.hid (Hs11.out.below hW (Nat.le_refl _))
  have Ht12 := Lib.hid (Ht11.out.below hW (Nat.le_refl _))
  have HB12 : Hid (Below w.heap.size w w12) := HB11.out.trans (hW.mono HB11.out.size)
  clear hW HF11 Hx11 Hy11 Hz11 Hu11 Hp11 Hq11 Hr11 Hs11 Ht11 HB11
  clear hw
  go_wp2_with fail
  refine (invert_any g _ n cx F w12 HF12.out Hx12.out hn1 (by omega)).mono ?_
  rintro e w13 hI
  rcases hI with hI | hI
  · obtain ⟨hrk, Ai, ci, rfl, hM, hB⟩ := hI
    have hW : Below w12.heap.size w12 w13 := hB
    have HF13 := Lib.hid (HF12.out.below hW HF12.out.lt)
    have Hx13 := Lib.hid (Hx12.out.below hW (Nat.le_refl _))
    have Hy13 := Lib.hid (Hy12.out.below hW (Nat.le_refl _))
    have Hz13 := Lib.hid (Hz12.out.below hW (Nat.le_refl _))
    have Hu13 := Lib.hid (Hu12.out.below hW (Nat.le_refl _))
    have Hp13 := Lib.hid (Hp12.out.below hW (Nat.le_refl _))
    have Hq13 := Lib.hid (Hq12.out.below hW (Nat.le_refl _))
    have Hr13 := Lib.hid (Hr12.out.below hW (Nat.le_refl _))
    have Hs13 := Lib.hid (Hs12.out.below hW (Nat.le_refl _))
    have Ht13 := Lib.hid (Ht12.out.below hW (Nat.le_refl _))
    have HB13 := Lib.hid (HB12.out.trans (hW.mono HB12.out.size))
    have Hi13 := Lib.hid hM
    have HKF := Lib.hid hrk
    clear hW hB hrk HB12 HF12 Hx12 Hy12 Hz12 Hu12 Hp12 Hq12 Hr12 Hs12 Ht12 hM
    go_wp2_with fail
    refine (invert_any g _ n cy G w13 HF13.out Hy13.out hn1 (by omega)).mono ?_
    rintro e w14 hI
    rcases hI with hI | hI
    · obtain ⟨hrk, Aj, cj, rfl, hM, hB⟩ := hI
      have hW : Below w13.heap.size w13 w14 := hB
      have HF14 := Lib.hid (HF13.out.below hW HF13.out.lt)
      have Hx14 := Lib.hid (Hx13.out.below hW (Nat.le_refl _))
      have Hy14 := Lib.hid (Hy13.out.below hW (Nat.le_refl _))
      have Hz14 := Lib.hid (Hz13.out.below hW (Nat.le_refl _))
      have Hu14 := Lib.hid (Hu13.out.below hW (Nat.le_refl _))
      have Hp14 := Lib.hid (Hp13.out.below hW (Nat.le_refl _))
      have Hq14 := Lib.hid (Hq13.out.below hW (Nat.le_refl _))
      have Hr14 := Lib.hid (Hr13.out.below hW (Nat.le_refl _))
      have Hs14 := Lib.hid (Hs13.out.below hW (Nat.le_refl _))
      have Ht14 := Lib.hid (Ht13.out.below hW (Nat.le_refl _))
      have Hi14 := Lib.hid (Hi13.out.below hW (Nat.le_refl _))
      have HB14 := Lib.hid (HB13.out.trans (hW.mono HB13.out.size))
      have Hj14 := Lib.hid hM
      have HKG := Lib.hid hrk
      clear hW hB hrk HB13 HF13 Hx13 Hy13 Hz13 Hu13 Hp13 Hq13 Hr13 Hs13 Ht13 Hi13 hM
      go_wp2_with fail
      refine (invert_any g _ n cp P w14 HF14.out Hp14.out hn1 (by omega)).mono ?_
      rintro e w15 hI
      replace hI := hI.resolve_right (fun h => h.1 (by rw [← HHP.out]; exact rank_prod.2 ⟨HKF.out, HKG.out⟩))
      obtain ⟨hrk, Ak, ck, rfl, hM, hB⟩ := hI
      have hW : Below w14.heap.size w14 w15 := hB
      have HF15 := Lib.hid (HF14.out.below hW HF14.out.lt)
      have Hx15 := Lib.hid (Hx14.out.below hW (Nat.le_refl _))
      have Hy15 := Lib.hid (Hy14.out.below hW (Nat.le_refl _))
      have Hz15 := Lib.hid (Hz14.out.below hW (Nat.le_refl _))
      have Hu15 := Lib.hid (Hu14.out.below hW (Nat.le_refl _))
      have Hp15 := Lib.hid (Hp14.out.below hW (Nat.le_refl _))
      have Hq15 := Lib.hid (Hq14.out.below hW (Nat.le_refl _))
      have Hr15 := Lib.hid (Hr14.out.below hW (Nat.le_refl _))
      have Hs15 := Lib.hid (Hs14.out.below hW (Nat.le_refl _))
      have Ht15 := Lib.hid (Ht14.out.below hW (Nat.le_refl _))
      have Hi15 := Lib.hid (Hi14.out.below hW (Nat.le_refl _))
      have Hj15 := Lib.hid (Hj14.out.below hW (Nat.le_refl _))
      have HB15 := Lib.hid (HB14.out.trans (hW.mono HB14.out.size))
      have Hk15 := Lib.hid hM
      have HKP := Lib.hid hrk
      clear hW hB hrk HB14 HF14 Hx14 Hy14 Hz14 Hu14 Hp14 Hq14 Hr14 Hs14 Ht14 Hi14 Hj14 hM
      go_wp2_with fail
      refine (mul_yes g _ n cj n (besF n n G unitF) _ ci n (besF n n F unitF) w15 HF15.out Hj15.out Hi15.out hn1 (by omega) hn1 (by omega) hn1 (by omega)).mono ?_
      rintro e w16 ⟨Av, cv, rfl, hM, hB⟩
      rw [inv_prod HKF.out HKG.out, HHP.out] at hM
      have hW : Below w15.heap.size w15 w16 := hB
      have HF16 := Lib.hid (HF15.out.below hW HF15.out.lt)
      have Hx16 := Lib.hid (Hx15.out.below hW (Nat.le_refl _))
      have Hy16 := Lib.hid (Hy15.out.below hW (Nat.le_refl _))
      have Hz16 := Lib.hid (Hz15.out.below hW (Nat.le_refl _))
      have Hu16 := Lib.hid (Hu15.out.below hW (Nat.le_refl _))
      have Hp16 := Lib.hid (Hp15.out.below hW (Nat.le_refl _))
      have Hq16 := Lib.hid (Hq15.out.below hW (Nat.le_refl _))
      have Hr16 := Lib.hid (Hr15.out.below hW (Nat.le_refl _))
      have Hs16 := Lib.hid (Hs15.out.below hW (Nat.le_refl _))
      have Ht16 := Lib.hid (Ht15.out.below hW (Nat.le_refl _))
      have Hi16 := Lib.hid (Hi15.out.below hW (Nat.le_refl _))
      have Hj16 := Lib.hid (Hj15.out.below hW (Nat.le_refl _))
      have Hk16 := Lib.hid (Hk15.out.below hW (Nat.le_refl _))
      have HB16 : Hid (Below w.heap.size w w16) := HB15.out.trans (hW.mono HB15.out.size)
      have Hv16 := Lib.hid (hM)
      clear hW HF15 Hx15 Hy15 Hz15 Hu15 Hp15 Hq15 Hr15 Hs15 Ht15 Hi15 Hj15 Hk15 HB15
      clear hM hB
      go_wp2_with fail
      refine (samem_yes _ n cv _ _ ck w16 Hv16.out.mr Hk16.out.mr (by omega)).mono ?_
      rintro e w17 ⟨rfl, j17, hw⟩
      have hW : Below w16.heap.size w16 w17 := by rw [hw]; exact ⟨rfl, rfl, rfl, Nat.le_refl _, fun _ _ => rfl⟩
      have HF17 := Lib.hid (HF16.out.below hW HF16.out.lt)
      have Hx17 := Lib.hid (Hx16.out.below hW (Nat.le_refl _))
      have Hy17 := Lib.hid (Hy16.out.below hW (Nat.le_refl _))
      have Hz17 := Lib.hid (Hz16.out.below hW (Nat.le_refl _))
      have Hu17 := Lib.hid (Hu16.out.below hW (Nat.le_refl _))
      have Hp17 := Lib.hid (Hp16.out.below hW (Nat.le_refl _))
      have Hq17 := Lib.hid (Hq16.out.below hW (Nat.le_refl _))
      have Hr17 := Lib.hid (Hr16.out.below hW (Nat.le_refl _))
      have Hs17 := Lib.hid (Hs16.out.below hW (Nat.le_refl _))
      have Ht17 := Lib.hid (Ht16.out.below hW (Nat.le_refl _))
      have Hi17 := Lib.hid (Hi16.out.below hW (Nat.le_refl _))
      have Hj17 := Lib.hid (Hj16.out.below hW (Nat.le_refl _))
      have Hk17 := Lib.hid (Hk16.out.below hW (Nat.le_refl _))
      have Hv17 := Lib.hid (Hv16.out.below hW (Nat.le_refl _))
      have HB17 : Hid (Below w.heap.size w w17) := HB16.out.trans (hW.mono HB16.out.size)
      clear hW HF16 Hx16 Hy16 Hz16 Hu16 Hp16 Hq16 Hr16 Hs16 Ht16 Hi16 Hj16 Hk16 Hv16 HB16
      clear hw
      go_wp2_with fail
      refine (awake_any w17).mono ?_
      rintro e w18 ⟨rfl, hB⟩
      have hW : Below w17.heap.size w17 w18 := hB
      have HF18 := Lib.hid (HF17.out.below hW HF17.out.lt)
      have Hx18 := Lib.hid (Hx17.out.below hW (Nat.le_refl _))
      have Hy18 := Lib.hid (Hy17.out.below hW (Nat.le_refl _))
      have Hz18 := Lib.hid (Hz17.out.below hW (Nat.le_refl _))
      have Hu18 := Lib.hid (Hu17.out.below hW (Nat.le_refl _))
      have Hp18 := Lib.hid (Hp17.out.below hW (Nat.le_refl _))
      have Hq18 := Lib.hid (Hq17.out.below hW (Nat.le_refl _))
      have Hr18 := Lib.hid (Hr17.out.below hW (Nat.le_refl _))
      have Hs18 := Lib.hid (Hs17.out.below hW (Nat.le_refl _))
      have Ht18 := Lib.hid (Ht17.out.below hW (Nat.le_refl _))
      have Hi18 := Lib.hid (Hi17.out.below hW (Nat.le_refl _))
      have Hj18 := Lib.hid (Hj17.out.below hW (Nat.le_refl _))
      have Hk18 := Lib.hid (Hk17.out.below hW (Nat.le_refl _))
      have Hv18 := Lib.hid (Hv17.out.below hW (Nat.le_refl _))
      have HB18 : Hid (Below w.heap.size w w18) := HB17.out.trans (hW.mono HB17.out.size)
      clear hW HF17 Hx17 Hy17 Hz17 Hu17 Hp17 Hq17 Hr17 Hs17 Ht17 Hi17 Hj17 Hk17 Hv17 HB17
      clear hB
      go_wp2
      go_ret
      exact ⟨rfl, HB18.out⟩
    · obtain ⟨hrk, rfl, hB⟩ := hI
      have hW : Below w13.heap.size w13 w14 := hB
      have HF14 := Lib.hid (HF13.out.below hW HF13.out.lt)
      have Hx14 := Lib.hid (Hx13.out.below hW (Nat.le_refl _))
      have Hy14 := Lib.hid (Hy13.out.below hW (Nat.le_refl _))
      have Hz14 := Lib.hid (Hz13.out.below hW (Nat.le_refl _))
      have Hu14 := Lib.hid (Hu13.out.below hW (Nat.le_refl _))
      have Hp14 := Lib.hid (Hp13.out.below hW (Nat.le_refl _))
      have Hq14 := Lib.hid (Hq13.out.below hW (Nat.le_refl _))
      have Hr14 := Lib.hid (Hr13.out.below hW (Nat.le_refl _))
      have Hs14 := Lib.hid (Hs13.out.below hW (Nat.le_refl _))
      have Ht14 := Lib.hid (Ht13.out.below hW (Nat.le_refl _))
      have Hi14 := Lib.hid (Hi13.out.below hW (Nat.le_refl _))
      have HB14 := Lib.hid (HB13.out.trans (hW.mono HB13.out.size))
      have HKG := Lib.hid hrk
      clear hW hB hrk HB13 HF13 Hx13 Hy13 Hz13 Hu13 Hp13 Hq13 Hr13 Hs13 Ht13 Hi13
      go_wp2_with fail
      refine (invert_any g _ n cp P w14 HF14.out Hp14.out hn1 (by omega)).mono ?_
      rintro e w15 hI
      replace hI := hI.resolve_left (fun h => HKG.out (rank_prod.1 (by rw [HHP.out]; exact h.1)).2)
      obtain ⟨hrk, rfl, hB⟩ := hI
      have hW : Below w14.heap.size w14 w15 := hB
      have HF15 := Lib.hid (HF14.out.below hW HF14.out.lt)
      have Hx15 := Lib.hid (Hx14.out.below hW (Nat.le_refl _))
      have Hy15 := Lib.hid (Hy14.out.below hW (Nat.le_refl _))
      have Hz15 := Lib.hid (Hz14.out.below hW (Nat.le_refl _))
      have Hu15 := Lib.hid (Hu14.out.below hW (Nat.le_refl _))
      have Hp15 := Lib.hid (Hp14.out.below hW (Nat.le_refl _))
      have Hq15 := Lib.hid (Hq14.out.below hW (Nat.le_refl _))
      have Hr15 := Lib.hid (Hr14.out.below hW (Nat.le_refl _))
      have Hs15 := Lib.hid (Hs14.out.below hW (Nat.le_refl _))
      have Ht15 := Lib.hid (Ht14.out.below hW (Nat.le_refl _))
      have Hi15 := Lib.hid (Hi14.out.below hW (Nat.le_refl _))
      have HB15 := Lib.hid (HB14.out.trans (hW.mono HB14.out.size))
      have HKP := Lib.hid hrk
      clear hW hB hrk HB14 HF14 Hx14 Hy14 Hz14 Hu14 Hp14 Hq14 Hr14 Hs14 Ht14 Hi14
      go_wp2_with fail
      refine (awake_any w15).mono ?_
      rintro e w16 ⟨rfl, hB⟩
      have hW : Below w15.heap.size w15 w16 := hB
      have HF16 := Lib.hid (HF15.out.below hW HF15.out.lt)
      have Hx16 := Lib.hid (Hx15.out.below hW (Nat.le_refl _))
      have Hy16 := Lib.hid (Hy15.out.below hW (Nat.le_refl _))
      have Hz16 := Lib.hid (Hz15.out.below hW (Nat.le_refl _))
      have Hu16 := Lib.hid (Hu15.out.below hW (Nat.le_refl _))
      have Hp16 := Lib.hid (Hp15.out.below hW (Nat.le_refl _))
      have Hq16 := Lib.hid (Hq15.out.below hW (Nat.le_refl _))
      have Hr16 := Lib.hid (Hr15.out.below hW (Nat.le_refl _))
      have Hs16 := Lib.hid (Hs15.out.below hW (Nat.le_refl _))
      have Ht16 := Lib.hid (Ht15.out.below hW (Nat.le_refl _))
      have Hi16 := Lib.hid (Hi15.out.below hW (Nat.le_refl _))
      have HB16 : Hid (Below w.heap.size w w16) := HB15.out.trans (hW.mono HB15.out.size)
      clear hW HF15 Hx15 Hy15 Hz15 Hu15 Hp15 Hq15 Hr15 Hs15 Ht15 Hi15 HB15
      clear hB
      go_wp2
      go_ret
      exact ⟨rfl, HB16.out⟩
  · obtain ⟨hrk, rfl, hB⟩ := hI
    have hW : Below w12.heap.size w12 w13 := hB
    have HF13 := Lib.hid (HF12.out.below hW HF12.out.lt)
    have Hx13 := Lib.hid (Hx12.out.below hW (Nat.le_refl _))
    have Hy13 := Lib.hid (Hy12.out.below hW (Nat.le_refl _))
    have Hz13 := Lib.hid (Hz12.out.below hW (Nat.le_refl _))
    have Hu13 := Lib.hid (Hu12.out.below hW (Nat.le_refl _))
    have Hp13 := Lib.hid (Hp12.out.below hW (Nat.le_refl _))
    have Hq13 := Lib.hid (Hq12.out.below hW (Nat.le_refl _))
    have Hr13 := Lib.hid (Hr12.out.below hW (Nat.le_refl _))
    have Hs13 := Lib.hid (Hs12.out.below hW (Nat.le_refl _))
    have Ht13 := Lib.hid (Ht12.out.below hW (Nat.le_refl _))
    have HB13 := Lib.hid (HB12.out.trans (hW.mono HB12.out.size))
    have HKF := Lib.hid hrk
    clear hW hB hrk HB12 HF12 Hx12 Hy12 Hz12 Hu12 Hp12 Hq12 Hr12 Hs12 Ht12
    go_wp2_with fail
    refine (invert_any g _ n cy G w13 HF13.out Hy13.out hn1 (by omega)).mono ?_
    rintro e w14 hI
    rcases hI with hI | hI
    · obtain ⟨hrk, Aj, cj, rfl, hM, hB⟩ := hI
      have hW : Below w13.heap.size w13 w14 := hB
      have HF14 := Lib.hid (HF13.out.below hW HF13.out.lt)
      have Hx14 := Lib.hid (Hx13.out.below hW (Nat.le_refl _))
      have Hy14 := Lib.hid (Hy13.out.below hW (Nat.le_refl _))
      have Hz14 := Lib.hid (Hz13.out.below hW (Nat.le_refl _))
      have Hu14 := Lib.hid (Hu13.out.below hW (Nat.le_refl _))
      have Hp14 := Lib.hid (Hp13.out.below hW (Nat.le_refl _))
      have Hq14 := Lib.hid (Hq13.out.below hW (Nat.le_refl _))
      have Hr14 := Lib.hid (Hr13.out.below hW (Nat.le_refl _))
      have Hs14 := Lib.hid (Hs13.out.below hW (Nat.le_refl _))
      have Ht14 := Lib.hid (Ht13.out.below hW (Nat.le_refl _))
      have HB14 := Lib.hid (HB13.out.trans (hW.mono HB13.out.size))
      have Hj14 := Lib.hid hM
      have HKG := Lib.hid hrk
      clear hW hB hrk HB13 HF13 Hx13 Hy13 Hz13 Hu13 Hp13 Hq13 Hr13 Hs13 Ht13 hM
      go_wp2_with fail
      refine (invert_any g _ n cp P w14 HF14.out Hp14.out hn1 (by omega)).mono ?_
      rintro e w15 hI
      replace hI := hI.resolve_left (fun h => HKF.out (rank_prod.1 (by rw [HHP.out]; exact h.1)).1)
      obtain ⟨hrk, rfl, hB⟩ := hI
      have hW : Below w14.heap.size w14 w15 := hB
      have HF15 := Lib.hid (HF14.out.below hW HF14.out.lt)
      have Hx15 := Lib.hid (Hx14.out.below hW (Nat.le_refl _))
      have Hy15 := Lib.hid (Hy14.out.below hW (Nat.le_refl _))
      have Hz15 := Lib.hid (Hz14.out.below hW (Nat.le_refl _))
      have Hu15 := Lib.hid (Hu14.out.below hW (Nat.le_refl _))
      have Hp15 := Lib.hid (Hp14.out.below hW (Nat.le_refl _))
      have Hq15 := Lib.hid (Hq14.out.below hW (Nat.le_refl _))
      have Hr15 := Lib.hid (Hr14.out.below hW (Nat.le_refl _))
      have Hs15 := Lib.hid (Hs14.out.below hW (Nat.le_refl _))
      have Ht15 := Lib.hid (Ht14.out.below hW (Nat.le_refl _))
      have Hj15 := Lib.hid (Hj14.out.below hW (Nat.le_refl _))
      have HB15 := Lib.hid (HB14.out.trans (hW.mono HB14.out.size))
      have HKP := Lib.hid hrk
      clear hW hB hrk HB14 HF14 Hx14 Hy14 Hz14 Hu14 Hp14 Hq14 Hr14 Hs14 Ht14 Hj14
      go_wp2_with fail
      refine (awake_any w15).mono ?_
      rintro e w16 ⟨rfl, hB⟩
      have hW : Below w15.heap.size w15 w16 := hB
      have HF16 := Lib.hid (HF15.out.below hW HF15.out.lt)
      have Hx16 := Lib.hid (Hx15.out.below hW (Nat.le_refl _))
      have Hy16 := Lib.hid (Hy15.out.below hW (Nat.le_refl _))
      have Hz16 := Lib.hid (Hz15.out.below hW (Nat.le_refl _))
      have Hu16 := Lib.hid (Hu15.out.below hW (Nat.le_refl _))
      have Hp16 := Lib.hid (Hp15.out.below hW (Nat.le_refl _))
      have Hq16 := Lib.hid (Hq15.out.below hW (Nat.le_refl _))
      have Hr16 := Lib.hid (Hr15.out.below hW (Nat.le_refl _))
      have Hs16 := Lib.hid (Hs15.out.below hW (Nat.le_refl _))
      have Ht16 := Lib.hid (Ht15.out.below hW (Nat.le_refl _))
      have Hj16 := Lib.hid (Hj15.out.below hW (Nat.le_refl _))
      have HB16 : Hid (Below w.heap.size w w16) := HB15.out.trans (hW.mono HB15.out.size)
      clear hW HF15 Hx15 Hy15 Hz15 Hu15 Hp15 Hq15 Hr15 Hs15 Ht15 Hj15 HB15
      clear hB
      go_wp2
      go_ret
      exact ⟨rfl, HB16.out⟩
    · obtain ⟨hrk, rfl, hB⟩ := hI
      have hW : Below w13.heap.size w13 w14 := hB
      have HF14 := Lib.hid (HF13.out.below hW HF13.out.lt)
      have Hx14 := Lib.hid (Hx13.out.below hW (Nat.le_refl _))
      have Hy14 := Lib.hid (Hy13.out.below hW (Nat.le_refl _))
      have Hz14 := Lib.hid (Hz13.out.below hW (Nat.le_refl _))
      have Hu14 := Lib.hid (Hu13.out.below hW (Nat.le_refl _))
      have Hp14 := Lib.hid (Hp13.out.below hW (Nat.le_refl _))
      have Hq14 := Lib.hid (Hq13.out.below hW (Nat.le_refl _))
      have Hr14 := Lib.hid (Hr13.out.below hW (Nat.le_refl _))
      have Hs14 := Lib.hid (Hs13.out.below hW (Nat.le_refl _))
      have Ht14 := Lib.hid (Ht13.out.below hW (Nat.le_refl _))
      have HB14 := Lib.hid (HB13.out.trans (hW.mono HB13.out.size))
      have HKG := Lib.hid hrk
      clear hW hB hrk HB13 HF13 Hx13 Hy13 Hz13 Hu13 Hp13 Hq13 Hr13 Hs13 Ht13
      go_wp2_with fail
      refine (invert_any g _ n cp P w14 HF14.out Hp14.out hn1 (by omega)).mono ?_
      rintro e w15 hI
      replace hI := hI.resolve_left (fun h => HKF.out (rank_prod.1 (by rw [HHP.out]; exact h.1)).1)
      obtain ⟨hrk, rfl, hB⟩ := hI
      have hW : Below w14.heap.size w14 w15 := hB
      have HF15 := Lib.hid (HF14.out.below hW HF14.out.lt)
      have Hx15 := Lib.hid (Hx14.out.below hW (Nat.le_refl _))
      have Hy15 := Lib.hid (Hy14.out.below hW (Nat.le_refl _))
      have Hz15 := Lib.hid (Hz14.out.below hW (Nat.le_refl _))
      have Hu15 := Lib.hid (Hu14.out.below hW (Nat.le_refl _))
      have Hp15 := Lib.hid (Hp14.out.below hW (Nat.le_refl _))
      have Hq15 := Lib.hid (Hq14.out.below hW (Nat.le_refl _))
      have Hr15 := Lib.hid (Hr14.out.below hW (Nat.le_refl _))
      have Hs15 := Lib.hid (Hs14.out.below hW (Nat.le_refl _))
      have Ht15 := Lib.hid (Ht14.out.below hW (Nat.le_refl _))
      have HB15 := Lib.hid (HB14.out.trans (hW.mono HB14.out.size))
      have HKP := Lib.hid hrk
      clear hW hB hrk HB14 HF14 Hx14 Hy14 Hz14 Hu14 Hp14 Hq14 Hr14 Hs14 Ht14
      go_wp2_with fail
      refine (awake_any w15).mono ?_
      rintro e w16 ⟨rfl, hB⟩
      have hW : Below w15.heap.size w15 w16 := hB
      have HF16 := Lib.hid (HF15.out.below hW HF15.out.lt)
      have Hx16 := Lib.hid (Hx15.out.below hW (Nat.le_refl _))
      have Hy16 := Lib.hid (Hy15.out.below hW (Nat.le_refl _))
      have Hz16 := Lib.hid (Hz15.out.below hW (Nat.le_refl _))
      have Hu16 := Lib.hid (Hu15.out.below hW (Nat.le_refl _))
      have Hp16 := Lib.hid (Hp15.out.below hW (Nat.le_refl _))
      have Hq16 := Lib.hid (Hq15.out.below hW (Nat.le_refl _))
      have Hr16 := Lib.hid (Hr15.out.below hW (Nat.le_refl _))
      have Hs16 := Lib.hid (Hs15.out.below hW (Nat.le_refl _))
      have Ht16 := Lib.hid (Ht15.out.below hW (Nat.le_refl _))
      have HB16 : Hid (Below w.heap.size w w16) := HB15.out.trans (hW.mono HB15.out.size)
      clear hW HF15 Hx15 Hy15 Hz15 Hu15 Hp15 Hq15 Hr15 Hs15 Ht15 HB15
      clear hB
      go_wp2
      go_ret
      exact ⟨rfl, HB16.out⟩
end Go.Proofs.Ytcggcbfddgfigaa
