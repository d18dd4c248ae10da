/- RoundOrder's walk. -/
import Derived.Test.YtciihebaameccaaRndM
import Derived.Test.YtciihebaameccaaRndV
import Derived.Deep.CutRange
import Derived.Deep.CutBlock
namespace Go.Proofs.Ytciihebaameccaa
open Go.RowKit Go.Coop
set_option maxRecDepth 100000
theorem LR.butg {w wc wd : World} {b b8 : Nat} {r : Rn} {A : Option Addr} {n c : Nat} (h : LR w wc b r A n c) (hb : But [b8] wc wd) (h78 : b ≠ b8) (hA : ∀ j, A.map (·.block) = some j → j ≠ b8) (hle : w.heap.size ≤ b8) : LR w wd b r A n c :=
  ⟨hb.cells h.row (by simpa using h78), h.rd.but hb (fun j hj hm => hA j hj (by simpa using hm)), h.right, h.len, h.bel.trans (hb.below (B := w.heap.size) h.bel.size (by intro g hg; simp at hg; omega)), h.le⟩
theorem saidE_two (l : List UInt8) (i : Nat) : saidE l i = 0 ∨ saidE l i = 62 := by
  unfold saidE
  split
  · split
    · exact .inr rfl
    · exact .inl rfl
  · exact .inl rfl
/-- a round, how many, and a truth; the marks in a block that was not there -/
def BegunF (w : World) (r : Rn) (e : Ending) (w' : World) : Prop := ∃ A c, e = .returned (.tuple #[RVal r A r.ms.length c, .int .i64 (r.ms.length : Int), .bool true]) ∧ RdV w' A r.ms.length (r.ms.map IV) ∧ (∀ j, A.map (·.block) = some j → w.heap.size ≤ j) ∧ Below w.heap.size w w'
section
variable (w : World)
set_option maxHeartbeats 2000000 in
theorem begunF_is (n d : Int) (hn : 0 ≤ n ∧ n ≤ 255) (hd : 0 ≤ d ∧ d ≤ 255) : Calls Try.prog 31 #[.int .u8 n, .int .u8 d] w (BegunF w (Bg n d)) := by
  obtain ⟨w1, hw1⟩ : ∃ z, w.alloc (.cells #[.int .i64 0, .int .i64 0, .int .i64 0, .int .i64 0, .slice none 0 0] 26) = z := ⟨_, rfl⟩
  obtain ⟨hb1, hx1⟩ := box_new hw1
  obtain ⟨b, hb⟩ : ∃ b, w.heap.size = b := ⟨_, rfl⟩
  rw [hb] at hx1
  have HB1 := Lib.hid hb1
  have HX1 := Lib.hid hx1
  have hbl := lt_of_block hx1
  have HBL := Lib.hid hbl
  have HS := Lib.hid hb
  clear hb1 hx1 hbl
  obtain ⟨m, hm⟩ : ∃ m, manyOf n = m := ⟨_, rfl⟩
  obtain ⟨hm1, hm2, hm3⟩ := manyOf_b (n := n)
  rw [hm] at hm1 hm2 hm3
  have hmod : n % 12 = (m : Int) - 1 := by omega
  have hw2 : IntKind.i64.wrap (1 + ((m : Int) - 1)) = (m : Int) := by rw [show 1 + ((m : Int) - 1) = (m : Int) by omega]; exact IntWalk.i64_in _ (by omega)
  obtain ⟨q, hq⟩ : ∃ q, needOf n d = q := ⟨_, rfl⟩
  have hqb := needOf_b (n := n) (d := d)
  rw [hq, hm] at hqb
  have hdm : d % (m : Int) = q - 1 := by rw [← hq]; unfold needOf; rw [hm1]; omega
  have hmz : ((m : Int) == 0) = false := by simp; omega
  have hw3 : IntKind.i64.wrap (d.tmod (m : Int)) = q - 1 := by rw [Int.tmod_eq_emod_of_nonneg hd.1, hdm]; exact IntWalk.i64_in _ (by omega)
  have hw4 : IntKind.i64.wrap (1 + (q - 1)) = q := by rw [show 1 + (q - 1) = q by omega]; exact IntWalk.i64_in _ (by omega)
  have HP : Hid (beginR 5 9 m q = (Bg n d, 0)) := by show _ = _; rw [← hm, ← hq]; exact bg_eq n d
  have HM := Lib.hid (show (Bg n d).ms.length = m from (bg_len n d).trans hm)
  have hnm : n.tmod 12 = (m : Int) - 1 := by rw [Int.tmod_eq_emod_of_nonneg hn.1]; exact hmod
  have hm0 : ¬ (m : Int) = 0 := by omega
  have htm : d.tmod (m : Int) = q - 1 := by rw [Int.tmod_eq_emod_of_nonneg hd.1, hdm]
  clear hm1 hq
  go_enter Try.func31, Try.ntmps31
  go_wp2_with fail
  (try rw [hw1]); (try rw [hb])
  refine (begin_is _ 5 9 m q).mono ?_
  rintro e w3 ⟨A3, c3, he, hr3, hA3, hb3⟩
  subst he
  rw [HP.out] at hr3 ⊢
  simp only [RVal, HM.out] at hr3 ⊢
  obtain ⟨R, hR⟩ : ∃ R, Bg n d = R := ⟨_, rfl⟩
  rw [hR] at hr3 HM ⊢
  obtain ⟨qs, qv, qn, qp, qm⟩ := R
  have HRR := Lib.hid hR
  clear hR
  simp only at hr3 HM ⊢
  obtain ⟨w4, hw4⟩ : ∃ z, w3.alloc (.cells #[.int .i64 qs, .int .i64 qv, .int .i64 qn, .int .i64 qp, .slice A3 m c3] 26) = z := ⟨_, rfl⟩
  obtain ⟨hb4, hx4⟩ := box_new hw4
  have hx14 := (hb4.block _ (by have := hb3.size; have := HBL.out; omega)).trans ((hb3.block _ HBL.out).trans HX1.out)
  have HB4 := Lib.hid ((HB1.out.trans (hb3.mono HB1.out.size)).trans (hb4.mono (Nat.le_trans HB1.out.size hb3.size)))
  have HR4 := Lib.hid (hr3.below hb4 (Nat.le_refl _))
  have HA4 : Hid (∀ j, A3.map (·.block) = some j → j ≠ b) := fun j hj => by
    have h1 := hA3 j hj
    have h2 := HBL.out
    omega
  have HX4 := Lib.hid hx14
  have HFR : Hid (∀ j, A3.map (·.block) = some j → w.heap.size ≤ j) := fun j hj => by
    have h1 := hA3 j hj
    have h2 := HB1.out.size
    omega
  obtain ⟨⟨f0, f1, f2, f3, f4⟩, fbl⟩ := five26 hx14
  obtain ⟨g0, g1, g2, g3, g4⟩ := thaw5 hx14
  obtain ⟨⟨e0, e1, e2, e3, e4⟩, ebl⟩ := five26 hx4
  have hne : w3.heap.size ≠ b := by have := hb3.size; have := HBL.out; omega
  have hne' := hne.symm
  clear hx14 hx4 hb4 hb3 hA3 hr3
  go_wp2
  (try rw [hw4])
  obtain ⟨hw, hr9, hb9⟩ := two_end (w := w) (s := qs) (v := qv) (need := qn) (ph := qp) (c := c3) HR4.out HA4.out HX4.out HB4.out (by have := HS.out; omega)
  rw [HRR.out]
  refine bodyPost_ret (v := .tuple #[.agg #[.int .i64 qs, .int .i64 qv, .int .i64 qn, .int .i64 qp, .slice A3 m c3], .int .i64 (m : Int), .bool true]) ?_ rfl ⟨A3, c3, ?_, ?_, HFR.out, hb9⟩
  · rw [results_cell_tmp_2 rfl]
    simp [asAddr, Result.andThen, loadv26 hw]
  · simp only [HM.out]
  · simp only [HM.out]; exact hr9
/-- the closure: what an index says -/
theorem said_is {F : Option Addr} {m cF : Nat} {l : List UInt8} (hF : Rd w F m l) {g : Nat} (hg : w.cell? ⟨g, 0, none⟩ = some (.slice F m cF)) (i : Nat) (hi : i ≤ 1000000) {q : Int} (hq : saidE l i = q) : Calls Try.prog 35 #[.int .i64 (i : Int), .pointer (some ⟨g, 0, none⟩)] w fun e w' => e = .returned (.int .i64 q) ∧ w = w' := by
  have hl := hF.len
  by_cases hlt : i < m
  · obtain ⟨x, hx⟩ : ∃ x, l[i]? = some x := ⟨_, List.getElem?_eq_getElem (by omega)⟩
    obtain ⟨ad, rfl, hadl, hc⟩ := hF.cells (by omega)
    have c0 : w.cell? (ad.add i) = some (.int .u8 (x.toNat : Int)) := hc i x hx
    have hi1 : (0 : Int) ≤ (i : Int) := by omega
    have hi2 : (i : Int) < (m : Int) := by omega
    have hq2 : (if x.toNat % 3 = 0 then (62 : Int) else 0) = q := by rw [← hq]; unfold saidE; rw [hx]
    have htm : ((x.toNat : Int)).tmod 3 = ((x.toNat % 3 : Nat) : Int) := by rw [Int.tmod_eq_emod_of_nonneg (by omega)]; omega
    obtain ⟨y, hy⟩ : ∃ y, x.toNat % 3 = y := ⟨_, rfl⟩
    have hyb : y < 3 := by omega
    rw [hy] at hq2 htm
    by_cases h0 : y = 0
    · subst h0
      obtain rfl : 62 = q := by rw [← hq2]; rfl
      have HY := Lib.hid hy
      have HT := Lib.hid htm
      have hm3 : (x.toNat : Int) % 3 = 0 := by omega
      clear hq hq2 hx hc hy htm hlt hadl hF
      go_enter Try.func35, Try.ntmps35
      go_wp2
      go_ret
      exact ⟨rfl, rfl⟩
    · obtain rfl : 0 = q := by rw [← hq2, if_neg h0]
      have hm3 : (((x.toNat : Int) % 3) == 0) = false := by simp; omega
      have hm4 : ¬ (x.toNat : Int) % 3 = 0 := by omega
      clear hq hq2 hx hc hy htm hlt hadl hF
      go_enter Try.func35, Try.ntmps35
      go_wp2
      go_ret
      exact ⟨rfl, rfl⟩
  · have hd : decide ((i : Int) < (m : Int)) = false := decide_eq_false (by omega)
    have hd2 : decide (i < m) = false := decide_eq_false hlt
    obtain rfl : 0 = q := by rw [← hq]; unfold saidE; rw [List.getElem?_eq_none (by omega)]
    clear hq hlt hF
    go_enter Try.func35, Try.ntmps35
    go_wp2
    go_ret
    exact ⟨rfl, rfl⟩
set_option maxHeartbeats 2000000 in
theorem order_law (n0 d0 : Int) (hn0 : 0 ≤ n0 ∧ n0 ≤ 255) (hd0 : 0 ≤ d0 ∧ d0 ≤ 255) {F : Option Addr} {m cF : Nat} {l : List UInt8} (hF : Rd w F m l) : Calls Try.prog 8 #[.int .u8 n0, .int .u8 d0, .slice F m cF] w (Told w true) := by
  have HFl := Lib.hid hF
  clear hF
  obtain ⟨w0, hw0⟩ : ∃ z, w.alloc (.cells #[.slice F m cF] 58) = z := ⟨_, rfl⟩
  obtain ⟨hb0, hx0⟩ := box_new hw0
  obtain ⟨b5, hb5⟩ : ∃ b, w.heap.size = b := ⟨_, rfl⟩
  rw [hb5] at hx0
  have HX0 := Lib.hid (And.intro hb0 (And.intro hx0 hb5))
  clear hb0 hx0
  go_enter Try.func8, Try.ntmps8
  go_wp2_with fail
  (try rw [hw0]); (try rw [hb5])
  clear hw0 hb5
  refine (begun_is _ n0 d0 hn0 hd0).mono ?_
  rintro e w1 ⟨A1, c1, rfl, hr1, hb1⟩
  obtain ⟨r0, hr0⟩ : ∃ r, Bg n0 d0 = r := ⟨_, rfl⟩
  have HR0 := Lib.hid (hr0 ▸ bg_right n0 d0)
  have HLEN := Lib.hid (show r0.ms.length = manyOf n0 from hr0 ▸ bg_len n0 d0)
  rw [hr0] at hr1 ⊢
  obtain ⟨n, hn⟩ : ∃ n, manyOf n0 = n := ⟨_, rfl⟩
  rw [hn] at HLEN
  have HN : Hid (0 < n ∧ n ≤ 1000000) := by show _ ∧ _; have := (manyOf_b (n := n0)).2; omega
  simp only [RVal, HLEN.out] at hr1 ⊢
  have HR00 := Lib.hid hr0
  have HNN := Lib.hid hn
  clear hr0 hn
  obtain ⟨b7, hb7⟩ : ∃ b, w1.heap.size = b := ⟨_, rfl⟩
  obtain ⟨w2, hw2⟩ : ∃ z, w1.alloc (.cells #[.int .i64 r0.s, .int .i64 r0.v, .int .i64 r0.need, .int .i64 r0.ph, .slice A1 n c1] 26) = z := ⟨_, rfl⟩
  obtain ⟨hb2, hx2⟩ := box_new hw2
  rw [hb7] at hx2
  have hww1 : Below w.heap.size w w1 := HX0.out.1.trans (hb1.mono HX0.out.1.size)
  have HLa := Lib.hid (show LR w w2 b7 r0 A1 n c1 from ⟨hx2, hr1.below hb2 (Nat.le_refl _), HR0.out, HLEN.out, hww1.trans (hb2.mono hww1.size), by have := hww1.size; omega⟩)
  have HC2 := Lib.hid ((hb2.block _ (by have := lt_of_block HX0.out.2.1; have := hb1.size; omega)).trans ((hb1.block _ (lt_of_block HX0.out.2.1)).trans HX0.out.2.1))
  have HAlt : Hid (∀ g, A1.map (·.block) = some g → g < b7) := fun g hg => by
    obtain ⟨ad9, e9, h1, _⟩ := hr1.cells HN.out.1
    rw [e9] at hg
    simp at hg
    omega
  have H57 : Hid (b5 < b7) := by show _ < _; have := lt_of_block HX0.out.2.1; have := hb1.size; omega
  clear hx2 hr1 hb1 hb2 hww1
  go_wp2_with fail
  (try rw [hw2]); (try rw [hb7])
  clear hw2 hb7
  refine (begunF_is _ n0 d0 hn0 hd0).mono ?_
  rintro e w3 ⟨A3, c3, rfl, hr3, hB3, hb3⟩
  rw [HR00.out] at hr3 ⊢
  simp only [RVal, HLEN.out] at hr3 ⊢
  obtain ⟨b10, hb10⟩ : ∃ b, w3.heap.size = b := ⟨_, rfl⟩
  obtain ⟨w4, hw4⟩ : ∃ z, w3.alloc (.cells #[.int .i64 r0.s, .int .i64 r0.v, .int .i64 r0.need, .int .i64 r0.ph, .slice A3 n c3] 26) = z := ⟨_, rfl⟩
  obtain ⟨hb4, hx4⟩ := box_new hw4
  rw [hb10] at hx4
  have hb24 : Below w2.heap.size w2 w4 := hb3.trans (hb4.mono hb3.size)
  have HLa4 := Lib.hid (HLa.out.below hb24)
  have HC4 := Lib.hid ((hb24.block _ (lt_of_block HC2.out)).trans HC2.out)
  have HLb4 := Lib.hid (show LR w w4 b10 r0 A3 n c3 from ⟨hx4, hr3.below hb4 (Nat.le_refl _), HR0.out, HLEN.out, HLa4.out.bel, by have := HLa.out.bel.size; have := hb3.size; omega⟩)
  have H710 : Hid (b7 < b10) := by show _ < _; have := lt_of_block HLa.out.row; have := hb3.size; omega
  have HMM : Hid ((∀ g, A1.map (·.block) = some g → g ≠ b10) ∧ (∀ g, A3.map (·.block) = some g → g ≠ b7)) := ⟨fun g hg => by have h1 := HAlt.out g hg; have h2 := H710.out; omega, fun g hg => by
    have := hB3 g hg
    have h2 := lt_of_block HLa.out.row
    omega⟩
  have HW5 : Hid (w.heap.size ≤ b5) := by show _ ≤ _; have := HX0.out.2.2; omega
  have hz0 : ∀ mm ∈ r0.ms, mm = 0 := fun mm hm => by rw [← HR00.out] at hm; exact List.eq_of_mem_replicate hm
  have hp0 : r0.ph = 1 := by rw [← HR00.out]; rfl
  have HOa0 : Hid (OS n r0.need r0 (saidE l) (fun k => k < 0)) := OS.start HR0.out HLEN.out hp0 hz0 (fun k _ h => absurd h (by omega))
  have HOb0 : Hid (OS n r0.need r0 (saidE l) (fun k => n ≤ k + 0)) := OS.start HR0.out HLEN.out hp0 hz0 (fun k h1 h => by omega)
  clear hz0 hp0
  clear hx4 hr3 hB3 hb3 hb4 hb24 HLa HC2 HAlt
  go_wp2
  (try rw [hw4]); (try rw [hb10])
  clear hw4 hb10
  go_loopg [14, 15, 16] n (fun kx s14 _ _ wr => ∃ (j : Nat) (ra rb : Rn) (Aa Ab : Option Addr) (ca cb : Nat), j ≤ n ∧ n - j ≤ kx ∧ s14 = .int .i64 j ∧ Hid (LR w wr b7 ra Aa n ca) ∧ Hid (LR w wr b10 rb Ab n cb) ∧ Hid (wr.heap[b5]? = some (.cells #[.slice F m cF] 58 (0, 0))) ∧ Hid ((∀ g, Aa.map (·.block) = some g → g ≠ b10) ∧ (∀ g, Ab.map (·.block) = some g → g ≠ b7)) ∧ Hid (OS n r0.need ra (saidE l) (fun k => k < j) ∧ OS n r0.need rb (saidE l) (fun k => n ≤ k + j)))
  case atStart => exact ⟨0, r0, r0, A1, A3, c1, c3, Nat.zero_le _, by omega, rfl, HLa4, HLb4, HC4, HMM, Lib.hid (And.intro HOa0.out HOb0.out)⟩
  case round =>
    clear HLa4 HLb4 HC4 HMM HOa0 HOb0 HX0 hn0 hd0
    obtain ⟨j, ra, rb, Aa, Ab, ca, cb, hj, hk, rfl, HLa, HLb, HC, HMM, HO⟩ := hrel
    by_cases hlt : j < n
    · have HJ : Hid (j < n) := hlt
      have dec1 : ∀ k : Nat, k < j ∨ ¬ k < j := fun k => by omega
      have dec2 : ∀ k : Nat, n ≤ k + j ∨ ¬ n ≤ k + j := fun k => by omega
      obtain ⟨p, hp⟩ : ∃ p, n - 1 - j = p := ⟨_, rfl⟩
      have hpn : p < n := by omega
      obtain ⟨e1, he1⟩ : ∃ e, saidE l j = e := ⟨_, rfl⟩
      obtain ⟨e2, he2⟩ : ∃ e, saidE l p = e := ⟨_, rfl⟩
      obtain ⟨hta, hsa⟩ := HO.out.1.step dec1 hlt (by omega)
      obtain ⟨htb, hsb⟩ := HO.out.2.step dec2 (i := p) hpn (by omega)
      rw [he1] at hta hsa
      rw [he2] at htb hsb
      obtain ⟨Qa, hQa⟩ : ∃ q, (ra.told (j : Nat) 1 e1).1 = q := ⟨_, rfl⟩
      obtain ⟨Qb, hQb⟩ : ∃ q, (rb.told (p : Nat) 1 e2).1 = q := ⟨_, rfl⟩
      have HQa : Hid (Rn.told ⟨ra.s, ra.v, ra.need, ra.ph, ra.ms⟩ (j : Nat) 1 e1 = (Qa, 0)) := Prod.ext hQa hta
      have HQb : Hid (Rn.told ⟨rb.s, rb.v, rb.need, rb.ph, rb.ms⟩ (p : Nat) 1 e2 = (Qb, 0)) := Prod.ext hQb htb
      rw [hQa] at hsa
      rw [hQb] at hsb
      have HOa2 := Lib.hid (hsa.congr (D' := fun k => k < j + 1) (fun k _ => by show (k < j ∨ k = j) ↔ k < j + 1; omega))
      have HOb2 := Lib.hid (hsb.congr (D' := fun k => n ≤ k + (j + 1)) (fun k hkn => by show (n ≤ k + j ∨ k = p) ↔ n ≤ k + (j + 1); omega))
      have HQaR := Lib.hid hsa.right
      have HQbR := Lib.hid hsb.right
      have HQaL := Lib.hid hsa.len
      have HQbL := Lib.hid hsb.len
      have HE1 := Lib.hid he1
      have HE2 := Lib.hid he2
      have hi1 : (0 : Int) ≤ (j : Int) := by omega
      have hi2 : (j : Int) < (n : Int) := by omega
      have hw1 : IntKind.i64.wrap ((j : Int) + 1) = (j : Int) + 1 := IntWalk.i64_in _ (by have := HN.out; omega)
      have hw2 : IntKind.i64.wrap ((n : Int) - 1) = (n : Int) - 1 := IntWalk.i64_in _ (by have := HN.out; omega)
      have hw3 : IntKind.i64.wrap ((n : Int) - 1 - (j : Int)) = (p : Int) := by rw [show (n : Int) - 1 - (j : Int) = (p : Int) by omega]; exact IntWalk.i64_in _ (by have := HN.out; omega)
      have HPP : Hid (p ≤ 1000000 ∧ n - 1 - j = p) := by show _ ∧ _; have := HN.out; omega
      clear dec1 dec2 hta htb hsa hsb hQa hQb he1 he2 hp hpn
      go_upto_region 10 with (fail)
      go_cut [15] from 41 to 75 (fun v wc => ∃ (A2 : Option Addr) (c2 : Nat), v = .int .i64 0 ∧ Hid (LR w wc b7 Qa A2 n c2 ∧ (∀ g, A2.map (·.block) = some g → wr.heap.size ≤ g) ∧ But [b7] wr wc))
      case first =>
        obtain ⟨wx, h_wx⟩ : ∃ z, wr.drew = z := ⟨_, rfl⟩
        have HBX : Hid (Below wr.heap.size wr wx) := h_wx ▸ (Below.refl _ _).drew
        refine wp_region_held_drew (S := fun _ => True) (by kernel_rfl) trivial (fun hHeld => ?_)
        rw [h_wx]
        clear h_wx hHeld
        have hHeld : True := trivial
        refine wpAnyH_take (i := 1) (oi := ⟨some 48, _, _, _, _, _⟩) (v := ?_) rfl (by kernel_rfl) (by kernel_rfl) (by kernel_rfl) (fun _ _ _ h => h) (Or.inl ⟨by rfl, ?_⟩) (by assumption) ?_
        rotate_left
        · intro w hSw
          (try dsimp only at hSw)
          go_simp
          all_goals (with_reducible rfl)
        try simp only [Act.put, List.setIfInBounds_toArray, List.set_cons_zero, List.set_cons_succ]
        refine wpAnyH_take (i := 2) (oi := ⟨some 49, _, _, _, _, _⟩) (v := ?_) rfl (by kernel_rfl) (by kernel_rfl) (by kernel_rfl) (fun _ _ _ h => h) (Or.inl ⟨by rfl, ?_⟩) (by assumption) ?_
        rotate_left
        · intro w hSw
          (try dsimp only at hSw)
          go_simp
          all_goals (with_reducible rfl)
        try simp only [Act.put, List.setIfInBounds_toArray, List.set_cons_zero, List.set_cons_succ]
        refine wpAnyH_take (i := 3) (oi := ⟨some 50, _, _, _, _, _⟩) (v := ?_) rfl (by kernel_rfl) (by kernel_rfl) (by kernel_rfl) (fun _ _ _ h => h) (Or.inl ⟨by rfl, ?_⟩) (by assumption) ?_
        rotate_left
        · intro w hSw
          (try dsimp only at hSw)
          go_simp
          all_goals (with_reducible rfl)
        try simp only [Act.put, List.setIfInBounds_toArray, List.set_cons_zero, List.set_cons_succ]
        have HLX := Lib.hid (HLa.out.below HBX.out)
        have HCX := Lib.hid ((HBX.out.block _ (lt_of_block HC.out)).trans HC.out)
        skip
        obtain ⟨⟨a0, a1, a2, a3, a4⟩, abl⟩ := five26 HLX.out.row
        refine wpAnyH_ready (rs := [0, 4]) (by kernel_rfl) (by simp) (AllReadyH.cons (o := ⟨some 47, _, _, _, _, _⟩) rfl (fun K hK => ?_) (AllReadyH.cons (o := ⟨some 51, _, _, _, _, _⟩) rfl (fun K hK => ?_) AllReadyH.nil))
        · go_simp
          refine hK.out _ _ trivial (fun hHeld => ?_)
          clear hK K
          try simp only [Act.put, List.setIfInBounds_toArray, List.set_cons_zero, List.set_cons_succ]
          refine wpAnyH_ready (rs := [4]) (by kernel_rfl) (by simp) (AllReadyH.cons (o := ⟨some 51, _, _, _, _, _⟩) rfl (fun K hK => ?_) AllReadyH.nil)
          go_simp
          refine (said_is _ (l := l) (HFl.out.below (HLX.out.bel) (Nat.le_refl _)) (cell_of_row _ b5 0 _ 58 (0, 0) HCX.out) j (by have := HN.out; have := HJ.out; omega) HE1.out).mono ?_
          rintro e' w' ⟨rfl, rfl⟩
          refine hK.out _ _ trivial (fun hHeld => ?_)
          clear hK K
          try simp only [Act.put, List.setIfInBounds_toArray, List.set_cons_zero, List.set_cons_succ]
          refine wpAnyH_ready (rs := [5]) (by kernel_rfl) (by simp) (AllReadyH.cons (o := ⟨some 52, _, _, _, _, _⟩) rfl (fun K hK => ?_) AllReadyH.nil)
          go_simp
          refine (told_is _ ra.s ra.v ra.need ra.ph (j : Nat) 1 e1 HLX.out.rd HN.out.2 (P := (Qa, 0)) HQa.out).mono ?_
          rintro e' w4 ⟨A2, c2, he, hr9, hA9, hb9⟩
          subst he
          simp only [RVal, HQaL.out] at hr9 ⊢
          have hx4 := (hb9.block _ (lt_of_block HLX.out.row)).trans HLX.out.row
          obtain ⟨hlz, hbz⟩ := LR.set (c2 := c2) HLX.out hb9 hr9 (fun jj hj => by have h1 := hA9 jj hj; have h2 := lt_of_block HLX.out.row; omega) HQaR.out HQaL.out
          have HZ := Lib.hid (And.intro hlz (And.intro (fun g hg => Nat.le_trans HBX.out.size (hA9 g hg)) (((But.of_below (gs := [b7]) HBX.out).trans (But.of_below hb9)).trans hbz)))
          obtain ⟨⟨g0, g1, g2, g3, g4⟩, gbl⟩ := five26 hx4
          obtain ⟨y0, y1, y2, y3, y4⟩ := thaw5 hx4
          clear hr9 hA9 hb9 hx4 hlz hbz a0 a1 a2 a3 a4 abl
          refine hK.out _ _ trivial (fun hHeld => ?_)
          clear hK K
          try simp only [Act.put, List.setIfInBounds_toArray, List.set_cons_zero, List.set_cons_succ]
          refine wpAnyH_take (i := 6) (oi := ⟨some 46, _, _, _, _, _⟩) (v := ?_) rfl (by kernel_rfl) (by kernel_rfl) (by kernel_rfl) (fun _ _ _ h => h) (Or.inl ⟨by rfl, ?_⟩) (by assumption) ?_
          rotate_left
          · intro w hSw
            (try dsimp only at hSw)
            go_simp
            all_goals (with_reducible rfl)
          try simp only [Act.put, List.setIfInBounds_toArray, List.set_cons_zero, List.set_cons_succ]
          refine wpAnyH_take (i := 7) (oi := ⟨some 53, _, _, _, _, _⟩) (v := ?_) rfl (by kernel_rfl) (by kernel_rfl) (by kernel_rfl) (fun _ _ _ h => h) (Or.inl ⟨by rfl, ?_⟩) (by assumption) ?_
          rotate_left
          · intro w hSw
            (try dsimp only at hSw)
            go_simp
            all_goals (with_reducible rfl)
          try simp only [Act.put, List.setIfInBounds_toArray, List.set_cons_zero, List.set_cons_succ]
          refine wpAnyH_take (i := 8) (oi := ⟨some 54, _, _, _, _, _⟩) (v := ?_) rfl (by kernel_rfl) (by kernel_rfl) (by kernel_rfl) (fun _ _ _ h => h) (Or.inl ⟨by rfl, ?_⟩) (by assumption) ?_
          rotate_left
          · intro w hSw
            (try dsimp only at hSw)
            go_simp
            all_goals (with_reducible rfl)
          try simp only [Act.put, List.setIfInBounds_toArray, List.set_cons_zero, List.set_cons_succ]
          refine wpAnyH_ready (rs := [9]) (by kernel_rfl) (by simp) (AllReadyH.cons (o := ⟨none, _, _, _, _, _⟩) rfl (fun K hK => ?_) AllReadyH.nil)
          go_simp
          refine hK.out _ _ (trivial) (fun hHeld => ?_)
          clear hK K
          try simp only [Act.put, List.setIfInBounds_toArray, List.set_cons_zero, List.set_cons_succ]
          refine wpAnyH_take (i := 10) (oi := ⟨some 15, _, _, _, _, _⟩) (v := ?_) rfl (by kernel_rfl) (by kernel_rfl) (by kernel_rfl) (fun _ _ _ h => h) (Or.inl ⟨by rfl, ?_⟩) (by assumption) ?_
          rotate_left
          · intro w hSw
            (try dsimp only at hSw)
            go_simp
            all_goals (with_reducible rfl)
          try simp only [Act.put, List.setIfInBounds_toArray, List.set_cons_zero, List.set_cons_succ]
          refine wpAnyH_done (by kernel_rfl) ?_ _
          clear g0 g1 g2 g3 g4 gbl y0 y1 y2 y3 y4
          go_wp2
          go_meet
          case rel => exact ⟨A2, c2, rfl, HZ.out⟩
        · go_simp
          refine (said_is _ (l := l) (HFl.out.below (HLX.out.bel) (Nat.le_refl _)) (cell_of_row _ b5 0 _ 58 (0, 0) HCX.out) j (by have := HN.out; have := HJ.out; omega) HE1.out).mono ?_
          rintro e' w' ⟨rfl, rfl⟩
          refine hK.out _ _ trivial (fun hHeld => ?_)
          clear hK K
          try simp only [Act.put, List.setIfInBounds_toArray, List.set_cons_zero, List.set_cons_succ]
          refine wpAnyH_ready (rs := [0]) (by kernel_rfl) (by simp) (AllReadyH.cons (o := ⟨some 47, _, _, _, _, _⟩) rfl (fun K hK => ?_) AllReadyH.nil)
          go_simp
          refine hK.out _ _ trivial (fun hHeld => ?_)
          clear hK K
          try simp only [Act.put, List.setIfInBounds_toArray, List.set_cons_zero, List.set_cons_succ]
          refine wpAnyH_ready (rs := [5]) (by kernel_rfl) (by simp) (AllReadyH.cons (o := ⟨some 52, _, _, _, _, _⟩) rfl (fun K hK => ?_) AllReadyH.nil)
          go_simp
          refine (told_is _ ra.s ra.v ra.need ra.ph (j : Nat) 1 e1 HLX.out.rd HN.out.2 (P := (Qa, 0)) HQa.out).mono ?_
          rintro e' w4 ⟨A2, c2, he, hr9, hA9, hb9⟩
          subst he
          simp only [RVal, HQaL.out] at hr9 ⊢
          have hx4 := (hb9.block _ (lt_of_block HLX.out.row)).trans HLX.out.row
          obtain ⟨hlz, hbz⟩ := LR.set (c2 := c2) HLX.out hb9 hr9 (fun jj hj => by have h1 := hA9 jj hj; have h2 := lt_of_block HLX.out.row; omega) HQaR.out HQaL.out
          have HZ := Lib.hid (And.intro hlz (And.intro (fun g hg => Nat.le_trans HBX.out.size (hA9 g hg)) (((But.of_below (gs := [b7]) HBX.out).trans (But.of_below hb9)).trans hbz)))
          obtain ⟨⟨g0, g1, g2, g3, g4⟩, gbl⟩ := five26 hx4
          obtain ⟨y0, y1, y2, y3, y4⟩ := thaw5 hx4
          clear hr9 hA9 hb9 hx4 hlz hbz a0 a1 a2 a3 a4 abl
          refine hK.out _ _ trivial (fun hHeld => ?_)
          clear hK K
          try simp only [Act.put, List.setIfInBounds_toArray, List.set_cons_zero, List.set_cons_succ]
          refine wpAnyH_take (i := 6) (oi := ⟨some 46, _, _, _, _, _⟩) (v := ?_) rfl (by kernel_rfl) (by kernel_rfl) (by kernel_rfl) (fun _ _ _ h => h) (Or.inl ⟨by rfl, ?_⟩) (by assumption) ?_
          rotate_left
          · intro w hSw
            (try dsimp only at hSw)
            go_simp
            all_goals (with_reducible rfl)
          try simp only [Act.put, List.setIfInBounds_toArray, List.set_cons_zero, List.set_cons_succ]
          refine wpAnyH_take (i := 7) (oi := ⟨some 53, _, _, _, _, _⟩) (v := ?_) rfl (by kernel_rfl) (by kernel_rfl) (by kernel_rfl) (fun _ _ _ h => h) (Or.inl ⟨by rfl, ?_⟩) (by assumption) ?_
          rotate_left
          · intro w hSw
            (try dsimp only at hSw)
            go_simp
            all_goals (with_reducible rfl)
          try simp only [Act.put, List.setIfInBounds_toArray, List.set_cons_zero, List.set_cons_succ]
          refine wpAnyH_take (i := 8) (oi := ⟨some 54, _, _, _, _, _⟩) (v := ?_) rfl (by kernel_rfl) (by kernel_rfl) (by kernel_rfl) (fun _ _ _ h => h) (Or.inl ⟨by rfl, ?_⟩) (by assumption) ?_
          rotate_left
          · intro w hSw
            (try dsimp only at hSw)
            go_simp
            all_goals (with_reducible rfl)
          try simp only [Act.put, List.setIfInBounds_toArray, List.set_cons_zero, List.set_cons_succ]
          refine wpAnyH_ready (rs := [9]) (by kernel_rfl) (by simp) (AllReadyH.cons (o := ⟨none, _, _, _, _, _⟩) rfl (fun K hK => ?_) AllReadyH.nil)
          go_simp
          refine hK.out _ _ (trivial) (fun hHeld => ?_)
          clear hK K
          try simp only [Act.put, List.setIfInBounds_toArray, List.set_cons_zero, List.set_cons_succ]
          refine wpAnyH_take (i := 10) (oi := ⟨some 15, _, _, _, _, _⟩) (v := ?_) rfl (by kernel_rfl) (by kernel_rfl) (by kernel_rfl) (fun _ _ _ h => h) (Or.inl ⟨by rfl, ?_⟩) (by assumption) ?_
          rotate_left
          · intro w hSw
            (try dsimp only at hSw)
            go_simp
            all_goals (with_reducible rfl)
          try simp only [Act.put, List.setIfInBounds_toArray, List.set_cons_zero, List.set_cons_succ]
          refine wpAnyH_done (by kernel_rfl) ?_ _
          clear g0 g1 g2 g3 g4 gbl y0 y1 y2 y3 y4
          go_wp2
          go_meet
          case rel => exact ⟨A2, c2, rfl, HZ.out⟩
      case rest =>
        obtain ⟨A2, c2, rfl, HD⟩ := hcut
        have HLb2 := Lib.hid (HLb.out.butg HD.out.2.2 (by have := H710.out; omega) HMM.out.2 (by have := H57.out; have := HW5.out; omega))
        have HC2 := Lib.hid (HD.out.2.2.cells HC.out (by have := H57.out; simp; omega))
        have HLa2 := Lib.hid HD.out.1
        have HAfr : Hid (∀ g, A2.map (·.block) = some g → g ≠ b10) := fun g hg => by
          have h1 := HD.out.2.1 g hg
          have h2 := lt_of_block HLb.out.row
          omega
        have HBW : Hid (wr.heap.size ≤ wc.heap.size) := HD.out.2.2.size
        clear HLa HLb HC HMM HD
        go_upto_region 11 with (fail)
        go_cut [16] from 41 to 75 (fun v wd => ∃ (A2 : Option Addr) (c2 : Nat), v = .int .i64 0 ∧ Hid (LR w wd b10 Qb A2 n c2 ∧ (∀ g, A2.map (·.block) = some g → wc.heap.size ≤ g) ∧ But [b10] wc wd))
        case first =>
          obtain ⟨wx, h_wx⟩ : ∃ z, wc.drew = z := ⟨_, rfl⟩
          have HBX : Hid (Below wc.heap.size wc wx) := h_wx ▸ (Below.refl _ _).drew
          refine wp_region_held_drew (S := fun _ => True) (by kernel_rfl) trivial (fun hHeld => ?_)
          rw [h_wx]
          clear h_wx hHeld
          have hHeld : True := trivial
          refine wpAnyH_take (i := 1) (oi := ⟨some 57, _, _, _, _, _⟩) (v := ?_) rfl (by kernel_rfl) (by kernel_rfl) (by kernel_rfl) (fun _ _ _ h => h) (Or.inl ⟨by rfl, ?_⟩) (by assumption) ?_
          rotate_left
          · intro w hSw
            (try dsimp only at hSw)
            go_simp
            all_goals (with_reducible rfl)
          try simp only [Act.put, List.setIfInBounds_toArray, List.set_cons_zero, List.set_cons_succ]
          refine wpAnyH_take (i := 2) (oi := ⟨some 58, _, _, _, _, _⟩) (v := ?_) rfl (by kernel_rfl) (by kernel_rfl) (by kernel_rfl) (fun _ _ _ h => h) (Or.inl ⟨by rfl, ?_⟩) (by assumption) ?_
          rotate_left
          · intro w hSw
            (try dsimp only at hSw)
            go_simp
            all_goals (with_reducible rfl)
          try simp only [Act.put, List.setIfInBounds_toArray, List.set_cons_zero, List.set_cons_succ]
          refine wpAnyH_take (i := 3) (oi := ⟨some 59, _, _, _, _, _⟩) (v := ?_) rfl (by kernel_rfl) (by kernel_rfl) (by kernel_rfl) (fun _ _ _ h => h) (Or.inl ⟨by rfl, ?_⟩) (by assumption) ?_
          rotate_left
          · intro w hSw
            (try dsimp only at hSw)
            go_simp
            all_goals (with_reducible rfl)
          try simp only [Act.put, List.setIfInBounds_toArray, List.set_cons_zero, List.set_cons_succ]
          refine wpAnyH_take (i := 4) (oi := ⟨some 60, _, _, _, _, _⟩) (v := ?_) rfl (by kernel_rfl) (by kernel_rfl) (by kernel_rfl) (fun _ _ _ h => h) (Or.inl ⟨by rfl, ?_⟩) (by assumption) ?_
          rotate_left
          · intro w hSw
            (try dsimp only at hSw)
            go_simp
            all_goals (with_reducible rfl)
          try simp only [Act.put, List.setIfInBounds_toArray, List.set_cons_zero, List.set_cons_succ]
          refine wpAnyH_take (i := 5) (oi := ⟨some 61, _, _, _, _, _⟩) (v := ?_) rfl (by kernel_rfl) (by kernel_rfl) (by kernel_rfl) (fun _ _ _ h => h) (Or.inl ⟨by rfl, ?_⟩) (by assumption) ?_
          rotate_left
          · intro w hSw
            (try dsimp only at hSw)
            go_simp
            all_goals (with_reducible rfl)
          try simp only [Act.put, List.setIfInBounds_toArray, List.set_cons_zero, List.set_cons_succ]
          refine wpAnyH_take (i := 6) (oi := ⟨some 62, _, _, _, _, _⟩) (v := ?_) rfl (by kernel_rfl) (by kernel_rfl) (by kernel_rfl) (fun _ _ _ h => h) (Or.inl ⟨by rfl, ?_⟩) (by assumption) ?_
          rotate_left
          · intro w hSw
            (try dsimp only at hSw)
            go_simp
            all_goals (with_reducible rfl)
          try simp only [Act.put, List.setIfInBounds_toArray, List.set_cons_zero, List.set_cons_succ]
          refine wpAnyH_take (i := 7) (oi := ⟨some 63, _, _, _, _, _⟩) (v := ?_) rfl (by kernel_rfl) (by kernel_rfl) (by kernel_rfl) (fun _ _ _ h => h) (Or.inl ⟨by rfl, ?_⟩) (by assumption) ?_
          rotate_left
          · intro w hSw
            (try dsimp only at hSw)
            go_simp
            all_goals (with_reducible rfl)
          try simp only [Act.put, List.setIfInBounds_toArray, List.set_cons_zero, List.set_cons_succ]
          refine wpAnyH_take (i := 8) (oi := ⟨some 64, _, _, _, _, _⟩) (v := ?_) rfl (by kernel_rfl) (by kernel_rfl) (by kernel_rfl) (fun _ _ _ h => h) (Or.inl ⟨by rfl, ?_⟩) (by assumption) ?_
          rotate_left
          · intro w hSw
            (try dsimp only at hSw)
            go_simp
            all_goals (with_reducible rfl)
          try simp only [Act.put, List.setIfInBounds_toArray, List.set_cons_zero, List.set_cons_succ]
          refine wpAnyH_take (i := 9) (oi := ⟨some 65, _, _, _, _, _⟩) (v := ?_) rfl (by kernel_rfl) (by kernel_rfl) (by kernel_rfl) (fun _ _ _ h => h) (Or.inl ⟨by rfl, ?_⟩) (by assumption) ?_
          rotate_left
          · intro w hSw
            (try dsimp only at hSw)
            go_simp
            all_goals (with_reducible rfl)
          try simp only [Act.put, List.setIfInBounds_toArray, List.set_cons_zero, List.set_cons_succ]
          have HLX := Lib.hid (HLb2.out.below HBX.out)
          have HCX := Lib.hid ((HBX.out.block _ (lt_of_block HC2.out)).trans HC2.out)
          skip
          obtain ⟨⟨a0, a1, a2, a3, a4⟩, abl⟩ := five26 HLX.out.row
          refine wpAnyH_ready (rs := [0, 10]) (by kernel_rfl) (by simp) (AllReadyH.cons (o := ⟨some 56, _, _, _, _, _⟩) rfl (fun K hK => ?_) (AllReadyH.cons (o := ⟨some 66, _, _, _, _, _⟩) rfl (fun K hK => ?_) AllReadyH.nil))
          · go_simp
            refine hK.out _ _ trivial (fun hHeld => ?_)
            clear hK K
            try simp only [Act.put, List.setIfInBounds_toArray, List.set_cons_zero, List.set_cons_succ]
            refine wpAnyH_ready (rs := [10]) (by kernel_rfl) (by simp) (AllReadyH.cons (o := ⟨some 66, _, _, _, _, _⟩) rfl (fun K hK => ?_) AllReadyH.nil)
            go_simp
            refine (said_is _ (l := l) (HFl.out.below (HLX.out.bel) (Nat.le_refl _)) (cell_of_row _ b5 0 _ 58 (0, 0) HCX.out) p (by have := HN.out; have := HPP.out; omega) HE2.out).mono ?_
            rintro e' w' ⟨rfl, rfl⟩
            refine hK.out _ _ trivial (fun hHeld => ?_)
            clear hK K
            try simp only [Act.put, List.setIfInBounds_toArray, List.set_cons_zero, List.set_cons_succ]
            refine wpAnyH_ready (rs := [11]) (by kernel_rfl) (by simp) (AllReadyH.cons (o := ⟨some 67, _, _, _, _, _⟩) rfl (fun K hK => ?_) AllReadyH.nil)
            go_simp
            refine (told_is _ rb.s rb.v rb.need rb.ph (p : Nat) 1 e2 HLX.out.rd HN.out.2 (P := (Qb, 0)) HQb.out).mono ?_
            rintro e' w4 ⟨A2, c2, he, hr9, hA9, hb9⟩
            subst he
            simp only [RVal, HQbL.out] at hr9 ⊢
            have hx4 := (hb9.block _ (lt_of_block HLX.out.row)).trans HLX.out.row
            obtain ⟨hlz, hbz⟩ := LR.set (c2 := c2) HLX.out hb9 hr9 (fun jj hj => by have h1 := hA9 jj hj; have h2 := lt_of_block HLX.out.row; omega) HQbR.out HQbL.out
            have HZ := Lib.hid (And.intro hlz (And.intro (fun g hg => Nat.le_trans HBX.out.size (hA9 g hg)) (((But.of_below (gs := [b10]) HBX.out).trans (But.of_below hb9)).trans hbz)))
            obtain ⟨⟨g0, g1, g2, g3, g4⟩, gbl⟩ := five26 hx4
            obtain ⟨y0, y1, y2, y3, y4⟩ := thaw5 hx4
            clear hr9 hA9 hb9 hx4 hlz hbz a0 a1 a2 a3 a4 abl
            refine hK.out _ _ trivial (fun hHeld => ?_)
            clear hK K
            try simp only [Act.put, List.setIfInBounds_toArray, List.set_cons_zero, List.set_cons_succ]
            refine wpAnyH_take (i := 12) (oi := ⟨some 55, _, _, _, _, _⟩) (v := ?_) rfl (by kernel_rfl) (by kernel_rfl) (by kernel_rfl) (fun _ _ _ h => h) (Or.inl ⟨by rfl, ?_⟩) (by assumption) ?_
            rotate_left
            · intro w hSw
              (try dsimp only at hSw)
              go_simp
              all_goals (with_reducible rfl)
            try simp only [Act.put, List.setIfInBounds_toArray, List.set_cons_zero, List.set_cons_succ]
            refine wpAnyH_take (i := 13) (oi := ⟨some 68, _, _, _, _, _⟩) (v := ?_) rfl (by kernel_rfl) (by kernel_rfl) (by kernel_rfl) (fun _ _ _ h => h) (Or.inl ⟨by rfl, ?_⟩) (by assumption) ?_
            rotate_left
            · intro w hSw
              (try dsimp only at hSw)
              go_simp
              all_goals (with_reducible rfl)
            try simp only [Act.put, List.setIfInBounds_toArray, List.set_cons_zero, List.set_cons_succ]
            refine wpAnyH_take (i := 14) (oi := ⟨some 69, _, _, _, _, _⟩) (v := ?_) rfl (by kernel_rfl) (by kernel_rfl) (by kernel_rfl) (fun _ _ _ h => h) (Or.inl ⟨by rfl, ?_⟩) (by assumption) ?_
            rotate_left
            · intro w hSw
              (try dsimp only at hSw)
              go_simp
              all_goals (with_reducible rfl)
            try simp only [Act.put, List.setIfInBounds_toArray, List.set_cons_zero, List.set_cons_succ]
            refine wpAnyH_ready (rs := [15]) (by kernel_rfl) (by simp) (AllReadyH.cons (o := ⟨none, _, _, _, _, _⟩) rfl (fun K hK => ?_) AllReadyH.nil)
            go_simp
            refine hK.out _ _ (trivial) (fun hHeld => ?_)
            clear hK K
            try simp only [Act.put, List.setIfInBounds_toArray, List.set_cons_zero, List.set_cons_succ]
            refine wpAnyH_take (i := 16) (oi := ⟨some 16, _, _, _, _, _⟩) (v := ?_) rfl (by kernel_rfl) (by kernel_rfl) (by kernel_rfl) (fun _ _ _ h => h) (Or.inl ⟨by rfl, ?_⟩) (by assumption) ?_
            rotate_left
            · intro w hSw
              (try dsimp only at hSw)
              go_simp
              all_goals (with_reducible rfl)
            try simp only [Act.put, List.setIfInBounds_toArray, List.set_cons_zero, List.set_cons_succ]
            refine wpAnyH_done (by kernel_rfl) ?_ _
            clear g0 g1 g2 g3 g4 gbl y0 y1 y2 y3 y4
            go_wp2
            go_meet
            case rel => exact ⟨A2, c2, rfl, HZ.out⟩
          · go_simp
            refine (said_is _ (l := l) (HFl.out.below (HLX.out.bel) (Nat.le_refl _)) (cell_of_row _ b5 0 _ 58 (0, 0) HCX.out) p (by have := HN.out; have := HPP.out; omega) HE2.out).mono ?_
            rintro e' w' ⟨rfl, rfl⟩
            refine hK.out _ _ trivial (fun hHeld => ?_)
            clear hK K
            try simp only [Act.put, List.setIfInBounds_toArray, List.set_cons_zero, List.set_cons_succ]
            refine wpAnyH_ready (rs := [0]) (by kernel_rfl) (by simp) (AllReadyH.cons (o := ⟨some 56, _, _, _, _, _⟩) rfl (fun K hK => ?_) AllReadyH.nil)
            go_simp
            refine hK.out _ _ trivial (fun hHeld => ?_)
            clear hK K
            try simp only [Act.put, List.setIfInBounds_toArray, List.set_cons_zero, List.set_cons_succ]
            refine wpAnyH_ready (rs := [11]) (by kernel_rfl) (by simp) (AllReadyH.cons (o := ⟨some 67, _, _, _, _, _⟩) rfl (fun K hK => ?_) AllReadyH.nil)
            go_simp
            refine (told_is _ rb.s rb.v rb.need rb.ph (p : Nat) 1 e2 HLX.out.rd HN.out.2 (P := (Qb, 0)) HQb.out).mono ?_
            rintro e' w4 ⟨A2, c2, he, hr9, hA9, hb9⟩
            subst he
            simp only [RVal, HQbL.out] at hr9 ⊢
            have hx4 := (hb9.block _ (lt_of_block HLX.out.row)).trans HLX.out.row
            obtain ⟨hlz, hbz⟩ := LR.set (c2 := c2) HLX.out hb9 hr9 (fun jj hj => by have h1 := hA9 jj hj; have h2 := lt_of_block HLX.out.row; omega) HQbR.out HQbL.out
            have HZ := Lib.hid (And.intro hlz (And.intro (fun g hg => Nat.le_trans HBX.out.size (hA9 g hg)) (((But.of_below (gs := [b10]) HBX.out).trans (But.of_below hb9)).trans hbz)))
            obtain ⟨⟨g0, g1, g2, g3, g4⟩, gbl⟩ := five26 hx4
            obtain ⟨y0, y1, y2, y3, y4⟩ := thaw5 hx4
            clear hr9 hA9 hb9 hx4 hlz hbz a0 a1 a2 a3 a4 abl
            refine hK.out _ _ trivial (fun hHeld => ?_)
            clear hK K
            try simp only [Act.put, List.setIfInBounds_toArray, List.set_cons_zero, List.set_cons_succ]
            refine wpAnyH_take (i := 12) (oi := ⟨some 55, _, _, _, _, _⟩) (v := ?_) rfl (by kernel_rfl) (by kernel_rfl) (by kernel_rfl) (fun _ _ _ h => h) (Or.inl ⟨by rfl, ?_⟩) (by assumption) ?_
            rotate_left
            · intro w hSw
              (try dsimp only at hSw)
              go_simp
              all_goals (with_reducible rfl)
            try simp only [Act.put, List.setIfInBounds_toArray, List.set_cons_zero, List.set_cons_succ]
            refine wpAnyH_take (i := 13) (oi := ⟨some 68, _, _, _, _, _⟩) (v := ?_) rfl (by kernel_rfl) (by kernel_rfl) (by kernel_rfl) (fun _ _ _ h => h) (Or.inl ⟨by rfl, ?_⟩) (by assumption) ?_
            rotate_left
            · intro w hSw
              (try dsimp only at hSw)
              go_simp
              all_goals (with_reducible rfl)
            try simp only [Act.put, List.setIfInBounds_toArray, List.set_cons_zero, List.set_cons_succ]
            refine wpAnyH_take (i := 14) (oi := ⟨some 69, _, _, _, _, _⟩) (v := ?_) rfl (by kernel_rfl) (by kernel_rfl) (by kernel_rfl) (fun _ _ _ h => h) (Or.inl ⟨by rfl, ?_⟩) (by assumption) ?_
            rotate_left
            · intro w hSw
              (try dsimp only at hSw)
              go_simp
              all_goals (with_reducible rfl)
            try simp only [Act.put, List.setIfInBounds_toArray, List.set_cons_zero, List.set_cons_succ]
            refine wpAnyH_ready (rs := [15]) (by kernel_rfl) (by simp) (AllReadyH.cons (o := ⟨none, _, _, _, _, _⟩) rfl (fun K hK => ?_) AllReadyH.nil)
            go_simp
            refine hK.out _ _ (trivial) (fun hHeld => ?_)
            clear hK K
            try simp only [Act.put, List.setIfInBounds_toArray, List.set_cons_zero, List.set_cons_succ]
            refine wpAnyH_take (i := 16) (oi := ⟨some 16, _, _, _, _, _⟩) (v := ?_) rfl (by kernel_rfl) (by kernel_rfl) (by kernel_rfl) (fun _ _ _ h => h) (Or.inl ⟨by rfl, ?_⟩) (by assumption) ?_
            rotate_left
            · intro w hSw
              (try dsimp only at hSw)
              go_simp
              all_goals (with_reducible rfl)
            try simp only [Act.put, List.setIfInBounds_toArray, List.set_cons_zero, List.set_cons_succ]
            refine wpAnyH_done (by kernel_rfl) ?_ _
            clear g0 g1 g2 g3 g4 gbl y0 y1 y2 y3 y4
            go_wp2
            go_meet
            case rel => exact ⟨A2, c2, rfl, HZ.out⟩
        case rest =>
          obtain ⟨A4, c4, rfl, HD⟩ := hcut
          have HLa3 := Lib.hid (HLa2.out.butg HD.out.2.2 (by have := H710.out; omega) HAfr.out (by have := H57.out; have := HW5.out; have := H710.out; omega))
          have HC3 := Lib.hid (HD.out.2.2.cells HC2.out (by have := H57.out; have := H710.out; simp; omega))
          have HLb3 := Lib.hid HD.out.1
          have HM3 : Hid ((∀ g, A2.map (·.block) = some g → g ≠ b10) ∧ (∀ g, A4.map (·.block) = some g → g ≠ b7)) := ⟨HAfr.out, fun g hg => by
            have h1 := HD.out.2.1 g hg
            have h2 := lt_of_block HLa2.out.row
            omega⟩
          clear HD
          go_wp2
          go_roundg (n - (j + 1))
          case measure => omega
          case rel => exact ⟨j + 1, Qa, Qb, A2, A4, c2, c4, by have := HJ.out; omega, by omega, by go_num, HLa3, HLb3, HC3, HM3, Lib.hid (And.intro HOa2.out HOb2.out)⟩
    · have hjn : j = n := by omega
      skip
      have hfa := HO.out.1.fin (fun k hk => by omega)
      have hfb := HO.out.2.fin (fun k hk => by omega)
      have HFA := Lib.hid hfa
      have HFB := Lib.hid hfb
      have HOA := Lib.hid (HO.out.1.congr (D' := fun _ => True) (fun k hk => by show k < j ↔ True; simp; omega))
      have HOB := Lib.hid (HO.out.2.congr (D' := fun _ => True) (fun k hk => by show n ≤ k + j ↔ True; simp; omega))
      have HND := Lib.hid HOA.out.need
      have HNB := Lib.hid HOB.out.need
      have hj2 : ¬ (j : Int) < (n : Int) := by omega
      clear hfa hfb HO hlt
      go_wp2_with fail
      go_loopg [17, 18] n (fun kx s17 s18 wi => ∃ (i : Nat) (k2 : Int), i ≤ n ∧ n - i ≤ kx ∧ s18 = .int .i64 i ∧ s17 = .int .i64 k2 ∧ wi = wr ∧ Hid (fineF (saidE l) i = k2))
      case atStart => exact ⟨0, 0, Nat.zero_le _, by omega, rfl, rfl, by first | trivial | rfl, rfl⟩
      case round =>
        obtain ⟨i, k2, hi, hk2, rfl, rfl, rfl, HK⟩ := hrel
        by_cases hlt2 : i < n
        · obtain ⟨e3, he3⟩ : ∃ e, saidE l i = e := ⟨_, rfl⟩
          have HE3 := Lib.hid he3
          have h62 := saidE_two l i
          rw [he3] at h62
          have hkb := fineF_b (saidE l) i
          rw [HK.out] at hkb
          have hi3 : (0 : Int) ≤ (i : Int) := by omega
          have hi4 : (i : Int) < (n : Int) := by omega
          have hw2 : IntKind.i64.wrap ((i : Int) + 1) = (i : Int) + 1 := IntWalk.i64_in _ (by have := HN.out; omega)
          have hw3 : IntKind.i64.wrap (k2 + 1) = k2 + 1 := IntWalk.i64_in _ (by have := HN.out; omega)
          have HI : Hid (i ≤ 1000000) := by show _ ≤ _; have := HN.out; omega
          clear he3 hkb
          go_wp2_with fail
          refine (said_is _ (l := l) (HFl.out.below HLa.out.bel (Nat.le_refl _)) (cell_of_row _ b5 0 _ 58 (0, 0) HC.out) i HI.out HE3.out).mono ?_
          rintro e' w' ⟨rfl, rfl⟩
          rcases h62 with h62 | h62
          · subst h62
            have HK2 : Hid (fineF (saidE l) (i + 1) = k2 + 1) := by show _ = _; unfold fineF; rw [HK.out, if_pos HE3.out]
            go_wp2
            go_roundg (n - (i + 1))
            case measure => omega
            case rel => exact ⟨i + 1, k2 + 1, by omega, by omega, by go_num, rfl, by first | trivial | rfl, HK2⟩
          · subst h62
            have HK2 : Hid (fineF (saidE l) (i + 1) = k2) := by show _ = _; unfold fineF; rw [HK.out, HE3.out]; simp
            go_wp2
            go_roundg (n - (i + 1))
            case measure => omega
            case rel => exact ⟨i + 1, k2, by omega, by omega, by go_num, rfl, by first | trivial | rfl, HK2⟩
        · have hin : i = n := by omega
          have hk2f : fineF (saidE l) n = k2 := by rw [← hin]; exact HK.out
          have hfa := HFA.out
          have hfb := HFB.out
          rw [hk2f] at hfa hfb
          clear hk2f hlt2
          obtain ⟨⟨a0, a1, a2, a3, a4⟩, abl⟩ := five26 HLa.out.row
          obtain ⟨⟨d0', d1', d2', d3', d4'⟩, dbl⟩ := five26 HLb.out.row
          rw [HND.out] at a2
          rw [HNB.out] at d2'
          rcases hfa with hfa | hfa
          · have hpb : rb.ph = 2 := by omega
            rw [hfa.1] at a3
            rw [hpb] at d3'
            have HPA := Lib.hid hfa.1
            have HPB := Lib.hid hpb
            have t1 : decide (r0.need ≤ k2) = true := decide_eq_true hfa.2
            clear hfa hfb hpb
            have hi5 : ¬ (i : Int) < (n : Int) := by omega
            go_wp2_with fail
            go_loopg [19] n (fun kx s19 wj => ∃ i3 : Nat, i3 ≤ n ∧ n - i3 ≤ kx ∧ s19 = .int .i64 i3 ∧ wj = wr)
            case atStart => exact ⟨0, Nat.zero_le _, by omega, rfl, by first | trivial | rfl⟩
            case round =>
              obtain ⟨i3, hi3, hk3, rfl, rfl⟩ := hrel
              by_cases hlt3 : i3 < n
              · have hi6 : (0 : Int) ≤ (i3 : Int) := by omega
                have hi7 : (i3 : Int) < (n : Int) := by omega
                have hw4 : IntKind.i64.wrap ((i3 : Int) + 1) = (i3 : Int) + 1 := IntWalk.i64_in _ (by have := HN.out; omega)
                obtain ⟨e3, he3⟩ : ∃ e, saidE l i3 = e := ⟨_, rfl⟩
                have HE3 := Lib.hid he3
                have h62 := saidE_two l i3
                rw [he3] at h62
                have HI : Hid (i3 ≤ 1000000) := by show _ ≤ _; have := HN.out; omega
                have HI3 : Hid (i3 < n) := hlt3
                obtain ⟨⟨a0, a1, a2, a3, a4⟩, abl⟩ := five26 HLa.out.row
                obtain ⟨⟨d0', d1', d2', d3', d4'⟩, dbl⟩ := five26 HLb.out.row
                rw [HPA.out] at a3
                rw [HPB.out] at d3'
                obtain ⟨ada, hAa, _, hca⟩ := HLa.out.rd.cells HN.out.1
                obtain ⟨adb, hAb, _, hcb⟩ := HLb.out.rd.cells HN.out.1
                clear he3
                rcases h62 with h62 | h62
                · subst h62
                  have HMA : Hid (ra.ms[i3]? = some 1) := HOA.out.ok i3 HI3.out trivial HE3.out
                  have HMB : Hid (rb.ms[i3]? = some 1) := HOB.out.ok i3 HI3.out trivial HE3.out
                  have ma := hca i3 (IV 1) (by rw [List.getElem?_map, HMA.out]; rfl)
                  have mb := hcb i3 (IV 1) (by rw [List.getElem?_map, HMB.out]; rfl)
                  subst hAa
                  subst hAb
                  clear hca hcb
                  go_wp2_with fail
                  refine (said_is _ (l := l) (HFl.out.below HLa.out.bel (Nat.le_refl _)) (cell_of_row _ b5 0 _ 58 (0, 0) HC.out) i3 HI.out HE3.out).mono ?_
                  rintro e' w' ⟨rfl, rfl⟩
                  go_wp2_with fail
                  refine (said_is _ (l := l) (HFl.out.below HLa.out.bel (Nat.le_refl _)) (cell_of_row _ b5 0 _ 58 (0, 0) HC.out) i3 HI.out HE3.out).mono ?_
                  rintro e' w' ⟨rfl, rfl⟩
                  go_wp2
                  go_roundg (n - (i3 + 1))
                  case measure => omega
                  case rel => exact ⟨i3 + 1, by omega, by omega, by go_num, by first | trivial | rfl⟩
                · subst h62
                  have HMA : Hid (ra.ms[i3]? = some 3) := (HOA.out.err i3 HI3.out trivial (by rw [HE3.out]; decide)).resolve_right (fun h => by have := h.1; have := HPA.out; omega)
                  have HMB : Hid (rb.ms[i3]? = some 3) := (HOB.out.err i3 HI3.out trivial (by rw [HE3.out]; decide)).resolve_right (fun h => by have := h.1; have := HPB.out; omega)
                  have ma := hca i3 (IV 3) (by rw [List.getElem?_map, HMA.out]; rfl)
                  have mb := hcb i3 (IV 3) (by rw [List.getElem?_map, HMB.out]; rfl)
                  subst hAa
                  subst hAb
                  clear hca hcb
                  go_wp2_with fail
                  refine (said_is _ (l := l) (HFl.out.below HLa.out.bel (Nat.le_refl _)) (cell_of_row _ b5 0 _ 58 (0, 0) HC.out) i3 HI.out HE3.out).mono ?_
                  rintro e' w' ⟨rfl, rfl⟩
                  go_wp2_with fail
                  refine (said_is _ (l := l) (HFl.out.below HLa.out.bel (Nat.le_refl _)) (cell_of_row _ b5 0 _ 58 (0, 0) HC.out) i3 HI.out HE3.out).mono ?_
                  rintro e' w' ⟨rfl, rfl⟩
                  go_wp2
                  go_roundg (n - (i3 + 1))
                  case measure => omega
                  case rel => exact ⟨i3 + 1, by omega, by omega, by go_num, by first | trivial | rfl⟩
              · have hi7 : ¬ (i3 : Int) < (n : Int) := by omega
                go_wp2_with fail
                refine (awake_is _).mono ?_
                rintro e w9 ⟨rfl, hb9⟩
                have HB9 : Hid (Below w.heap.size w w9) := HLa.out.bel.trans (hb9.mono HLa.out.bel.size)
                clear hb9
                go_wp2
                go_ret
                exact told_mk rfl HB9.out
          · have hpb : rb.ph = 5 := by omega
            rw [hfa.1] at a3
            rw [hpb] at d3'
            have HPA := Lib.hid hfa.1
            have HPB := Lib.hid hpb
            have t1 : decide (r0.need ≤ k2) = false := decide_eq_false (by omega)
            clear hfa hfb hpb
            have hi5 : ¬ (i : Int) < (n : Int) := by omega
            go_wp2_with fail
            go_loopg [19] n (fun kx s19 wj => ∃ i3 : Nat, i3 ≤ n ∧ n - i3 ≤ kx ∧ s19 = .int .i64 i3 ∧ wj = wr)
            case atStart => exact ⟨0, Nat.zero_le _, by omega, rfl, by first | trivial | rfl⟩
            case round =>
              obtain ⟨i3, hi3, hk3, rfl, rfl⟩ := hrel
              by_cases hlt3 : i3 < n
              · have hi6 : (0 : Int) ≤ (i3 : Int) := by omega
                have hi7 : (i3 : Int) < (n : Int) := by omega
                have hw4 : IntKind.i64.wrap ((i3 : Int) + 1) = (i3 : Int) + 1 := IntWalk.i64_in _ (by have := HN.out; omega)
                obtain ⟨e3, he3⟩ : ∃ e, saidE l i3 = e := ⟨_, rfl⟩
                have HE3 := Lib.hid he3
                have h62 := saidE_two l i3
                rw [he3] at h62
                have HI : Hid (i3 ≤ 1000000) := by show _ ≤ _; have := HN.out; omega
                have HI3 : Hid (i3 < n) := hlt3
                obtain ⟨⟨a0, a1, a2, a3, a4⟩, abl⟩ := five26 HLa.out.row
                obtain ⟨⟨d0', d1', d2', d3', d4'⟩, dbl⟩ := five26 HLb.out.row
                rw [HPA.out] at a3
                rw [HPB.out] at d3'
                obtain ⟨ada, hAa, _, hca⟩ := HLa.out.rd.cells HN.out.1
                obtain ⟨adb, hAb, _, hcb⟩ := HLb.out.rd.cells HN.out.1
                clear he3
                rcases h62 with h62 | h62
                · subst h62
                  have HMA : Hid (ra.ms[i3]? = some 1) := HOA.out.ok i3 HI3.out trivial HE3.out
                  have HMB : Hid (rb.ms[i3]? = some 1) := HOB.out.ok i3 HI3.out trivial HE3.out
                  have ma := hca i3 (IV 1) (by rw [List.getElem?_map, HMA.out]; rfl)
                  have mb := hcb i3 (IV 1) (by rw [List.getElem?_map, HMB.out]; rfl)
                  subst hAa
                  subst hAb
                  clear hca hcb
                  go_wp2_with fail
                  refine (said_is _ (l := l) (HFl.out.below HLa.out.bel (Nat.le_refl _)) (cell_of_row _ b5 0 _ 58 (0, 0) HC.out) i3 HI.out HE3.out).mono ?_
                  rintro e' w' ⟨rfl, rfl⟩
                  go_wp2_with fail
                  refine (said_is _ (l := l) (HFl.out.below HLa.out.bel (Nat.le_refl _)) (cell_of_row _ b5 0 _ 58 (0, 0) HC.out) i3 HI.out HE3.out).mono ?_
                  rintro e' w' ⟨rfl, rfl⟩
                  go_wp2
                  go_roundg (n - (i3 + 1))
                  case measure => omega
                  case rel => exact ⟨i3 + 1, by omega, by omega, by go_num, by first | trivial | rfl⟩
                · subst h62
                  subst hAa
                  subst hAb
                  clear hca hcb
                  go_wp2_with fail
                  refine (said_is _ (l := l) (HFl.out.below HLa.out.bel (Nat.le_refl _)) (cell_of_row _ b5 0 _ 58 (0, 0) HC.out) i3 HI.out HE3.out).mono ?_
                  rintro e' w' ⟨rfl, rfl⟩
                  go_wp2_with fail
                  refine (said_is _ (l := l) (HFl.out.below HLa.out.bel (Nat.le_refl _)) (cell_of_row _ b5 0 _ 58 (0, 0) HC.out) i3 HI.out HE3.out).mono ?_
                  rintro e' w' ⟨rfl, rfl⟩
                  go_wp2
                  go_roundg (n - (i3 + 1))
                  case measure => omega
                  case rel => exact ⟨i3 + 1, by omega, by omega, by go_num, by first | trivial | rfl⟩
              · have hi7 : ¬ (i3 : Int) < (n : Int) := by omega
                go_wp2_with fail
                refine (awake_is _).mono ?_
                rintro e w9 ⟨rfl, hb9⟩
                have HB9 : Hid (Below w.heap.size w w9) := HLa.out.bel.trans (hb9.mono HLa.out.bel.size)
                clear hb9
                go_wp2
                go_ret
                exact told_mk rfl HB9.out
end
end Go.Proofs.Ytciihebaameccaa
