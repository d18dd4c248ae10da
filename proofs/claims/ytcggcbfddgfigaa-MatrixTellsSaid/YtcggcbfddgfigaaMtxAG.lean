/- MatrixTells. -/
import Derived.Test.YtcggcbfddgfigaaMtxAF
namespace Go.Proofs.Ytcggcbfddgfigaa
open Go.RowKit Go.Coop

theorem small_le {M : List (List UInt8)} {n : Nat} (h : smallB M = true) (hn : M.length = n) : n ≤ 12 ∧ ∀ r ∈ M, r.length ≤ 140737488355328 := by
  unfold smallB at h
  simp only [Bool.and_eq_true, decide_eq_true_eq, List.all_eq_true] at h
  exact ⟨by omega, fun r hr => by have := h.2 r hr; omega⟩

set_option maxRecDepth 100000 in
theorem tells_out (A0 : Option Addr) (n0 c0 : Nat) (Ma : List (List UInt8)) (B0 : Option Addr) (n1 c1 : Nat) (Mb : List (List UInt8)) (R : Option Addr) (m d : Nat) (x y : Int) (w : World) (ha : MR w A0 n0 Ma) (hb : MR w B0 n1 Mb)
    (hLa : ∀ r ∈ Ma, r.length ≤ 9223372036854775807) (hLb : ∀ r ∈ Mb, r.length ≤ 9223372036854775807) (hn0 : n0 ≤ 9223372036854775807) (hn1 : n1 ≤ 9223372036854775807) (h : smallB Ma = false ∨ smallB Mb = false ∨ 20 < m) :
    Calls Try.prog 4 #[.slice A0 n0 c0, .slice B0 n1 c1, .slice R m d, .int .i64 x, .int .i64 y] w fun e w' => e = .returned (.bool true) ∧ Below w.heap.size w w' := by
  have K1 := small_any A0 n0 c0 Ma w ha hLa hn0
  have K2 := small_any B0 n1 c1 Mb w hb hLb hn1
  clear ha hb hLa hLb
  by_cases h1 : smallB Ma = false
  · rw [h1] at K1
    go_enter Try.func4, Try.ntmps4
    go_wp2_with fail
    refine K1.mono ?_
    rintro e w' ⟨rfl, rfl⟩
    clear K1 K2
    go_wp2_with fail
    refine (awake_any w).mono ?_
    rintro e w' ⟨rfl, hB⟩
    have HB := Lib.hid hB
    clear hB
    go_wp2
    go_ret
    exact ⟨rfl, HB.out⟩
  · rw [show smallB Ma = true by simpa using h1] at K1
    by_cases h2 : smallB Mb = false
    · rw [h2] at K2
      go_enter Try.func4, Try.ntmps4
      go_wp2_with fail
      refine K1.mono ?_
      rintro e w' ⟨rfl, rfl⟩
      clear K1
      go_wp2_with fail
      refine K2.mono ?_
      rintro e w' ⟨rfl, rfl⟩
      clear K2
      go_wp2_with fail
      refine (awake_any w).mono ?_
      rintro e w' ⟨rfl, hB⟩
      have HB := Lib.hid hB
      clear hB
      go_wp2
      go_ret
      exact ⟨rfl, HB.out⟩
    · rw [show smallB Mb = true by simpa using h2] at K2
      have hm : 20 < m := by rcases h with e | e | e; exact absurd e h1; exact absurd e h2; exact e
      have hd : decide (20 < (m : Int)) = true := by simp; omega
      go_enter Try.func4, Try.ntmps4
      go_wp2_with fail
      refine K1.mono ?_
      rintro e w' ⟨rfl, rfl⟩
      clear K1
      go_wp2_with fail
      refine K2.mono ?_
      rintro e w' ⟨rfl, rfl⟩
      clear K2
      go_wp2_with fail
      refine (awake_any w).mono ?_
      rintro e w' ⟨rfl, hB⟩
      have HB := Lib.hid hB
      clear hB
      go_wp2
      go_ret
      exact ⟨rfl, HB.out⟩

set_option maxHeartbeats 4000000 in
set_option maxRecDepth 100000 in
theorem tells_in (A0 : Option Addr) (n0 c0 : Nat) (Ma : List (List UInt8)) (B0 : Option Addr) (n1 c1 : Nat) (Mb : List (List UInt8)) (R : Option Addr) (m d : Nat) (ls : List Int) (x y : Int) (w : World) (ha : MR w A0 n0 Ma) (hb : MR w B0 n1 Mb) (hr : RdV w R m (ivs ls)) (hls : ∀ x ∈ ls, -9223372036854775808 ≤ x ∧ x ≤ 9223372036854775807)
    (hLa : ∀ r ∈ Ma, r.length ≤ 9223372036854775807) (hLb : ∀ r ∈ Mb, r.length ≤ 9223372036854775807) (hn0 : n0 ≤ 9223372036854775807) (hn1 : n1 ≤ 9223372036854775807) (hx : -9223372036854775808 ≤ x) (hy : -9223372036854775808 ≤ y) (h1 : smallB Ma = true) (h2 : smallB Mb = true) (hm : m ≤ 20) :
    Calls Try.prog 4 #[.slice A0 n0 c0, .slice B0 n1 c1, .slice R m d, .int .i64 x, .int .i64 y] w fun e w' => e = .returned (.bool true) ∧ Below w.heap.size w w' := by
  have K1 := small_any A0 n0 c0 Ma w ha hLa hn0
  have K2 := small_any B0 n1 c1 Mb w hb hLb hn1
  rw [h1] at K1
  rw [h2] at K2
  obtain ⟨s0, t0⟩ := small_le h1 ha.len
  obtain ⟨s1, t1⟩ := small_le h2 hb.len
  obtain ⟨Nm, Mm, vm, bm, KMp, KMr⟩ := mul_both Ma Mb n0 n1 (by omega) (by omega)
  obtain ⟨Ni, Mi, vi, bi, KIp, KIr⟩ := invert_both Ma n0 (by omega)
  obtain ⟨Np, Mp, vp, bp, KPp, KPr⟩ := pick_both Ma n0 ls m (by omega) hm hls
  obtain ⟨rk, KRp, KRr⟩ := rank_both Ma n0 (by omega)
  obtain ⟨x', hx'⟩ : ∃ x', min x 30 = x' := ⟨_, rfl⟩
  obtain ⟨y', hy'⟩ : ∃ y', min y 30 = y' := ⟨_, rfl⟩
  obtain ⟨Nu, Mu, vu, bu, KUp, KUr⟩ := unit_both x' (by omega)
  obtain ⟨Nc, Mc, vc, bc, KCp, KCr⟩ := cauchy_both x' y' (by omega) (by omega) (by omega) (by omega)
  have HT := Lib.hid (And.intro t0 t1)
  have HK1 := Lib.hid (And.intro KMp (And.intro KMr (And.intro KIp (And.intro KIr (And.intro KPp KPr)))))
  have HK2 := Lib.hid (And.intro KRp (And.intro KRr (And.intro KUp (And.intro KUr (And.intro KCp KCr)))))
  have Ha0 := Lib.hid ha
  have Hb0 := Lib.hid hb
  have Hr0 := Lib.hid hr
  have hd : decide (20 < (m : Int)) = false := by simp; omega
  obtain ⟨rb, hrb⟩ : ∃ rb, rightB Ma = rb := ⟨_, rfl⟩
  have HRB := Lib.hid hrb
  clear ha hb hr hls hLa hLb h1 h2 t0 t1 KMp KMr KIp KIr KPp KPr KRp KRr KUp KUr KCp KCr hrb
  go_enter Try.func4, Try.ntmps4
  go_wp2_with fail
  refine K1.mono ?_
  rintro e w' ⟨rfl, rfl⟩
  clear K1
  go_wp2_with fail
  refine K2.mono ?_
  rintro e w' ⟨rfl, rfl⟩
  clear K2
  go_wp2_with fail
  refine (new_any _).mono ?_
  rintro e w1 ⟨g, rfl, hF, hg, hB⟩
  have hW : Below w.heap.size w w1 := hB
  have Ha1 := Lib.hid (Ha0.out.below hW (Nat.le_refl _))
  have Hb1 := Lib.hid (Hb0.out.below hW (Nat.le_refl _))
  have Hr1 := Lib.hid (Hr0.out.below hW (Nat.le_refl _))
  have HB1 : Hid (Below w.heap.size w w1) := hW
  have HF1 := Lib.hid (hF)
  clear hW Ha0 Hb0 Hr0
  clear hF hg hB
  go_wp2_with fail
  refine (copym_any A0 n0 c0 Ma w1 Ha1.out (by omega) HT.out.1).mono ?_
  rintro e w2 ⟨Ax, cx, rfl, hM, hB⟩
  have hW : Below w1.heap.size w1 w2 := hB
  have Ha2 := Lib.hid (Ha1.out.below hW (Nat.le_refl _))
  have Hb2 := Lib.hid (Hb1.out.below hW (Nat.le_refl _))
  have Hr2 := Lib.hid (Hr1.out.below hW (Nat.le_refl _))
  have HF2 := Lib.hid (HF1.out.below hW HF1.out.lt)
  have HB2 : Hid (Below w.heap.size w w2) := HB1.out.trans (hW.mono HB1.out.size)
  have Hx2 := Lib.hid (hM)
  clear hW Ha1 Hb1 Hr1 HF1 HB1
  clear hM hB
  go_wp2_with fail
  refine (copym_any B0 n1 c1 Mb w2 Hb2.out (by omega) HT.out.2).mono ?_
  rintro e w3 ⟨Ay, cy, rfl, hM, hB⟩
  have hW : Below w2.heap.size w2 w3 := hB
  have Ha3 := Lib.hid (Ha2.out.below hW (Nat.le_refl _))
  have Hb3 := Lib.hid (Hb2.out.below hW (Nat.le_refl _))
  have Hr3 := Lib.hid (Hr2.out.below hW (Nat.le_refl _))
  have HF3 := Lib.hid (HF2.out.below hW HF2.out.lt)
  have Hx3 := Lib.hid (Hx2.out.below hW (Nat.le_refl _))
  have HB3 : Hid (Below w.heap.size w w3) := HB2.out.trans (hW.mono HB2.out.size)
  have Hy3 := Lib.hid (hM)
  clear hW Ha2 Hb2 Hr2 HF2 Hx2 HB2
  clear hM hB
  go_wp2_with fail
  refine (HK1.out.1 g Ax Ay cx cy _ _ _ _ w3 HF3.out Hx3.out Hy3.out).mono ?_
  rintro e w4 ⟨Am1, cm1, rfl, hM, hB⟩
  have hW : Below w3.heap.size w3 w4 := hB
  have Ha4 := Lib.hid (Ha3.out.below hW (Nat.le_refl _))
  have Hb4 := Lib.hid (Hb3.out.below hW (Nat.le_refl _))
  have Hr4 := Lib.hid (Hr3.out.below hW (Nat.le_refl _))
  have HF4 := Lib.hid (HF3.out.below hW HF3.out.lt)
  have Hx4 := Lib.hid (Hx3.out.below hW (Nat.le_refl _))
  have Hy4 := Lib.hid (Hy3.out.below hW (Nat.le_refl _))
  have HB4 : Hid (Below w.heap.size w w4) := HB3.out.trans (hW.mono HB3.out.size)
  have Hm14 := Lib.hid (hM)
  clear hW Ha3 Hb3 Hr3 HF3 Hx3 Hy3 HB3
  clear hM hB
  go_wp2_with fail
  refine (HK1.out.2.1 A0 B0 c0 c1 w4 Ha4.out Hb4.out).mono ?_
  rintro e w5 ⟨Am2, cm2, rfl, hM, hB⟩
  have hW : Below w4.heap.size w4 w5 := hB
  have Ha5 := Lib.hid (Ha4.out.below hW (Nat.le_refl _))
  have Hb5 := Lib.hid (Hb4.out.below hW (Nat.le_refl _))
  have Hr5 := Lib.hid (Hr4.out.below hW (Nat.le_refl _))
  have HF5 := Lib.hid (HF4.out.below hW HF4.out.lt)
  have Hx5 := Lib.hid (Hx4.out.below hW (Nat.le_refl _))
  have Hy5 := Lib.hid (Hy4.out.below hW (Nat.le_refl _))
  have Hm15 := Lib.hid (Hm14.out.below hW (Nat.le_refl _))
  have HB5 : Hid (Below w.heap.size w w5) := HB4.out.trans (hW.mono HB4.out.size)
  have Hm25 := Lib.hid (hM)
  clear hW Ha4 Hb4 Hr4 HF4 Hx4 Hy4 Hm14 HB4
  clear hM hB
  go_wp2_with fail
  refine (HK1.out.2.2.1 g Ax cx _ _ w5 HF5.out Hx5.out).mono ?_
  rintro e w6 ⟨Ai1, ci1, rfl, hM, hB⟩
  have hW : Below w5.heap.size w5 w6 := hB
  have Ha6 := Lib.hid (Ha5.out.below hW (Nat.le_refl _))
  have Hb6 := Lib.hid (Hb5.out.below hW (Nat.le_refl _))
  have Hr6 := Lib.hid (Hr5.out.below hW (Nat.le_refl _))
  have HF6 := Lib.hid (HF5.out.below hW HF5.out.lt)
  have Hx6 := Lib.hid (Hx5.out.below hW (Nat.le_refl _))
  have Hy6 := Lib.hid (Hy5.out.below hW (Nat.le_refl _))
  have Hm16 := Lib.hid (Hm15.out.below hW (Nat.le_refl _))
  have Hm26 := Lib.hid (Hm25.out.below hW (Nat.le_refl _))
  have HB6 : Hid (Below w.heap.size w w6) := HB5.out.trans (hW.mono HB5.out.size)
  have Hi16 := Lib.hid (hM)
  clear hW Ha5 Hb5 Hr5 HF5 Hx5 Hy5 Hm15 Hm25 HB5
  clear hM hB
  go_wp2_with fail
  refine (HK1.out.2.2.2.1 A0 c0 w6 Ha6.out).mono ?_
  rintro e w7 ⟨Ai2, ci2, rfl, hM, hB⟩
  have hW : Below w6.heap.size w6 w7 := hB
  have Ha7 := Lib.hid (Ha6.out.below hW (Nat.le_refl _))
  have Hb7 := Lib.hid (Hb6.out.below hW (Nat.le_refl _))
  have Hr7 := Lib.hid (Hr6.out.below hW (Nat.le_refl _))
  have HF7 := Lib.hid (HF6.out.below hW HF6.out.lt)
  have Hx7 := Lib.hid (Hx6.out.below hW (Nat.le_refl _))
  have Hy7 := Lib.hid (Hy6.out.below hW (Nat.le_refl _))
  have Hm17 := Lib.hid (Hm16.out.below hW (Nat.le_refl _))
  have Hm27 := Lib.hid (Hm26.out.below hW (Nat.le_refl _))
  have Hi17 := Lib.hid (Hi16.out.below hW (Nat.le_refl _))
  have HB7 : Hid (Below w.heap.size w w7) := HB6.out.trans (hW.mono HB6.out.size)
  have Hi27 := Lib.hid (hM)
  clear hW Ha6 Hb6 Hr6 HF6 Hx6 Hy6 Hm16 Hm26 Hi16 HB6
  clear hM hB
  go_wp2_with fail
  refine (HK1.out.2.2.2.2.1 Ax R cx d _ _ w7 Hx7.out Hr7.out).mono ?_
  rintro e w8 ⟨Ap1, cp1, rfl, hM, hB⟩
  have hW : Below w7.heap.size w7 w8 := hB
  have Ha8 := Lib.hid (Ha7.out.below hW (Nat.le_refl _))
  have Hb8 := Lib.hid (Hb7.out.below hW (Nat.le_refl _))
  have Hr8 := Lib.hid (Hr7.out.below hW (Nat.le_refl _))
  have HF8 := Lib.hid (HF7.out.below hW HF7.out.lt)
  have Hx8 := Lib.hid (Hx7.out.below hW (Nat.le_refl _))
  have Hy8 := Lib.hid (Hy7.out.below hW (Nat.le_refl _))
  have Hm18 := Lib.hid (Hm17.out.below hW (Nat.le_refl _))
  have Hm28 := Lib.hid (Hm27.out.below hW (Nat.le_refl _))
  have Hi18 := Lib.hid (Hi17.out.below hW (Nat.le_refl _))
  have Hi28 := Lib.hid (Hi27.out.below hW (Nat.le_refl _))
  have HB8 : Hid (Below w.heap.size w w8) := HB7.out.trans (hW.mono HB7.out.size)
  have Hp18 := Lib.hid (hM)
  clear hW Ha7 Hb7 Hr7 HF7 Hx7 Hy7 Hm17 Hm27 Hi17 Hi27 HB7
  clear hM hB
  go_wp2_with fail
  refine (HK1.out.2.2.2.2.2 A0 R c0 d w8 Ha8.out Hr8.out).mono ?_
  rintro e w9 ⟨Ap2, cp2, rfl, hM, hB⟩
  have hW : Below w8.heap.size w8 w9 := hB
  have Ha9 := Lib.hid (Ha8.out.below hW (Nat.le_refl _))
  have Hb9 := Lib.hid (Hb8.out.below hW (Nat.le_refl _))
  have Hr9 := Lib.hid (Hr8.out.below hW (Nat.le_refl _))
  have HF9 := Lib.hid (HF8.out.below hW HF8.out.lt)
  have Hx9 := Lib.hid (Hx8.out.below hW (Nat.le_refl _))
  have Hy9 := Lib.hid (Hy8.out.below hW (Nat.le_refl _))
  have Hm19 := Lib.hid (Hm18.out.below hW (Nat.le_refl _))
  have Hm29 := Lib.hid (Hm28.out.below hW (Nat.le_refl _))
  have Hi19 := Lib.hid (Hi18.out.below hW (Nat.le_refl _))
  have Hi29 := Lib.hid (Hi28.out.below hW (Nat.le_refl _))
  have Hp19 := Lib.hid (Hp18.out.below hW (Nat.le_refl _))
  have HB9 : Hid (Below w.heap.size w w9) := HB8.out.trans (hW.mono HB8.out.size)
  have Hp29 := Lib.hid (hM)
  clear hW Ha8 Hb8 Hr8 HF8 Hx8 Hy8 Hm18 Hm28 Hi18 Hi28 Hp18 HB8
  clear hM hB
  go_wp2_with fail
  refine (samem_yes _ Nm cm1 _ _ cm2 w9 Hm19.out Hm29.out (by omega)).mono ?_
  rintro e w10 ⟨rfl, j10, hw⟩
  have hW : Below w9.heap.size w9 w10 := by rw [hw]; exact ⟨rfl, rfl, rfl, Nat.le_refl _, fun _ _ => rfl⟩
  have Ha10 := Lib.hid (Ha9.out.below hW (Nat.le_refl _))
  have Hb10 := Lib.hid (Hb9.out.below hW (Nat.le_refl _))
  have Hr10 := Lib.hid (Hr9.out.below hW (Nat.le_refl _))
  have HF10 := Lib.hid (HF9.out.below hW HF9.out.lt)
  have Hx10 := Lib.hid (Hx9.out.below hW (Nat.le_refl _))
  have Hy10 := Lib.hid (Hy9.out.below hW (Nat.le_refl _))
  have Hm110 := Lib.hid (Hm19.out.below hW (Nat.le_refl _))
  have Hm210 := Lib.hid (Hm29.out.below hW (Nat.le_refl _))
  have Hi110 := Lib.hid (Hi19.out.below hW (Nat.le_refl _))
  have Hi210 := Lib.hid (Hi29.out.below hW (Nat.le_refl _))
  have Hp110 := Lib.hid (Hp19.out.below hW (Nat.le_refl _))
  have Hp210 := Lib.hid (Hp29.out.below hW (Nat.le_refl _))
  have HB10 : Hid (Below w.heap.size w w10) := HB9.out.trans (hW.mono HB9.out.size)
  clear hW Ha9 Hb9 Hr9 HF9 Hx9 Hy9 Hm19 Hm29 Hi19 Hi29 Hp19 Hp29 HB9
  clear hw
  go_wp2_with fail
  refine (samem_yes _ Ni ci1 _ _ ci2 w10 Hi110.out Hi210.out (by omega)).mono ?_
  rintro e w11 ⟨rfl, j11, hw⟩
  have hW : Below w10.heap.size w10 w11 := by rw [hw]; exact ⟨rfl, rfl, rfl, Nat.le_refl _, fun _ _ => rfl⟩
  have Ha11 := Lib.hid (Ha10.out.below hW (Nat.le_refl _))
  have Hb11 := Lib.hid (Hb10.out.below hW (Nat.le_refl _))
  have Hr11 := Lib.hid (Hr10.out.below hW (Nat.le_refl _))
  have HF11 := Lib.hid (HF10.out.below hW HF10.out.lt)
  have Hx11 := Lib.hid (Hx10.out.below hW (Nat.le_refl _))
  have Hy11 := Lib.hid (Hy10.out.below hW (Nat.le_refl _))
  have Hm111 := Lib.hid (Hm110.out.below hW (Nat.le_refl _))
  have Hm211 := Lib.hid (Hm210.out.below hW (Nat.le_refl _))
  have Hi111 := Lib.hid (Hi110.out.below hW (Nat.le_refl _))
  have Hi211 := Lib.hid (Hi210.out.below hW (Nat.le_refl _))
  have Hp111 := Lib.hid (Hp110.out.below hW (Nat.le_refl _))
  have Hp211 := Lib.hid (Hp210.out.below hW (Nat.le_refl _))
  have HB11 : Hid (Below w.heap.size w w11) := HB10.out.trans (hW.mono HB10.out.size)
  clear hW Ha10 Hb10 Hr10 HF10 Hx10 Hy10 Hm110 Hm210 Hi110 Hi210 Hp110 Hp210 HB10
  clear hw
  go_wp2_with fail
  refine (samem_yes _ Np cp1 _ _ cp2 w11 Hp111.out Hp211.out (by omega)).mono ?_
  rintro e w12 ⟨rfl, j12, hw⟩
  have hW : Below w11.heap.size w11 w12 := by rw [hw]; exact ⟨rfl, rfl, rfl, Nat.le_refl _, fun _ _ => rfl⟩
  have Ha12 := Lib.hid (Ha11.out.below hW (Nat.le_refl _))
  have Hb12 := Lib.hid (Hb11.out.below hW (Nat.le_refl _))
  have Hr12 := Lib.hid (Hr11.out.below hW (Nat.le_refl _))
  have HF12 := Lib.hid (HF11.out.below hW HF11.out.lt)
  have Hx12 := Lib.hid (Hx11.out.below hW (Nat.le_refl _))
  have Hy12 := Lib.hid (Hy11.out.below hW (Nat.le_refl _))
  have Hm112 := Lib.hid (Hm111.out.below hW (Nat.le_refl _))
  have Hm212 := Lib.hid (Hm211.out.below hW (Nat.le_refl _))
  have Hi112 := Lib.hid (Hi111.out.below hW (Nat.le_refl _))
  have Hi212 := Lib.hid (Hi211.out.below hW (Nat.le_refl _))
  have Hp112 := Lib.hid (Hp111.out.below hW (Nat.le_refl _))
  have Hp212 := Lib.hid (Hp211.out.below hW (Nat.le_refl _))
  have HB12 : Hid (Below w.heap.size w w12) := HB11.out.trans (hW.mono HB11.out.size)
  clear hW Ha11 Hb11 Hr11 HF11 Hx11 Hy11 Hm111 Hm211 Hi111 Hi211 Hp111 Hp211 HB11
  clear hw
  go_wp2_with fail
  have KR := right_any Ax n0 cx Ma w12 Hx12.out (by omega)
  rw [HRB.out] at KR
  refine KR.mono ?_
  rintro e w' ⟨rfl, rfl⟩
  clear KR
  have KR := rright_any A0 n0 c0 Ma w12 Ha12.out
  rw [HRB.out] at KR
  have HKR := Lib.hid KR
  clear KR
  go_wp2_with fail
  refine (HKR.out).mono ?_
  rintro e w13 ⟨rfl, j13, hw⟩
  have hW : Below w12.heap.size w12 w13 := by rw [hw]; exact ⟨rfl, rfl, rfl, Nat.le_refl _, fun _ _ => rfl⟩
  have Ha13 := Lib.hid (Ha12.out.below hW (Nat.le_refl _))
  have Hb13 := Lib.hid (Hb12.out.below hW (Nat.le_refl _))
  have Hr13 := Lib.hid (Hr12.out.below hW (Nat.le_refl _))
  have HF13 := Lib.hid (HF12.out.below hW HF12.out.lt)
  have Hx13 := Lib.hid (Hx12.out.below hW (Nat.le_refl _))
  have Hy13 := Lib.hid (Hy12.out.below hW (Nat.le_refl _))
  have Hm113 := Lib.hid (Hm112.out.below hW (Nat.le_refl _))
  have Hm213 := Lib.hid (Hm212.out.below hW (Nat.le_refl _))
  have Hi113 := Lib.hid (Hi112.out.below hW (Nat.le_refl _))
  have Hi213 := Lib.hid (Hi212.out.below hW (Nat.le_refl _))
  have Hp113 := Lib.hid (Hp112.out.below hW (Nat.le_refl _))
  have Hp213 := Lib.hid (Hp212.out.below hW (Nat.le_refl _))
  have HB13 : Hid (Below w.heap.size w w13) := HB12.out.trans (hW.mono HB12.out.size)
  clear hW Ha12 Hb12 Hr12 HF12 Hx12 Hy12 Hm112 Hm212 Hi112 Hi212 Hp112 Hp212 HB12
  clear hw HKR
  go_wp2_with fail
  refine (HK2.out.1 g Ax cx _ _ w13 HF13.out Hx13.out).mono ?_
  rintro e w14 ⟨rfl, hB⟩
  have hW : Below w13.heap.size w13 w14 := hB
  have Ha14 := Lib.hid (Ha13.out.below hW (Nat.le_refl _))
  have Hb14 := Lib.hid (Hb13.out.below hW (Nat.le_refl _))
  have Hr14 := Lib.hid (Hr13.out.below hW (Nat.le_refl _))
  have HF14 := Lib.hid (HF13.out.below hW HF13.out.lt)
  have Hx14 := Lib.hid (Hx13.out.below hW (Nat.le_refl _))
  have Hy14 := Lib.hid (Hy13.out.below hW (Nat.le_refl _))
  have Hm114 := Lib.hid (Hm113.out.below hW (Nat.le_refl _))
  have Hm214 := Lib.hid (Hm213.out.below hW (Nat.le_refl _))
  have Hi114 := Lib.hid (Hi113.out.below hW (Nat.le_refl _))
  have Hi214 := Lib.hid (Hi213.out.below hW (Nat.le_refl _))
  have Hp114 := Lib.hid (Hp113.out.below hW (Nat.le_refl _))
  have Hp214 := Lib.hid (Hp213.out.below hW (Nat.le_refl _))
  have HB14 : Hid (Below w.heap.size w w14) := HB13.out.trans (hW.mono HB13.out.size)
  clear hW Ha13 Hb13 Hr13 HF13 Hx13 Hy13 Hm113 Hm213 Hi113 Hi213 Hp113 Hp213 HB13
  clear hB
  go_wp2_with fail
  refine (HK2.out.2.1 A0 c0 w14 Ha14.out).mono ?_
  rintro e w15 ⟨rfl, hB⟩
  have hW : Below w14.heap.size w14 w15 := hB
  have Ha15 := Lib.hid (Ha14.out.below hW (Nat.le_refl _))
  have Hb15 := Lib.hid (Hb14.out.below hW (Nat.le_refl _))
  have Hr15 := Lib.hid (Hr14.out.below hW (Nat.le_refl _))
  have HF15 := Lib.hid (HF14.out.below hW HF14.out.lt)
  have Hx15 := Lib.hid (Hx14.out.below hW (Nat.le_refl _))
  have Hy15 := Lib.hid (Hy14.out.below hW (Nat.le_refl _))
  have Hm115 := Lib.hid (Hm114.out.below hW (Nat.le_refl _))
  have Hm215 := Lib.hid (Hm214.out.below hW (Nat.le_refl _))
  have Hi115 := Lib.hid (Hi114.out.below hW (Nat.le_refl _))
  have Hi215 := Lib.hid (Hi214.out.below hW (Nat.le_refl _))
  have Hp115 := Lib.hid (Hp114.out.below hW (Nat.le_refl _))
  have Hp215 := Lib.hid (Hp214.out.below hW (Nat.le_refl _))
  have HB15 : Hid (Below w.heap.size w w15) := HB14.out.trans (hW.mono HB14.out.size)
  clear hW Ha14 Hb14 Hr14 HF14 Hx14 Hy14 Hm114 Hm214 Hi114 Hi214 Hp114 Hp214 HB14
  clear hB
  go_wp2_with fail
  refine (HK2.out.2.2.1 w15).mono ?_
  rintro e w16 ⟨Au1, cu1, rfl, hM, hB⟩
  have hW : Below w15.heap.size w15 w16 := hB
  have Ha16 := Lib.hid (Ha15.out.below hW (Nat.le_refl _))
  have Hb16 := Lib.hid (Hb15.out.below hW (Nat.le_refl _))
  have Hr16 := Lib.hid (Hr15.out.below hW (Nat.le_refl _))
  have HF16 := Lib.hid (HF15.out.below hW HF15.out.lt)
  have Hx16 := Lib.hid (Hx15.out.below hW (Nat.le_refl _))
  have Hy16 := Lib.hid (Hy15.out.below hW (Nat.le_refl _))
  have Hm116 := Lib.hid (Hm115.out.below hW (Nat.le_refl _))
  have Hm216 := Lib.hid (Hm215.out.below hW (Nat.le_refl _))
  have Hi116 := Lib.hid (Hi115.out.below hW (Nat.le_refl _))
  have Hi216 := Lib.hid (Hi215.out.below hW (Nat.le_refl _))
  have Hp116 := Lib.hid (Hp115.out.below hW (Nat.le_refl _))
  have Hp216 := Lib.hid (Hp215.out.below hW (Nat.le_refl _))
  have HB16 : Hid (Below w.heap.size w w16) := HB15.out.trans (hW.mono HB15.out.size)
  have Hu116 := Lib.hid (hM)
  clear hW Ha15 Hb15 Hr15 HF15 Hx15 Hy15 Hm115 Hm215 Hi115 Hi215 Hp115 Hp215 HB15
  clear hM hB
  go_wp2_with fail
  refine (HK2.out.2.2.2.1 w16).mono ?_
  rintro e w17 ⟨Au2, cu2, rfl, hM, hB⟩
  have hW : Below w16.heap.size w16 w17 := hB
  have Ha17 := Lib.hid (Ha16.out.below hW (Nat.le_refl _))
  have Hb17 := Lib.hid (Hb16.out.below hW (Nat.le_refl _))
  have Hr17 := Lib.hid (Hr16.out.below hW (Nat.le_refl _))
  have HF17 := Lib.hid (HF16.out.below hW HF16.out.lt)
  have Hx17 := Lib.hid (Hx16.out.below hW (Nat.le_refl _))
  have Hy17 := Lib.hid (Hy16.out.below hW (Nat.le_refl _))
  have Hm117 := Lib.hid (Hm116.out.below hW (Nat.le_refl _))
  have Hm217 := Lib.hid (Hm216.out.below hW (Nat.le_refl _))
  have Hi117 := Lib.hid (Hi116.out.below hW (Nat.le_refl _))
  have Hi217 := Lib.hid (Hi216.out.below hW (Nat.le_refl _))
  have Hp117 := Lib.hid (Hp116.out.below hW (Nat.le_refl _))
  have Hp217 := Lib.hid (Hp216.out.below hW (Nat.le_refl _))
  have Hu117 := Lib.hid (Hu116.out.below hW (Nat.le_refl _))
  have HB17 : Hid (Below w.heap.size w w17) := HB16.out.trans (hW.mono HB16.out.size)
  have Hu217 := Lib.hid (hM)
  clear hW Ha16 Hb16 Hr16 HF16 Hx16 Hy16 Hm116 Hm216 Hi116 Hi216 Hp116 Hp216 Hu116 HB16
  clear hM hB
  go_wp2_with fail
  refine (HK2.out.2.2.2.2.1 g w17 HF17.out).mono ?_
  rintro e w18 ⟨Aq1, cq1, rfl, hM, hB⟩
  have hW : Below w17.heap.size w17 w18 := hB
  have Ha18 := Lib.hid (Ha17.out.below hW (Nat.le_refl _))
  have Hb18 := Lib.hid (Hb17.out.below hW (Nat.le_refl _))
  have Hr18 := Lib.hid (Hr17.out.below hW (Nat.le_refl _))
  have HF18 := Lib.hid (HF17.out.below hW HF17.out.lt)
  have Hx18 := Lib.hid (Hx17.out.below hW (Nat.le_refl _))
  have Hy18 := Lib.hid (Hy17.out.below hW (Nat.le_refl _))
  have Hm118 := Lib.hid (Hm117.out.below hW (Nat.le_refl _))
  have Hm218 := Lib.hid (Hm217.out.below hW (Nat.le_refl _))
  have Hi118 := Lib.hid (Hi117.out.below hW (Nat.le_refl _))
  have Hi218 := Lib.hid (Hi217.out.below hW (Nat.le_refl _))
  have Hp118 := Lib.hid (Hp117.out.below hW (Nat.le_refl _))
  have Hp218 := Lib.hid (Hp217.out.below hW (Nat.le_refl _))
  have Hu118 := Lib.hid (Hu117.out.below hW (Nat.le_refl _))
  have Hu218 := Lib.hid (Hu217.out.below hW (Nat.le_refl _))
  have HB18 : Hid (Below w.heap.size w w18) := HB17.out.trans (hW.mono HB17.out.size)
  have Hq118 := Lib.hid (hM)
  clear hW Ha17 Hb17 Hr17 HF17 Hx17 Hy17 Hm117 Hm217 Hi117 Hi217 Hp117 Hp217 Hu117 Hu217 HB17
  clear hM hB
  go_wp2_with fail
  refine (HK2.out.2.2.2.2.2 w18).mono ?_
  rintro e w19 ⟨Aq2, cq2, rfl, hM, hB⟩
  have hW : Below w18.heap.size w18 w19 := hB
  have Ha19 := Lib.hid (Ha18.out.below hW (Nat.le_refl _))
  have Hb19 := Lib.hid (Hb18.out.below hW (Nat.le_refl _))
  have Hr19 := Lib.hid (Hr18.out.below hW (Nat.le_refl _))
  have HF19 := Lib.hid (HF18.out.below hW HF18.out.lt)
  have Hx19 := Lib.hid (Hx18.out.below hW (Nat.le_refl _))
  have Hy19 := Lib.hid (Hy18.out.below hW (Nat.le_refl _))
  have Hm119 := Lib.hid (Hm118.out.below hW (Nat.le_refl _))
  have Hm219 := Lib.hid (Hm218.out.below hW (Nat.le_refl _))
  have Hi119 := Lib.hid (Hi118.out.below hW (Nat.le_refl _))
  have Hi219 := Lib.hid (Hi218.out.below hW (Nat.le_refl _))
  have Hp119 := Lib.hid (Hp118.out.below hW (Nat.le_refl _))
  have Hp219 := Lib.hid (Hp218.out.below hW (Nat.le_refl _))
  have Hu119 := Lib.hid (Hu118.out.below hW (Nat.le_refl _))
  have Hu219 := Lib.hid (Hu218.out.below hW (Nat.le_refl _))
  have Hq119 := Lib.hid (Hq118.out.below hW (Nat.le_refl _))
  have HB19 : Hid (Below w.heap.size w w19) := HB18.out.trans (hW.mono HB18.out.size)
  have Hq219 := Lib.hid (hM)
  clear hW Ha18 Hb18 Hr18 HF18 Hx18 Hy18 Hm118 Hm218 Hi118 Hi218 Hp118 Hp218 Hu118 Hu218 Hq118 HB18
  clear hM hB
  go_wp2_with fail
  refine (samem_yes _ Nu cu1 _ _ cu2 w19 Hu119.out Hu219.out (by omega)).mono ?_
  rintro e w20 ⟨rfl, j20, hw⟩
  have hW : Below w19.heap.size w19 w20 := by rw [hw]; exact ⟨rfl, rfl, rfl, Nat.le_refl _, fun _ _ => rfl⟩
  have Ha20 := Lib.hid (Ha19.out.below hW (Nat.le_refl _))
  have Hb20 := Lib.hid (Hb19.out.below hW (Nat.le_refl _))
  have Hr20 := Lib.hid (Hr19.out.below hW (Nat.le_refl _))
  have HF20 := Lib.hid (HF19.out.below hW HF19.out.lt)
  have Hx20 := Lib.hid (Hx19.out.below hW (Nat.le_refl _))
  have Hy20 := Lib.hid (Hy19.out.below hW (Nat.le_refl _))
  have Hm120 := Lib.hid (Hm119.out.below hW (Nat.le_refl _))
  have Hm220 := Lib.hid (Hm219.out.below hW (Nat.le_refl _))
  have Hi120 := Lib.hid (Hi119.out.below hW (Nat.le_refl _))
  have Hi220 := Lib.hid (Hi219.out.below hW (Nat.le_refl _))
  have Hp120 := Lib.hid (Hp119.out.below hW (Nat.le_refl _))
  have Hp220 := Lib.hid (Hp219.out.below hW (Nat.le_refl _))
  have Hu120 := Lib.hid (Hu119.out.below hW (Nat.le_refl _))
  have Hu220 := Lib.hid (Hu219.out.below hW (Nat.le_refl _))
  have Hq120 := Lib.hid (Hq119.out.below hW (Nat.le_refl _))
  have Hq220 := Lib.hid (Hq219.out.below hW (Nat.le_refl _))
  have HB20 : Hid (Below w.heap.size w w20) := HB19.out.trans (hW.mono HB19.out.size)
  clear hW Ha19 Hb19 Hr19 HF19 Hx19 Hy19 Hm119 Hm219 Hi119 Hi219 Hp119 Hp219 Hu119 Hu219 Hq119 Hq219 HB19
  clear hw
  go_wp2_with fail
  refine (samem_yes _ Nc cq1 _ _ cq2 w20 Hq120.out Hq220.out (by omega)).mono ?_
  rintro e w21 ⟨rfl, j21, hw⟩
  have hW : Below w20.heap.size w20 w21 := by rw [hw]; exact ⟨rfl, rfl, rfl, Nat.le_refl _, fun _ _ => rfl⟩
  have Ha21 := Lib.hid (Ha20.out.below hW (Nat.le_refl _))
  have Hb21 := Lib.hid (Hb20.out.below hW (Nat.le_refl _))
  have Hr21 := Lib.hid (Hr20.out.below hW (Nat.le_refl _))
  have HF21 := Lib.hid (HF20.out.below hW HF20.out.lt)
  have Hx21 := Lib.hid (Hx20.out.below hW (Nat.le_refl _))
  have Hy21 := Lib.hid (Hy20.out.below hW (Nat.le_refl _))
  have Hm121 := Lib.hid (Hm120.out.below hW (Nat.le_refl _))
  have Hm221 := Lib.hid (Hm220.out.below hW (Nat.le_refl _))
  have Hi121 := Lib.hid (Hi120.out.below hW (Nat.le_refl _))
  have Hi221 := Lib.hid (Hi220.out.below hW (Nat.le_refl _))
  have Hp121 := Lib.hid (Hp120.out.below hW (Nat.le_refl _))
  have Hp221 := Lib.hid (Hp220.out.below hW (Nat.le_refl _))
  have Hu121 := Lib.hid (Hu120.out.below hW (Nat.le_refl _))
  have Hu221 := Lib.hid (Hu220.out.below hW (Nat.le_refl _))
  have Hq121 := Lib.hid (Hq120.out.below hW (Nat.le_refl _))
  have Hq221 := Lib.hid (Hq220.out.below hW (Nat.le_refl _))
  have HB21 : Hid (Below w.heap.size w w21) := HB20.out.trans (hW.mono HB20.out.size)
  clear hW Ha20 Hb20 Hr20 HF20 Hx20 Hy20 Hm120 Hm220 Hi120 Hi220 Hp120 Hp220 Hu120 Hu220 Hq120 Hq220 HB20
  clear hw
  go_wp2_with fail
  refine (samem_yes _ n0 cx _ _ c0 w21 Hx21.out.mr Ha21.out (by omega)).mono ?_
  rintro e w22 ⟨rfl, j22, hw⟩
  have hW : Below w21.heap.size w21 w22 := by rw [hw]; exact ⟨rfl, rfl, rfl, Nat.le_refl _, fun _ _ => rfl⟩
  have Ha22 := Lib.hid (Ha21.out.below hW (Nat.le_refl _))
  have Hb22 := Lib.hid (Hb21.out.below hW (Nat.le_refl _))
  have Hr22 := Lib.hid (Hr21.out.below hW (Nat.le_refl _))
  have HF22 := Lib.hid (HF21.out.below hW HF21.out.lt)
  have Hx22 := Lib.hid (Hx21.out.below hW (Nat.le_refl _))
  have Hy22 := Lib.hid (Hy21.out.below hW (Nat.le_refl _))
  have Hm122 := Lib.hid (Hm121.out.below hW (Nat.le_refl _))
  have Hm222 := Lib.hid (Hm221.out.below hW (Nat.le_refl _))
  have Hi122 := Lib.hid (Hi121.out.below hW (Nat.le_refl _))
  have Hi222 := Lib.hid (Hi221.out.below hW (Nat.le_refl _))
  have Hp122 := Lib.hid (Hp121.out.below hW (Nat.le_refl _))
  have Hp222 := Lib.hid (Hp221.out.below hW (Nat.le_refl _))
  have Hu122 := Lib.hid (Hu121.out.below hW (Nat.le_refl _))
  have Hu222 := Lib.hid (Hu221.out.below hW (Nat.le_refl _))
  have Hq122 := Lib.hid (Hq121.out.below hW (Nat.le_refl _))
  have Hq222 := Lib.hid (Hq221.out.below hW (Nat.le_refl _))
  have HB22 : Hid (Below w.heap.size w w22) := HB21.out.trans (hW.mono HB21.out.size)
  clear hW Ha21 Hb21 Hr21 HF21 Hx21 Hy21 Hm121 Hm221 Hi121 Hi221 Hp121 Hp221 Hu121 Hu221 Hq121 Hq221 HB21
  clear hw
  go_wp2_with fail
  refine (samem_yes _ n1 cy _ _ c1 w22 Hy22.out.mr Hb22.out (by omega)).mono ?_
  rintro e w23 ⟨rfl, j23, hw⟩
  have hW : Below w22.heap.size w22 w23 := by rw [hw]; exact ⟨rfl, rfl, rfl, Nat.le_refl _, fun _ _ => rfl⟩
  have Ha23 := Lib.hid (Ha22.out.below hW (Nat.le_refl _))
  have Hb23 := Lib.hid (Hb22.out.below hW (Nat.le_refl _))
  have Hr23 := Lib.hid (Hr22.out.below hW (Nat.le_refl _))
  have HF23 := Lib.hid (HF22.out.below hW HF22.out.lt)
  have Hx23 := Lib.hid (Hx22.out.below hW (Nat.le_refl _))
  have Hy23 := Lib.hid (Hy22.out.below hW (Nat.le_refl _))
  have Hm123 := Lib.hid (Hm122.out.below hW (Nat.le_refl _))
  have Hm223 := Lib.hid (Hm222.out.below hW (Nat.le_refl _))
  have Hi123 := Lib.hid (Hi122.out.below hW (Nat.le_refl _))
  have Hi223 := Lib.hid (Hi222.out.below hW (Nat.le_refl _))
  have Hp123 := Lib.hid (Hp122.out.below hW (Nat.le_refl _))
  have Hp223 := Lib.hid (Hp222.out.below hW (Nat.le_refl _))
  have Hu123 := Lib.hid (Hu122.out.below hW (Nat.le_refl _))
  have Hu223 := Lib.hid (Hu222.out.below hW (Nat.le_refl _))
  have Hq123 := Lib.hid (Hq122.out.below hW (Nat.le_refl _))
  have Hq223 := Lib.hid (Hq222.out.below hW (Nat.le_refl _))
  have HB23 : Hid (Below w.heap.size w w23) := HB22.out.trans (hW.mono HB22.out.size)
  clear hW Ha22 Hb22 Hr22 HF22 Hx22 Hy22 Hm122 Hm222 Hi122 Hi222 Hp122 Hp222 Hu122 Hu222 Hq122 Hq222 HB22
  clear hw
  go_wp2_with fail
  refine (awake_any w23).mono ?_
  rintro e w24 ⟨rfl, hB⟩
  have hW : Below w23.heap.size w23 w24 := hB
  have Ha24 := Lib.hid (Ha23.out.below hW (Nat.le_refl _))
  have Hb24 := Lib.hid (Hb23.out.below hW (Nat.le_refl _))
  have Hr24 := Lib.hid (Hr23.out.below hW (Nat.le_refl _))
  have HF24 := Lib.hid (HF23.out.below hW HF23.out.lt)
  have Hx24 := Lib.hid (Hx23.out.below hW (Nat.le_refl _))
  have Hy24 := Lib.hid (Hy23.out.below hW (Nat.le_refl _))
  have Hm124 := Lib.hid (Hm123.out.below hW (Nat.le_refl _))
  have Hm224 := Lib.hid (Hm223.out.below hW (Nat.le_refl _))
  have Hi124 := Lib.hid (Hi123.out.below hW (Nat.le_refl _))
  have Hi224 := Lib.hid (Hi223.out.below hW (Nat.le_refl _))
  have Hp124 := Lib.hid (Hp123.out.below hW (Nat.le_refl _))
  have Hp224 := Lib.hid (Hp223.out.below hW (Nat.le_refl _))
  have Hu124 := Lib.hid (Hu123.out.below hW (Nat.le_refl _))
  have Hu224 := Lib.hid (Hu223.out.below hW (Nat.le_refl _))
  have Hq124 := Lib.hid (Hq123.out.below hW (Nat.le_refl _))
  have Hq224 := Lib.hid (Hq223.out.below hW (Nat.le_refl _))
  have HB24 : Hid (Below w.heap.size w w24) := HB23.out.trans (hW.mono HB23.out.size)
  clear hW Ha23 Hb23 Hr23 HF23 Hx23 Hy23 Hm123 Hm223 Hi123 Hi223 Hp123 Hp223 Hu123 Hu223 Hq123 Hq223 HB23
  clear hB
  go_wp2
  go_ret
  exact ⟨rfl, HB24.out⟩
end Go.Proofs.Ytcggcbfddgfigaa
