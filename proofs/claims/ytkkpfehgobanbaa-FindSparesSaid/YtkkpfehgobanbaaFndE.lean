/- Lose. -/
import Derived.Test.YtkkpfehgobanbaaFndD
namespace Go.Proofs.Ytkkpfehgobanbaa
open Go.RowKit Go.Coop
set_option maxRecDepth 100000
theorem FO.start {w w3 w4 wz : World} {b b2 : Nat} {s v need ph : Int} {A : Option Addr} {n c : Nat} {ms : List Int} {B : Option Addr} {m d : Nat} {ws : List Int} {C : Option Addr} {q k : Nat} {bs : List (List UInt8)} {x0 x1 x2 x3 x4 x5 x6 : Value} (hrow : w3.heap[b]? = some (.cells #[x0, x1, x2, x3, x4, x5, x6] 27 (0, 0))) (hres : w3.heap[b2]? = some (.cells #[.int .i64 0, .int .i64 0, .int .i64 0, .int .i64 0, .slice none 0 0, .slice none 0 0, .slice none 0 0] 27 (0, 0))) (hb3 : Below w.heap.size w w3) (h1 : w.heap.size ≤ b) (h2 : b < b2) (hb4 : Below w3.heap.size w3 w4) (oa : OwnV w4 w3.heap.size 3 A n c (ms.map IV)) (ob : OwnV w4 w3.heap.size 3 B m d (ws.map IV)) (oc : MO w4 w3.heap.size w3.heap.size C q k bs) (dj : ∀ i, A.map (·.block) = some i → B.map (·.block) ≠ some i) (hz : set7 w4 b (.int .i64 s) (.int .i64 v) (.int .i64 need) (.int .i64 ph) (.slice A n c) (.slice B m d) (.slice C q k) = wz) : FO w wz w3.heap.size b b2 s v need ph A n c ms B m d ws C q k bs := by
  have hr4 := (hb4.block _ (lt_of_block hrow)).trans hrow
  have hs4 := (hb4.block _ (lt_of_block hres)).trans hres
  have hbt : Go.Coop.But [b] w4 wz := hz ▸ but7 _ _ _ _ _ _ _ _ _
  have hbz := lt_of_block hres
  have hn : ∀ {X : Option Addr} {n c E : Nat} {l : List Value}, OwnV w4 w3.heap.size E X n c l → ∀ i, X.map (·.block) = some i → i ∉ [b] := fun ho i hi hm => by have := (ho.block i hi).1; simp at hm; omega
  obtain ⟨vs, hv, _⟩ := oc.out
  have hb : Below w.heap.size w w4 := hb3.trans (hb4.mono hb3.size)
  exact ⟨hz ▸ row7 hr4, hbt.cells hs4 (by simp; omega), oa.but hbt (hn oa), ob.but hbt (hn ob), mo_but oc hbt (hn hv) (fun i cur hi _ => row27_not5 hr4 hi), dj, hb.trans (hbt.below (B := w.heap.size) hb.size (by intro i hi; simp at hi; omega)), ⟨h1, h2, hbz, Nat.le_trans hb4.size hbt.size⟩⟩
section
variable (w : World)
set_option maxHeartbeats 4000000 in
theorem lose_is (s v need ph i : Int) {A : Option Addr} {n c : Nat} {ms : List Int} {B : Option Addr} {m d : Nat} {ws : List Int} {C : Option Addr} {q k : Nat} {bs : List (List UInt8)} (h : FR w A n ms B m ws C q bs) {P : Fq × Int} (hP : Fq.lose ⟨s, v, need, ph, ms, ws, bs⟩ i = P) : Calls Try.prog 15 #[.agg #[.int .i64 s, .int .i64 v, .int .i64 need, .int .i64 ph, .slice A n c, .slice B m d, .slice C q k], .int .i64 i] w (TwoF w P) := by
  obtain ⟨hln, hlm, hlq⟩ := h.lens
  obtain ⟨w1, hw1⟩ : ∃ z, w.alloc (.cells #[.int .i64 s, .int .i64 v, .int .i64 need, .int .i64 ph, .slice A n c, .slice B m d, .slice C q k] 27) = z := ⟨_, rfl⟩
  obtain ⟨w2, hw2⟩ : ∃ z, w1.alloc (.cells #[.int .i64 0, .int .i64 0, .int .i64 0, .int .i64 0, .slice none 0 0, .slice none 0 0, .slice none 0 0] 27) = z := ⟨_, rfl⟩
  obtain ⟨hb1, hx1⟩ := box_mk hw1
  obtain ⟨hb2, hx2⟩ := box_mk hw2
  obtain ⟨b, hb⟩ : ∃ b, w.heap.size = b := ⟨_, rfl⟩
  obtain ⟨b2, hbb⟩ : ∃ b, w1.heap.size = b := ⟨_, rfl⟩
  have hlt : b < b2 := by rw [← hb, ← hbb]; exact lt_of_block hx1
  have hx12 := (hb2.block _ (lt_of_block hx1)).trans hx1
  rw [hb] at hx12
  rw [hbb] at hx2
  have hB2 := hb1.trans (hb2.mono hb1.size)
  have HX2 := Lib.hid hx12
  have HZ2 := Lib.hid hx2
  have HB2 := Lib.hid hB2
  have HR2 := Lib.hid (h.below hB2 (Nat.le_refl _))
  have HLT := Lib.hid (And.intro hlt hb)
  have hne : b2 ≠ b := by omega
  have hne' : b ≠ b2 := by omega
  obtain ⟨⟨f0, f1, f2, f3, f4, f5, f6⟩, fbl⟩ := seven hx12
  clear hlt hx12 hx2 hB2 hb1 hb2 hx1
  have HRW := Lib.hid h
  clear h
  by_cases hH : HasF ⟨s, v, need, ph, ms, ws, bs⟩ i
  · have kH := Lib.hid (decide_eq_true hH)
    obtain ⟨x, rfl⟩ : ∃ x : Nat, i = (x : Int) := ⟨i.toNat, by have := hH.2.1; omega⟩
    have hxn : x < n := by have := hH.2.2; simp only [hln] at this; omega
    obtain ⟨y, hy⟩ : ∃ y, ms[x]? = some y := ⟨_, List.getElem?_eq_getElem (by omega)⟩
    have hgd : ms.getD (x : Int).toNat 0 = y := by simp only [Int.toNat_natCast, List.getD_eq_getElem?_getD, hy, Option.getD_some]
    have HY := Lib.hid (And.intro hy hxn)
    have hi1 : (0 : Int) ≤ (x : Int) := by omega
    have hi2 : (x : Int) < (n : Int) := by omega
    clear hy hxn
    by_cases hp : ph = 1
    · subst hp
      by_cases hy2 : y = 2
      · subst hy2
        have HP : Hid (P = (⟨s, v, need, 1, ms.set x 0, ws, bs⟩, 0)) := by show _ = _; rw [← hP]; unfold Fq.lose; rw [if_pos hH, if_pos ⟨rfl, hgd⟩] <;> rfl
        clear hP hH hgd
        go_enter Try.func15, Try.ntmps15
        go_wp2_with fail
        (try rw [hw1]); (try rw [hw2]); (try rw [hb]); (try rw [hbb])
        clear hw1 hw2 hb hbb
        refine (has_is _ s v need 1 (x : Int) HR2.out kH.out).mono ?_
        rintro e' w3 ⟨rfl, hb3⟩
        have HX3 := Lib.hid ((hb3.block _ (lt_of_block HX2.out)).trans HX2.out)
        have HZ3 := Lib.hid ((hb3.block _ (lt_of_block HZ2.out)).trans HZ2.out)
        have HR3 := Lib.hid (HR2.out.below hb3 (Nat.le_refl _))
        have HB3 := Lib.hid (HB2.out.trans (hb3.mono HB2.out.size))
        clear hb3 f0 f1 f2 f3 f4 f5 f6 fbl
        obtain ⟨⟨f0, f1, f2, f3, f4, f5, f6⟩, fbl⟩ := seven HX3.out
        obtain ⟨t0, t1, t2, t3, t4, t5, t6⟩ := thaw7 HX3.out
        obtain ⟨⟨r0, r1, r2, r3, r4, r5, r6⟩, rbl⟩ := seven HZ3.out
        obtain ⟨y0, y1, y2, y3, y4, y5, y6⟩ := thaw7 HZ3.out
        go_wp2_with fail
        refine (alone_is _ s v need 1 HR3.out).mono ?_
        rintro e' w4 ⟨A1, c1, B1, d1, C1, k1, rfl, oa, ob, oc, dj, hb4⟩
        simp only [hln, hlm, hlq] at oa ob oc ⊢
        have HO4 := Lib.hid (And.intro oa (And.intro ob (And.intro oc (And.intro dj hb4))))
        have HX4 := Lib.hid ((hb4.block _ (lt_of_block HX3.out)).trans HX3.out)
        have HZ4 := Lib.hid ((hb4.block _ (lt_of_block HZ3.out)).trans HZ3.out)
        clear oa ob oc dj hb4
        clear f0 f1 f2 f3 f4 f5 f6 fbl t0 t1 t2 t3 t4 t5 t6 r0 r1 r2 r3 r4 r5 r6 rbl y0 y1 y2 y3 y4 y5 y6
        obtain ⟨⟨f0, f1, f2, f3, f4, f5, f6⟩, fbl⟩ := seven HX4.out
        obtain ⟨t0, t1, t2, t3, t4, t5, t6⟩ := thaw7 HX4.out
        obtain ⟨⟨r0, r1, r2, r3, r4, r5, r6⟩, rbl⟩ := seven HZ4.out
        obtain ⟨y0, y1, y2, y3, y4, y5, y6⟩ := thaw7 HZ4.out
        obtain ⟨w5, hw5⟩ : ∃ z, set7 w4 b (.int .i64 s) (.int .i64 v) (.int .i64 need) (.int .i64 1) (.slice A1 n c1) (.slice B1 m d1) (.slice C1 q k1) = z := ⟨_, rfl⟩
        have HF := Lib.hid (FO.start HX3.out HZ3.out HB3.out (by have := HLT.out; omega) HLT.out.1 HO4.out.2.2.2.2 HO4.out.1 HO4.out.2.1 HO4.out.2.2.1 HO4.out.2.2.2.1 hw5)
        unfold set7 at hw5
        obtain ⟨⟨p0, p1, p2, p3, p4, p5, p6⟩, pbl⟩ := seven HF.out.row
        obtain ⟨g, rfl, hfz, hcg⟩ := HF.out.addr (show 0 < n by omega)
        have hcy := hcg x 2 HY.out.1
        have hfx := hfz x
        clear hfz hcg
        obtain ⟨w6, hw6⟩ : ∃ z, w5.setCell ⟨g, x, none⟩ (.int .i64 0) = z := ⟨_, rfl⟩
        have HF6 := Lib.hid (HF.out.mark hw6)
        obtain ⟨⟨o0, o1, o2, o3, o4, o5, o6⟩, obl⟩ := seven HF6.out.row
        obtain ⟨⟨u0, u1, u2, u3, u4, u5, u6⟩, ubl⟩ := seven HF6.out.res
        obtain ⟨v0, v1, v2, v3, v4, v5, v6⟩ := thaw7 HF6.out.res
        clear f0 f1 f2 f3 f4 f5 f6 fbl t0 t1 t2 t3 t4 t5 t6 r0 r1 r2 r3 r4 r5 r6 rbl y0 y1 y2 y3 y4 y5 y6
        obtain ⟨⟨f0, f1, f2, f3, f4, f5, f6⟩, fbl⟩ := seven HX4.out
        obtain ⟨t0, t1, t2, t3, t4, t5, t6⟩ := thaw7 HX4.out
        go_wp2
        (try rw [hw5]); (try rw [hw6])
        obtain ⟨hw, hT⟩ := two_end HF6.out.res HF6.out.oa HF6.out.ob HF6.out.oc HF6.out.dj HF6.out.bel (by have := HF6.out.lb; omega) HF6.out.lb.2.2.1 0
        unfold set7 at hw hT
        rw [HP.out]
        refine bodyPost_ret (v := .tuple #[.agg #[.int .i64 s, .int .i64 v, .int .i64 need, .int .i64 1, .slice (some ⟨g, 0, none⟩) n c1, .slice B1 m d1, .slice C1 q k1], .int .i64 0]) ?_ rfl hT
        rw [results_cell_tmp rfl]
        simp [asAddr, Result.andThen, loadv27 hw]
      · have HP : Hid (P = (⟨s, v, need, 1, ms, ws, bs⟩, 0)) := by show _ = _; rw [← hP]; unfold Fq.lose; rw [if_pos hH, if_neg (fun h => hy2 (hgd ▸ h.2))] <;> rfl
        clear hP hH hgd
        have hyb : (y == 2) = false := by simpa using hy2
        clear hy2
        go_enter Try.func15, Try.ntmps15
        go_wp2_with fail
        (try rw [hw1]); (try rw [hw2]); (try rw [hb]); (try rw [hbb])
        clear hw1 hw2 hb hbb
        refine (has_is _ s v need 1 (x : Int) HR2.out kH.out).mono ?_
        rintro e' w3 ⟨rfl, hb3⟩
        have HX3 := Lib.hid ((hb3.block _ (lt_of_block HX2.out)).trans HX2.out)
        have HZ3 := Lib.hid ((hb3.block _ (lt_of_block HZ2.out)).trans HZ2.out)
        have HR3 := Lib.hid (HR2.out.below hb3 (Nat.le_refl _))
        have HB3 := Lib.hid (HB2.out.trans (hb3.mono HB2.out.size))
        clear hb3 f0 f1 f2 f3 f4 f5 f6 fbl
        obtain ⟨⟨f0, f1, f2, f3, f4, f5, f6⟩, fbl⟩ := seven HX3.out
        obtain ⟨t0, t1, t2, t3, t4, t5, t6⟩ := thaw7 HX3.out
        obtain ⟨⟨r0, r1, r2, r3, r4, r5, r6⟩, rbl⟩ := seven HZ3.out
        obtain ⟨y0, y1, y2, y3, y4, y5, y6⟩ := thaw7 HZ3.out
        go_wp2_with fail
        refine (alone_is _ s v need 1 HR3.out).mono ?_
        rintro e' w4 ⟨A1, c1, B1, d1, C1, k1, rfl, oa, ob, oc, dj, hb4⟩
        simp only [hln, hlm, hlq] at oa ob oc ⊢
        have HO4 := Lib.hid (And.intro oa (And.intro ob (And.intro oc (And.intro dj hb4))))
        have HX4 := Lib.hid ((hb4.block _ (lt_of_block HX3.out)).trans HX3.out)
        have HZ4 := Lib.hid ((hb4.block _ (lt_of_block HZ3.out)).trans HZ3.out)
        clear oa ob oc dj hb4
        clear f0 f1 f2 f3 f4 f5 f6 fbl t0 t1 t2 t3 t4 t5 t6 r0 r1 r2 r3 r4 r5 r6 rbl y0 y1 y2 y3 y4 y5 y6
        obtain ⟨⟨f0, f1, f2, f3, f4, f5, f6⟩, fbl⟩ := seven HX4.out
        obtain ⟨t0, t1, t2, t3, t4, t5, t6⟩ := thaw7 HX4.out
        obtain ⟨⟨r0, r1, r2, r3, r4, r5, r6⟩, rbl⟩ := seven HZ4.out
        obtain ⟨y0, y1, y2, y3, y4, y5, y6⟩ := thaw7 HZ4.out
        obtain ⟨w5, hw5⟩ : ∃ z, set7 w4 b (.int .i64 s) (.int .i64 v) (.int .i64 need) (.int .i64 1) (.slice A1 n c1) (.slice B1 m d1) (.slice C1 q k1) = z := ⟨_, rfl⟩
        have HF := Lib.hid (FO.start HX3.out HZ3.out HB3.out (by have := HLT.out; omega) HLT.out.1 HO4.out.2.2.2.2 HO4.out.1 HO4.out.2.1 HO4.out.2.2.1 HO4.out.2.2.2.1 hw5)
        unfold set7 at hw5
        obtain ⟨⟨p0, p1, p2, p3, p4, p5, p6⟩, pbl⟩ := seven HF.out.row
        obtain ⟨g, rfl, hfz, hcg⟩ := HF.out.addr (show 0 < n by omega)
        have hcy := hcg x y HY.out.1
        clear hfz hcg
        clear f0 f1 f2 f3 f4 f5 f6 fbl t0 t1 t2 t3 t4 t5 t6 r0 r1 r2 r3 r4 r5 r6 rbl y0 y1 y2 y3 y4 y5 y6
        obtain ⟨⟨f0, f1, f2, f3, f4, f5, f6⟩, fbl⟩ := seven HX4.out
        obtain ⟨t0, t1, t2, t3, t4, t5, t6⟩ := thaw7 HX4.out
        obtain ⟨⟨r0, r1, r2, r3, r4, r5, r6⟩, rbl⟩ := seven HF.out.res
        obtain ⟨y0, y1, y2, y3, y4, y5, y6⟩ := thaw7 HF.out.res
        go_wp2
        (try rw [hw5])
        obtain ⟨hw, hT⟩ := two_end HF.out.res HF.out.oa HF.out.ob HF.out.oc HF.out.dj HF.out.bel (by have := HF.out.lb; omega) HF.out.lb.2.2.1 0
        unfold set7 at hw hT
        rw [HP.out]
        refine bodyPost_ret (v := .tuple #[.agg #[.int .i64 s, .int .i64 v, .int .i64 need, .int .i64 1, .slice (some ⟨g, 0, none⟩) n c1, .slice B1 m d1, .slice C1 q k1], .int .i64 0]) ?_ rfl hT
        rw [results_cell_tmp rfl]
        simp [asAddr, Result.andThen, loadv27 hw]
    · have HP : Hid (P = (⟨s, v, need, ph, ms, ws, bs⟩, 0)) := by show _ = _; rw [← hP]; unfold Fq.lose; rw [if_pos hH, if_neg (fun h => hp h.1)] <;> rfl
      clear hP hH hgd
      have hpb : (ph == 1) = false := by simpa using hp
      clear hp
      go_enter Try.func15, Try.ntmps15
      go_wp2_with fail
      (try rw [hw1]); (try rw [hw2]); (try rw [hb]); (try rw [hbb])
      clear hw1 hw2 hb hbb
      refine (has_is _ s v need ph (x : Int) HR2.out kH.out).mono ?_
      rintro e' w3 ⟨rfl, hb3⟩
      have HX3 := Lib.hid ((hb3.block _ (lt_of_block HX2.out)).trans HX2.out)
      have HZ3 := Lib.hid ((hb3.block _ (lt_of_block HZ2.out)).trans HZ2.out)
      have HR3 := Lib.hid (HR2.out.below hb3 (Nat.le_refl _))
      have HB3 := Lib.hid (HB2.out.trans (hb3.mono HB2.out.size))
      clear hb3 f0 f1 f2 f3 f4 f5 f6 fbl
      obtain ⟨⟨f0, f1, f2, f3, f4, f5, f6⟩, fbl⟩ := seven HX3.out
      obtain ⟨t0, t1, t2, t3, t4, t5, t6⟩ := thaw7 HX3.out
      obtain ⟨⟨r0, r1, r2, r3, r4, r5, r6⟩, rbl⟩ := seven HZ3.out
      obtain ⟨y0, y1, y2, y3, y4, y5, y6⟩ := thaw7 HZ3.out
      go_wp2_with fail
      refine (alone_is _ s v need ph HR3.out).mono ?_
      rintro e' w4 ⟨A1, c1, B1, d1, C1, k1, rfl, oa, ob, oc, dj, hb4⟩
      simp only [hln, hlm, hlq] at oa ob oc ⊢
      have HO4 := Lib.hid (And.intro oa (And.intro ob (And.intro oc (And.intro dj hb4))))
      have HX4 := Lib.hid ((hb4.block _ (lt_of_block HX3.out)).trans HX3.out)
      have HZ4 := Lib.hid ((hb4.block _ (lt_of_block HZ3.out)).trans HZ3.out)
      clear oa ob oc dj hb4
      clear f0 f1 f2 f3 f4 f5 f6 fbl t0 t1 t2 t3 t4 t5 t6 r0 r1 r2 r3 r4 r5 r6 rbl y0 y1 y2 y3 y4 y5 y6
      obtain ⟨⟨f0, f1, f2, f3, f4, f5, f6⟩, fbl⟩ := seven HX4.out
      obtain ⟨t0, t1, t2, t3, t4, t5, t6⟩ := thaw7 HX4.out
      obtain ⟨⟨r0, r1, r2, r3, r4, r5, r6⟩, rbl⟩ := seven HZ4.out
      obtain ⟨y0, y1, y2, y3, y4, y5, y6⟩ := thaw7 HZ4.out
      obtain ⟨w5, hw5⟩ : ∃ z, set7 w4 b (.int .i64 s) (.int .i64 v) (.int .i64 need) (.int .i64 ph) (.slice A1 n c1) (.slice B1 m d1) (.slice C1 q k1) = z := ⟨_, rfl⟩
      have HF := Lib.hid (FO.start HX3.out HZ3.out HB3.out (by have := HLT.out; omega) HLT.out.1 HO4.out.2.2.2.2 HO4.out.1 HO4.out.2.1 HO4.out.2.2.1 HO4.out.2.2.2.1 hw5)
      unfold set7 at hw5
      obtain ⟨⟨p0, p1, p2, p3, p4, p5, p6⟩, pbl⟩ := seven HF.out.row
      clear f0 f1 f2 f3 f4 f5 f6 fbl t0 t1 t2 t3 t4 t5 t6 r0 r1 r2 r3 r4 r5 r6 rbl y0 y1 y2 y3 y4 y5 y6
      obtain ⟨⟨f0, f1, f2, f3, f4, f5, f6⟩, fbl⟩ := seven HX4.out
      obtain ⟨t0, t1, t2, t3, t4, t5, t6⟩ := thaw7 HX4.out
      obtain ⟨⟨r0, r1, r2, r3, r4, r5, r6⟩, rbl⟩ := seven HF.out.res
      obtain ⟨y0, y1, y2, y3, y4, y5, y6⟩ := thaw7 HF.out.res
      go_wp2
      (try rw [hw5])
      obtain ⟨hw, hT⟩ := two_end HF.out.res HF.out.oa HF.out.ob HF.out.oc HF.out.dj HF.out.bel (by have := HF.out.lb; omega) HF.out.lb.2.2.1 0
      unfold set7 at hw hT
      rw [HP.out]
      refine bodyPost_ret (v := .tuple #[.agg #[.int .i64 s, .int .i64 v, .int .i64 need, .int .i64 ph, .slice A1 n c1, .slice B1 m d1, .slice C1 q k1], .int .i64 0]) ?_ rfl hT
      rw [results_cell_tmp rfl]
      simp [asAddr, Result.andThen, loadv27 hw]
  · have kH := Lib.hid (decide_eq_false hH)
    have HP : Hid (P = (⟨s, v, need, ph, ms, ws, bs⟩, 140)) := by show _ = _; rw [← hP]; unfold Fq.lose; rw [if_neg hH]
    clear hP hH
    go_enter Try.func15, Try.ntmps15
    go_wp2_with fail
    (try rw [hw1]); (try rw [hw2]); (try rw [hb]); (try rw [hbb])
    clear hw1 hw2 hb hbb
    refine (has_is _ s v need ph i HR2.out kH.out).mono ?_
    rintro e' w3 ⟨rfl, hb3⟩
    have HX3 := Lib.hid ((hb3.block _ (lt_of_block HX2.out)).trans HX2.out)
    have HZ3 := Lib.hid ((hb3.block _ (lt_of_block HZ2.out)).trans HZ2.out)
    have HR3 := Lib.hid (HR2.out.below hb3 (Nat.le_refl _))
    have HB3 := Lib.hid (HB2.out.trans (hb3.mono HB2.out.size))
    clear hb3 f0 f1 f2 f3 f4 f5 f6 fbl
    obtain ⟨⟨f0, f1, f2, f3, f4, f5, f6⟩, fbl⟩ := seven HX3.out
    obtain ⟨t0, t1, t2, t3, t4, t5, t6⟩ := thaw7 HX3.out
    obtain ⟨⟨r0, r1, r2, r3, r4, r5, r6⟩, rbl⟩ := seven HZ3.out
    obtain ⟨y0, y1, y2, y3, y4, y5, y6⟩ := thaw7 HZ3.out
    go_wp2_with fail
    refine (alone_is _ s v need ph HR3.out).mono ?_
    rintro e' w4 ⟨A1, c1, B1, d1, C1, k1, rfl, oa, ob, oc, dj, hb4⟩
    simp only [hln, hlm, hlq] at oa ob oc ⊢
    have HO4 := Lib.hid (And.intro oa (And.intro ob (And.intro oc (And.intro dj hb4))))
    have HX4 := Lib.hid ((hb4.block _ (lt_of_block HX3.out)).trans HX3.out)
    have HZ4 := Lib.hid ((hb4.block _ (lt_of_block HZ3.out)).trans HZ3.out)
    clear oa ob oc dj hb4
    clear f0 f1 f2 f3 f4 f5 f6 fbl t0 t1 t2 t3 t4 t5 t6 r0 r1 r2 r3 r4 r5 r6 rbl y0 y1 y2 y3 y4 y5 y6
    obtain ⟨⟨f0, f1, f2, f3, f4, f5, f6⟩, fbl⟩ := seven HX4.out
    obtain ⟨t0, t1, t2, t3, t4, t5, t6⟩ := thaw7 HX4.out
    obtain ⟨⟨r0, r1, r2, r3, r4, r5, r6⟩, rbl⟩ := seven HZ4.out
    obtain ⟨y0, y1, y2, y3, y4, y5, y6⟩ := thaw7 HZ4.out
    go_wp2
    obtain ⟨hw, hT⟩ := two_end (w := w) (s := s) (v := v) (need := need) (ph := ph) HZ4.out HO4.out.1 HO4.out.2.1 HO4.out.2.2.1 HO4.out.2.2.2.1 (HB3.out.trans (HO4.out.2.2.2.2.mono HB3.out.size)) (by have := HLT.out; omega) (lt_of_block HZ3.out) 140
    unfold set7 at hw hT
    rw [HP.out]
    refine bodyPost_ret (v := .tuple #[.agg #[.int .i64 s, .int .i64 v, .int .i64 need, .int .i64 ph, .slice A1 n c1, .slice B1 m d1, .slice C1 q k1], .int .i64 140]) ?_ rfl hT
    rw [results_cell_tmp rfl]
    simp [asAddr, Result.andThen, loadv27 hw]
end
end Go.Proofs.Ytkkpfehgobanbaa
