/- Told. -/
import Derived.Test.YtkkpfehgobanbaaFndE
namespace Go.Proofs.Ytkkpfehgobanbaa
open Go.RowKit Go.Coop
set_option maxRecDepth 100000
theorem FO.app {w wr wz : World} {z b b2 : Nat} {s v need ph : Int} {A : Option Addr} {n c : Nat} {ms : List Int} {B : Option Addr} {m d : Nat} {ws : List Int} {C : Option Addr} {q k : Nat} {bs : List (List UInt8)} (h : FO w wr z b b2 s v need ph A n c ms B m d ws C q k bs) (hb : Go.Coop.But (C.map (·.block)).toList wr wz) (ht : ∀ i, C.map (·.block) = some i → z ≤ i ∧ ∃ cur, wr.heap[i]? = some (.cells cur 35 (0, 0))) (oc : MO wz z z C q k bs) : FO w wz z b b2 s v need ph A n c ms B m d ws C q k bs := by
  have hm : ∀ {i : Nat}, i ∈ (C.map (·.block)).toList → z ≤ i ∧ ∃ cur, wr.heap[i]? = some (.cells cur 35 (0, 0)) := fun {i} hi => ht i (by simpa using hi)
  have hn : ∀ {X : Option Addr} {n c : Nat} {l : List Value}, OwnV wr z 3 X n c l → ∀ i, X.map (·.block) = some i → i ∉ (C.map (·.block)).toList := fun ho i hi hh => by
    obtain ⟨_, cur, hc⟩ := hm hh
    obtain ⟨cu, hcu⟩ := ho.typ hi
    rw [hc] at hcu
    injection hcu with hcu
    injection hcu with _ hcu _
    exact absurd hcu (by decide)
  exact ⟨hb.cells h.row (fun hh => by have := (hm hh).1; have := h.lb; omega), hb.cells h.res (fun hh => by have := (hm hh).1; have := h.lb; omega), h.oa.but hb (hn h.oa), h.ob.but hb (hn h.ob), oc, h.dj, h.bel.trans (hb.below (B := w.heap.size) h.bel.size (fun i hi => by have := (hm hi).1; have := h.lb; omega)), ⟨h.lb.1, h.lb.2.1, h.lb.2.2.1, Nat.le_trans h.lb.2.2.2 hb.size⟩⟩
theorem FO.b6 {w wr : World} {z b b2 : Nat} {s v need ph : Int} {A : Option Addr} {n c : Nat} {ms : List Int} {B : Option Addr} {m d : Nat} {ws : List Int} {C : Option Addr} {q k : Nat} {bs : List (List UInt8)} (h : FO w wr z b b2 s v need ph A n c ms B m d ws C q k bs) : wr.cell? ⟨b, 6, none⟩ = some (.slice C q k) := (seven h.row).1.2.2.2.2.2.2
theorem told_app {w w7 w8 : World} {z b b2 : Nat} {s v need ph : Int} {A : Option Addr} {n c : Nat} {ms : List Int} {B : Option Addr} {m d : Nat} {ws : List Int} {C : Option Addr} {q k : Nat} {bs : List (List UInt8)} {C2 : Option Addr} {q2 k2 : Nat} {bs2 : List (List UInt8)} {x : Int} (h : FO w w7 z b b2 s v need ph A n c ms B m d ws C q k bs) (hc : MO w7 z z C2 q2 k2 bs2) {B2 : Option Addr} {d2 : Nat} (ho : OwnV w8 z 3 B2 (m + 1) d2 (ws.map IV ++ [.int .i64 x])) (hg : (w7.alloc (.cells #[.int .i64 x] 3)).grownBy w8 (B.map (·.block))) (hat : B2.map (·.block) = B.map (·.block) ∨ B2.map (·.block) = some (w7.alloc (.cells #[.int .i64 x] 3)).heap.size) :
    ∃ w9, (w8.setCell ⟨b, 5, none⟩ (.slice B2 (m + 1) d2)).setCell ⟨b, 6, none⟩ (.slice C2 q2 k2) = w9 ∧ Hid (FO w w9 z b b2 s v need ph A n c ms B2 (m + 1) d2 (ws ++ [x]) C2 q2 k2 bs2) ∧ w8.heap[b]? = some (.cells #[.int .i64 s, .int .i64 v, .int .i64 need, .int .i64 ph, .slice A n c, .slice B m d, .slice C q k] 27 (0, 0)) := by
  have hb : Go.Coop.But (B.map (·.block)).toList w7 w8 := by
    refine (Go.Coop.But.of_below ((Below.refl _ _).alloc (Nat.le_refl _) (.cells #[.int .i64 x] 3))).trans ⟨hg.os, hg.tape, hg.output, hg.size, fun j hj hm => hg.block j hj (fun e => hm (by simp [← e]))⟩
  have hm : ∀ {i : Nat}, i ∈ (B.map (·.block)).toList → z ≤ i ∧ ∃ cur, w7.heap[i]? = some (.cells cur 3 (0, 0)) := fun {i} hi => by
    have hi : B.map (·.block) = some i := by simpa using hi
    exact ⟨(h.ob.block i hi).1, h.ob.typ hi⟩
  have hne : ∀ {E i : Nat} {cur : Array Value}, w7.heap[i]? = some (.cells cur E (0, 0)) → E ≠ 3 → i ∉ (B.map (·.block)).toList := fun hi hE hh => by
    obtain ⟨_, cu, hcu⟩ := hm hh
    rw [hcu] at hi
    injection hi with hi
    injection hi with _ hi _
    exact hE hi.symm
  have hbel := h.bel.trans (hb.below (B := w.heap.size) h.bel.size (fun i hi => by have := (hm hi).1; have := h.lb; omega))
  obtain ⟨vs, hv, _⟩ := hc.out
  have hx8 := hb.cells h.row (hne h.row (by decide))
  have hz8 := hb.cells h.res (hne h.res (by decide))
  have oa8 := h.oa.but hb (fun i hi hh => h.dj i hi (by simpa using hh))
  have oc8 := mo_but hc hb (fun j hj => by obtain ⟨c2, h2⟩ := hv.typ hj; exact hne h2 (by decide)) (fun j cur hj _ => hne hj (by decide))
  have ob8 : OwnV w8 z 3 B2 (m + 1) d2 ((ws ++ [x]).map IV) := by rw [List.map_append]; exact ho
  have dj8 : ∀ i, A.map (·.block) = some i → B2.map (·.block) ≠ some i := fun i hi he => by
    rcases hat with e | e
    · exact h.dj i hi (e ▸ he)
    · rw [e] at he
      injection he with he
      have := (h.oa.block i hi).2
      simp at he
      omega
  have hz9 : z ≤ w8.heap.size := Nat.le_trans h.lb.2.2.2 hb.size
  obtain ⟨w9, hw9⟩ : ∃ u, (w8.setCell ⟨b, 5, none⟩ (.slice B2 (m + 1) d2)).setCell ⟨b, 6, none⟩ (.slice C2 q2 k2) = u := ⟨_, rfl⟩
  have hr9 := put6 (u := .slice C2 q2 k2) (put5 (u := .slice B2 (m + 1) d2) hx8)
  rw [hw9] at hr9
  have hbt : Go.Coop.But [b] w8 w9 := hw9 ▸ ((Go.Coop.But.refl _ _).setCell (by simp) _).setCell (by simp) _
  have hzb : b < z := by have := h.lb; omega
  have hn : ∀ {X : Option Addr} {n c E : Nat} {l : List Value}, OwnV w8 z E X n c l → ∀ i, X.map (·.block) = some i → i ∉ [b] := fun ho i hi hm => by have := (ho.block i hi).1; simp at hm; omega
  obtain ⟨vs8, hv8, _⟩ := oc8.out
  exact ⟨w9, hw9, ⟨hr9, hbt.cells hz8 (by have := h.lb; simp; omega), oa8.but hbt (hn oa8), ob8.but hbt (hn ob8), mo_but oc8 hbt (hn hv8) (fun i cur hi _ => row27_not5 hx8 hi), dj8, hbel.trans (hbt.below (B := w.heap.size) hbel.size (by intro i hi; simp at hi; have := h.lb; omega)), ⟨h.lb.1, h.lb.2.1, h.lb.2.2.1, Nat.le_trans hz9 hbt.size⟩⟩, hx8⟩
section
variable (w : World)
set_option maxHeartbeats 8000000 in
theorem told_is (s v need ph i e : Int) {A : Option Addr} {n c : Nat} {ms : List Int} {B : Option Addr} {m d : Nat} {ws : List Int} {C : Option Addr} {q k : Nat} {bs : List (List UInt8)} (h : FR w A n ms B m ws C q bs) {X : Option Addr} {xl xd : Nat} {l : List UInt8} (hx : Rd w X xl l) (hxl : xl ≤ 140737488355328) {P : Fq × Int} (hP : Fq.told ⟨s, v, need, ph, ms, ws, bs⟩ i e l = P) : Calls Try.prog 10 #[.agg #[.int .i64 s, .int .i64 v, .int .i64 need, .int .i64 ph, .slice A n c, .slice B m d, .slice C q k], .int .i64 i, .int .i64 e, .slice X xl xd] w (TwoF w P) := by
  obtain ⟨hln, hlm, hlq⟩ := h.lens
  have hqs := h.le.2.2
  have hms := h.le.2.1
  obtain ⟨w1, hw1⟩ : ∃ z, w.alloc (.cells #[.int .i64 s, .int .i64 v, .int .i64 need, .int .i64 ph, .slice A n c, .slice B m d, .slice C q k] 27) = z := ⟨_, rfl⟩
  obtain ⟨w2, hw2⟩ : ∃ z, w1.alloc (.cells #[.int .i64 0, .int .i64 0, .int .i64 0, .int .i64 0, .slice none 0 0, .slice none 0 0, .slice none 0 0] 27) = z := ⟨_, rfl⟩
  obtain ⟨hb1, hx1⟩ := box_mk hw1
  obtain ⟨hb2, hx2⟩ := box_mk hw2
  obtain ⟨b, hb⟩ : ∃ b, w.heap.size = b := ⟨_, rfl⟩
  obtain ⟨b2, hbb⟩ : ∃ b, w1.heap.size = b := ⟨_, rfl⟩
  have hlt : b < b2 := by rw [← hb, ← hbb]; exact lt_of_block hx1
  have hx12 := (hb2.block _ (lt_of_block hx1)).trans hx1
  rw [hb] at hx12
  rw [hbb] at hx2
  have hB2 := hb1.trans (hb2.mono hb1.size)
  have HX2 := Lib.hid hx12
  have HZ2 := Lib.hid hx2
  have HB2 := Lib.hid hB2
  have HR2 := Lib.hid (h.below hB2 (Nat.le_refl _))
  have HLT := Lib.hid (And.intro hlt hb)
  have hne : b2 ≠ b := by omega
  have hne' : b ≠ b2 := by omega
  obtain ⟨⟨f0, f1, f2, f3, f4, f5, f6⟩, fbl⟩ := seven hx12
  clear hlt hx12 hx2 hB2 hb1 hb2 hx1
  have HRW := Lib.hid h
  have HRX := Lib.hid hx
  have HXL := Lib.hid hx.len
  clear h hx
  by_cases hH : HasF ⟨s, v, need, ph, ms, ws, bs⟩ i
  · have kH := Lib.hid (decide_eq_true hH)
    obtain ⟨x, rfl⟩ : ∃ x : Nat, i = (x : Int) := ⟨i.toNat, by have := hH.2.1; omega⟩
    have hxn : x < n := by have := hH.2.2; simp only [hln] at this; omega
    obtain ⟨y, hy⟩ : ∃ y, ms[x]? = some y := ⟨_, List.getElem?_eq_getElem (by omega)⟩
    have hgd : ms.getD (x : Int).toNat 0 = y := by simp only [Int.toNat_natCast, List.getD_eq_getElem?_getD, hy, Option.getD_some]
    have HMAY : Hid (1 ≤ need ∧ need ≤ (n : Int) ∧ n ≤ 255) := by have h1 := hH.1.may.2.2; simp only [hln] at h1; show _ ∧ _; omega
    have HY := Lib.hid (And.intro hy hxn)
    have hi1 : (0 : Int) ≤ (x : Int) := by omega
    have hi2 : (x : Int) < (n : Int) := by omega
    clear hy hxn
    by_cases hp : ph = 1
    · subst hp
      by_cases hy2 : y = 0
      · subst hy2
        have HH := Lib.hid (And.intro hH hgd)
        have HPP := Lib.hid hP
        clear hP hH hgd
        go_enter Try.func10, Try.ntmps10
        go_wp2_with fail
        (try rw [hw1]); (try rw [hw2]); (try rw [hb]); (try rw [hbb])
        clear hw1 hw2 hb hbb
        refine (has_is _ s v need 1 (x : Int) HR2.out kH.out).mono ?_
        rintro e' w3 ⟨rfl, hb3⟩
        have HX3 := Lib.hid ((hb3.block _ (lt_of_block HX2.out)).trans HX2.out)
        have HZ3 := Lib.hid ((hb3.block _ (lt_of_block HZ2.out)).trans HZ2.out)
        have HR3 := Lib.hid (HR2.out.below hb3 (Nat.le_refl _))
        have HB3 := Lib.hid (HB2.out.trans (hb3.mono HB2.out.size))
        clear hb3 f0 f1 f2 f3 f4 f5 f6 fbl
        obtain ⟨⟨f0, f1, f2, f3, f4, f5, f6⟩, fbl⟩ := seven HX3.out
        obtain ⟨t0, t1, t2, t3, t4, t5, t6⟩ := thaw7 HX3.out
        obtain ⟨⟨r0, r1, r2, r3, r4, r5, r6⟩, rbl⟩ := seven HZ3.out
        obtain ⟨y0, y1, y2, y3, y4, y5, y6⟩ := thaw7 HZ3.out
        go_wp2_with fail
        refine (alone_is _ s v need 1 HR3.out).mono ?_
        rintro e' w4 ⟨A1, c1, B1, d1, C1, k1, rfl, oa, ob, oc, dj, hb4⟩
        simp only [hln, hlm, hlq] at oa ob oc ⊢
        have HO4 := Lib.hid (And.intro oa (And.intro ob (And.intro oc (And.intro dj hb4))))
        have HX4 := Lib.hid ((hb4.block _ (lt_of_block HX3.out)).trans HX3.out)
        have HZ4 := Lib.hid ((hb4.block _ (lt_of_block HZ3.out)).trans HZ3.out)
        clear oa ob oc dj hb4
        clear f0 f1 f2 f3 f4 f5 f6 fbl t0 t1 t2 t3 t4 t5 t6 r0 r1 r2 r3 r4 r5 r6 rbl y0 y1 y2 y3 y4 y5 y6
        obtain ⟨⟨f0, f1, f2, f3, f4, f5, f6⟩, fbl⟩ := seven HX4.out
        obtain ⟨t0, t1, t2, t3, t4, t5, t6⟩ := thaw7 HX4.out
        obtain ⟨⟨r0, r1, r2, r3, r4, r5, r6⟩, rbl⟩ := seven HZ4.out
        obtain ⟨y0, y1, y2, y3, y4, y5, y6⟩ := thaw7 HZ4.out
        obtain ⟨w5, hw5⟩ : ∃ z, set7 w4 b (.int .i64 s) (.int .i64 v) (.int .i64 need) (.int .i64 1) (.slice A1 n c1) (.slice B1 m d1) (.slice C1 q k1) = z := ⟨_, rfl⟩
        have HF := Lib.hid (FO.start HX3.out HZ3.out HB3.out (by have := HLT.out; omega) HLT.out.1 HO4.out.2.2.2.2 HO4.out.1 HO4.out.2.1 HO4.out.2.2.1 HO4.out.2.2.2.1 hw5)
        unfold set7 at hw5
        obtain ⟨⟨p0, p1, p2, p3, p4, p5, p6⟩, pbl⟩ := seven HF.out.row
        obtain ⟨g, rfl, hfz, hcg⟩ := HF.out.addr (show 0 < n by omega)
        have hcy := hcg x 0 HY.out.1
        have hfx := hfz x
        clear hfz hcg
        obtain ⟨w6, hw6⟩ : ∃ z, w5.setCell ⟨g, x, none⟩ (.int .i64 2) = z := ⟨_, rfl⟩
        have HF6 := Lib.hid (HF.out.mark hw6)
        have HFX : Hid (∀ u, FO w u w3.heap.size b b2 s v need 1 (some ⟨g, 0, none⟩) n c1 (ms.set x 2) B1 m d1 ws C1 q k1 bs → u.cell? ⟨g, x, none⟩ = some (.int .i64 2) ∧ u.frozen? ⟨g, x, none⟩ = false) := fun u hu => by
          obtain ⟨g', e1, hf', hc'⟩ := hu.addr (show 0 < n by omega)
          injection e1 with e1
          injection e1 with e1 _ _
          subst e1
          exact ⟨hc' x 2 (by rw [List.getElem?_set_self (by omega)]), hf' x⟩
        clear f0 f1 f2 f3 f4 f5 f6 fbl t0 t1 t2 t3 t4 t5 t6 r0 r1 r2 r3 r4 r5 r6 rbl y0 y1 y2 y3 y4 y5 y6
        obtain ⟨⟨f0, f1, f2, f3, f4, f5, f6⟩, fbl⟩ := seven HX4.out
        obtain ⟨t0, t1, t2, t3, t4, t5, t6⟩ := thaw7 HX4.out
        go_wp2_with fail
        (try rw [hw5]); (try rw [hw6])
        clear hw5 hw6 f0 f1 f2 f3 f4 f5 f6 fbl t0 t1 t2 t3 t4 t5 t6 hcy hfx p0 p1 p2 p3 p4 p5 p6 pbl HF HX4 HZ4
        obtain ⟨y0, h_y0⟩ : ∃ z, w6.drew = z := ⟨_, rfl⟩
        have HF0 := Lib.hid (HF6.out.below (h_y0 ▸ (Below.refl _ _).drew))
        have HXR := Lib.hid (HRX.out.below HF0.out.bel (Nat.le_refl _))
        refine wp_region_held_drew (S := fun u => u.cell? ⟨b, 6, none⟩ = some (.slice C1 q k1)) (by kernel_rfl) (by show _ = _; rw [h_y0]; exact HF0.out.b6) (fun hHeld => ?_)
        rw [h_y0]
        clear h_y0 hHeld
        have hHeld := HF0.out.b6
        refine wpAnyH_take (i := 0) (oi := ⟨some 35, _, _, _, _, _⟩) (v := ?_) rfl (by kernel_rfl) (by kernel_rfl) (by kernel_rfl) (fun _ _ _ h => h) (Or.inl ⟨by rfl, ?_⟩) (by assumption) ?_
        rotate_left
        · intro w hSw
          (try dsimp only at hSw)
          go_simp
          all_goals (with_reducible rfl)
        try simp only [Act.put, List.setIfInBounds_toArray, List.set_cons_zero, List.set_cons_succ]
        refine wpAnyH_take (i := 1) (oi := ⟨some 36, _, _, _, _, _⟩) (v := ?_) rfl (by kernel_rfl) (by kernel_rfl) (by kernel_rfl) (fun _ _ _ h => h) (Or.inl ⟨by rfl, ?_⟩) (by assumption) ?_
        rotate_left
        · intro w hSw
          (try dsimp only at hSw)
          go_simp
          all_goals (with_reducible rfl)
        try simp only [Act.put, List.setIfInBounds_toArray, List.set_cons_zero, List.set_cons_succ]
        refine wpAnyH_take (i := 2) (oi := ⟨some 37, _, _, _, _, _⟩) (v := ?_) rfl (by kernel_rfl) (by kernel_rfl) (by kernel_rfl) (fun _ _ _ h => h) (Or.inl ⟨by rfl, ?_⟩) (by assumption) ?_
        rotate_left
        · intro w hSw
          (try dsimp only at hSw)
          go_simp
          all_goals (with_reducible rfl)
        try simp only [Act.put, List.setIfInBounds_toArray, List.set_cons_zero, List.set_cons_succ]
        refine wpAnyH_ready (rs := [3]) (by kernel_rfl) (by simp) (AllReadyH.cons (o := ⟨some 38, _, _, _, _, _⟩) rfl (fun K hK => ?_) AllReadyH.nil)
        go_simp
        refine (cloneB_is X xl xd l y0 HXR.out hxl).mono ?_
        rintro e' y1 ⟨X1, e1, rfl, ho1, hb1⟩
        have HF1 := Lib.hid (HF0.out.below hb1)
        have HO1 := Lib.hid (ho1.lower (show w3.heap.size ≤ y0.heap.size from HF0.out.lb.2.2.2))
        clear ho1 hb1
        refine hK.out _ _ (HF1.out.b6) (fun hHeld => ?_)
        clear hK K
        try simp only [Act.put, List.setIfInBounds_toArray, List.set_cons_zero, List.set_cons_succ]
        refine wpAnyH_ready (rs := [4]) (by kernel_rfl) (by simp) (AllReadyH.cons (o := ⟨some 39, _, _, _, _, _⟩) rfl (fun K hK => ?_) AllReadyH.nil)
        go_simp
        obtain ⟨y2, h_y2⟩ : ∃ z, y1.alloc (.cells #[.slice X1 xl e1] 35) = z := ⟨_, rfl⟩
        have hb2' : Below y1.heap.size y1 y2 := h_y2 ▸ (Below.refl _ _).alloc (Nat.le_refl _) _
        have HF2 := Lib.hid (HF1.out.below hb2')
        have HO2 := Lib.hid (HO1.out.below hb2' (Nat.le_refl _))
        have HR2' : Hid (RdV y2 (some ⟨y1.heap.size, 0, none⟩) 1 [.slice X1 xl e1]) := h_y2 ▸ RdV.one _ _ _ _
        rw [h_y2]
        clear hb2' h_y2
        refine hK.out _ _ (HF2.out.b6) (fun hHeld => ?_)
        clear hK K
        try simp only [Act.put, List.setIfInBounds_toArray, List.set_cons_zero, List.set_cons_succ]
        refine wpAnyH_ready (rs := [5]) (by kernel_rfl) (by simp) (AllReadyH.cons (o := ⟨some 40, _, _, _, _, _⟩) rfl (fun K hK => ?_) AllReadyH.nil)
        refine step_appM rfl (.tmp 36) (.tmp 39) rfl rfl HF2.out.oc rfl HXL.out HR2'.out HO2.out hqs HF2.out.lb.2.2.2 ?_
        intro C2 k2 y3 hc2 hc1 hbt hty
        have HF3 := Lib.hid (HF2.out.app hbt hty hc1)
        have HC2 := Lib.hid hc2
        clear hc2 hc1 hbt hty
        refine hK.out _ _ HF3.out.b6 (fun hHeld => ?_)
        clear hK K
        try simp only [Act.put, List.setIfInBounds_toArray, List.set_cons_zero, List.set_cons_succ]
        refine wpAnyH_take (i := 6) (oi := ⟨some 10, _, _, _, _, _⟩) (v := ?_) rfl (by kernel_rfl) (by kernel_rfl) (by kernel_rfl) (fun _ _ _ h => h) (Or.inl ⟨by rfl, ?_⟩) (by assumption) ?_
        rotate_left
        · intro w hSw
          (try dsimp only at hSw)
          go_simp
          all_goals (with_reducible rfl)
        try simp only [Act.put, List.setIfInBounds_toArray, List.set_cons_zero, List.set_cons_succ]
        refine wpAnyH_done (by kernel_rfl) ?_ _
        clear HF0 HF1 HF2 HF6 HO1 HO2 HR2' hHeld
        skip
        by_cases he : e = 0
        · subst he
          obtain ⟨lv, hlv⟩ : ∃ z, levelB (bs ++ [l]) = z := ⟨_, rfl⟩
          have HLV := Lib.hid hlv
          clear hlv
          go_wp2_with fail
          refine (flevel_any C2 (q + 1) k2 (bs ++ [l]) _ HC2.out.mr (by omega) (fun r hr => by
            rcases List.mem_append.1 hr with h1 | h1
            · exact HRW.out.sm r h1
            · simp at h1; subst h1; rw [HXL.out]; exact hxl)).mono ?_
          rintro e' w' ⟨rfl, rfl⟩
          rw [HLV.out]
          cases lv with
          | false =>
            have HLEV : Hid (¬ ((0 : Int) = 0 ∧ levelB (bs ++ [l]) = true)) := fun h => by rw [HLV.out] at h; exact absurd h.2 (by decide)
            obtain ⟨p, hp⟩ : ∃ p, phF need (ms.set x 2) = p := ⟨_, rfl⟩
            have HPH := Lib.hid hp
            clear hp
            have HP : Hid (P = (⟨s, v, need, p, ms.set x 2, ws, bs⟩, 0)) := by
              show _ = _
              rw [← HPP.out, ← HPH.out]
              unfold Fq.told
              rw [if_pos HH.out.1, if_pos ⟨rfl, HH.out.2⟩]
              rw [if_neg HLEV.out]
              rfl
            obtain ⟨⟨f0, f1, f2, f3, f4, f5, f6⟩, fbl⟩ := seven HF3.out.row
            obtain ⟨t0, t1, t2, t3, t4, t5, t6⟩ := thaw7 HF3.out.row
            obtain ⟨⟨r0, r1, r2, r3, r4, r5, r6⟩, rbl⟩ := seven HF3.out.res
            obtain ⟨y0, y1, y2, y3, y4, y5, y6⟩ := thaw7 HF3.out.res
            go_wp2_with fail
            refine (phase_is _ s v need 1 B1 m d1 C1 q k1 HF3.out.oa.rd (by have := HMAY.out; omega) (by have := HMAY.out; omega) HPH.out).mono ?_
            rintro e' z1 ⟨rfl, hz1⟩
            have HZF := Lib.hid (HF3.out.below hz1)
            clear hz1 f0 f1 f2 f3 f4 f5 f6 fbl t0 t1 t2 t3 t4 t5 t6 r0 r1 r2 r3 r4 r5 r6 rbl y0 y1 y2 y3 y4 y5 y6
            obtain ⟨z2, hz2⟩ : ∃ z, z1.setCell ⟨b, 3, none⟩ (.int .i64 p) = z := ⟨_, rfl⟩
            have hrz := put3 (u := .int .i64 p) HZF.out.row
            rw [hz2] at hrz
            have HZ2F := Lib.hid (HZF.out.re (hz2 ▸ (Go.Coop.But.refl _ _).setCell (by simp) _) hrz HZF.out.oa HZF.out.ob HZF.out.oc HZF.out.dj)
            clear hrz
            obtain ⟨⟨f0, f1, f2, f3, f4, f5, f6⟩, fbl⟩ := seven HZF.out.row
            obtain ⟨t0, t1, t2, t3, t4, t5, t6⟩ := thaw7 HZF.out.row
            obtain ⟨⟨o0, o1, o2, o3, o4, o5, o6⟩, obl⟩ := seven HZ2F.out.row
            obtain ⟨⟨r0, r1, r2, r3, r4, r5, r6⟩, rbl⟩ := seven HZ2F.out.res
            obtain ⟨y0, y1, y2, y3, y4, y5, y6⟩ := thaw7 HZ2F.out.res
            go_wp2
            (try rw [hz2])
            obtain ⟨hw, hT⟩ := two_end HZ2F.out.res HZ2F.out.oa HZ2F.out.ob HZ2F.out.oc HZ2F.out.dj HZ2F.out.bel (by have := HZ2F.out.lb; omega) HZ2F.out.lb.2.2.1 0
            unfold set7 at hw hT
            rw [HP.out]
            refine bodyPost_ret (v := .tuple #[.agg #[.int .i64 s, .int .i64 v, .int .i64 need, .int .i64 p, .slice (some ⟨g, 0, none⟩) n c1, .slice B1 m d1, .slice C1 q k1], .int .i64 0]) ?_ rfl hT
            rw [results_cell_tmp rfl]
            simp [asAddr, Result.andThen, loadv27 hw]
          | true =>
            have HLEV : Hid ((0 : Int) = 0 ∧ levelB (bs ++ [l]) = true) := ⟨rfl, HLV.out⟩
            obtain ⟨hcx, hfx⟩ := HFX.out _ HF3.out
            obtain ⟨w7, hw7⟩ : ∃ z, y3.setCell ⟨g, x, none⟩ (.int .i64 1) = z := ⟨_, rfl⟩
            have HF7 := Lib.hid (HF3.out.mark hw7)
            have hss : (ms.set x 2).set x 1 = ms.set x 1 := List.set_set ..
            rw [hss] at HF7
            have HC7 : Hid (MO w7 w3.heap.size w3.heap.size C2 (q + 1) k2 (bs ++ [l])) := by
              obtain ⟨cu, hcu⟩ := HF3.out.oa.typ (j := g) rfl
              have hne : ∀ {E i : Nat} {cur : Array Value}, y3.heap[i]? = some (.cells cur E (0, 0)) → E ≠ 3 → i ∉ [g] := fun hi hE hm => by
                simp at hm
                subst hm
                rw [hcu] at hi
                injection hi with hi
                injection hi with _ hi _
                exact hE hi.symm
              obtain ⟨vs, hv, _⟩ := HC2.out.out
              exact mo_but HC2.out (hw7 ▸ (Go.Coop.But.refl _ _).setCell (by simp) _) (fun j hj => by obtain ⟨c2, h2⟩ := hv.typ hj; exact hne h2 (by decide)) (fun j cur hj _ => hne hj (by decide))
            obtain ⟨⟨f0, f1, f2, f3, f4, f5, f6⟩, fbl⟩ := seven HF3.out.row
            obtain ⟨⟨o0, o1, o2, o3, o4, o5, o6⟩, obl⟩ := seven HF7.out.row
            obtain ⟨t0, t1, t2, t3, t4, t5, t6⟩ := thaw7 HF7.out.row
            clear hss
            go_wp2_with (at_builtin; refine wpList_appV _ rfl (.tmp 52) (.tmp 54) _ rfl w3.heap.size 3 (.int .i64 0) 8 Try.underlying24 info3 rfl rfl (HF7.out.ob.below ((Below.refl _ _).alloc (Nat.le_refl _) _) (Nat.le_refl _)) rfl (m := 1) (RdV.new _ [.int .i64 (x : Int)] 3 (0, 0)) (by intro u hu; simp at hu; subst hu; rfl) (by omega) (by omega) (by have := HF7.out.lb.2.2.2; simp; omega) (m + 1) rfl ?_; intro B2 d2 w8 ho hg8 hat; obtain ⟨w9, hw9, HF9, hx8⟩ := told_app HF7.out HC7.out ho hg8 hat; obtain ⟨⟨j0, j1, j2, j3, j4, j5, j6⟩, jbl⟩ := seven hx8; obtain ⟨l0, l1, l2, l3, l4, l5, l6⟩ := thaw7 hx8; obtain ⟨⟨i0, i1, i2, i3, i4, i5, i6⟩, ibl⟩ := seven HF9.out.row; clear ho hg8 hat hx8)
            clear o0 o1 o2 o3 o4 o5 o6 obl t0 t1 t2 t3 t4 t5 t6 j0 j1 j2 j3 j4 j5 j6 jbl l0 l1 l2 l3 l4 l5 l6 i0 i1 i2 i3 i4 i5 i6 ibl f0 f1 f2 f3 f4 f5 f6 fbl hcx hfx
            obtain ⟨p, hp⟩ : ∃ p, phF need (ms.set x 1) = p := ⟨_, rfl⟩
            have HPH := Lib.hid hp
            clear hp
            have HP : Hid (P = (⟨s, v, need, p, ms.set x 1, ws ++ [(x : Int)], bs ++ [l]⟩, 0)) := by
              show _ = _
              rw [← HPP.out, ← HPH.out]
              unfold Fq.told
              rw [if_pos HH.out.1, if_pos ⟨rfl, HH.out.2⟩]
              refine (if_pos ?_).trans rfl
              exact ⟨rfl, HLV.out⟩
            obtain ⟨⟨f0, f1, f2, f3, f4, f5, f6⟩, fbl⟩ := seven HF9.out.row
            obtain ⟨t0, t1, t2, t3, t4, t5, t6⟩ := thaw7 HF9.out.row
            obtain ⟨⟨r0, r1, r2, r3, r4, r5, r6⟩, rbl⟩ := seven HF9.out.res
            obtain ⟨y0, y1, y2, y3, y4, y5, y6⟩ := thaw7 HF9.out.res
            (try rw [hw9]); clear hw9
            refine (phase_is _ s v need 1 B2 (m + 1) d2 C2 (q + 1) k2 HF9.out.oa.rd (by have := HMAY.out; omega) (by have := HMAY.out; omega) HPH.out).mono ?_
            rintro e' z1 ⟨rfl, hz1⟩
            have HZF := Lib.hid (HF9.out.below hz1)
            clear hz1 f0 f1 f2 f3 f4 f5 f6 fbl t0 t1 t2 t3 t4 t5 t6 r0 r1 r2 r3 r4 r5 r6 rbl y0 y1 y2 y3 y4 y5 y6
            obtain ⟨z2, hz2⟩ : ∃ z, z1.setCell ⟨b, 3, none⟩ (.int .i64 p) = z := ⟨_, rfl⟩
            have hrz := put3 (u := .int .i64 p) HZF.out.row
            rw [hz2] at hrz
            have HZ2F := Lib.hid (HZF.out.re (hz2 ▸ (Go.Coop.But.refl _ _).setCell (by simp) _) hrz HZF.out.oa HZF.out.ob HZF.out.oc HZF.out.dj)
            clear hrz
            obtain ⟨⟨f0, f1, f2, f3, f4, f5, f6⟩, fbl⟩ := seven HZF.out.row
            obtain ⟨t0, t1, t2, t3, t4, t5, t6⟩ := thaw7 HZF.out.row
            obtain ⟨⟨o0, o1, o2, o3, o4, o5, o6⟩, obl⟩ := seven HZ2F.out.row
            obtain ⟨⟨r0, r1, r2, r3, r4, r5, r6⟩, rbl⟩ := seven HZ2F.out.res
            obtain ⟨y0, y1, y2, y3, y4, y5, y6⟩ := thaw7 HZ2F.out.res
            go_wp2
            (try rw [hz2])
            obtain ⟨hw, hT⟩ := two_end HZ2F.out.res HZ2F.out.oa HZ2F.out.ob HZ2F.out.oc HZ2F.out.dj HZ2F.out.bel (by have := HZ2F.out.lb; omega) HZ2F.out.lb.2.2.1 0
            unfold set7 at hw hT
            rw [HP.out]
            refine bodyPost_ret (v := .tuple #[.agg #[.int .i64 s, .int .i64 v, .int .i64 need, .int .i64 p, .slice (some ⟨g, 0, none⟩) n c1, .slice B2 (m + 1) d2, .slice C2 (q + 1) k2], .int .i64 0]) ?_ rfl hT
            rw [results_cell_tmp rfl]
            simp [asAddr, Result.andThen, loadv27 hw]
        · have heb : (e == 0) = false := by simpa using he
          have HLEV : Hid (¬ (e = 0 ∧ levelB (bs ++ [l]) = true)) := fun h => he h.1
          clear he
          obtain ⟨p, hp⟩ : ∃ p, phF need (ms.set x 2) = p := ⟨_, rfl⟩
          have HPH := Lib.hid hp
          clear hp
          have HP : Hid (P = (⟨s, v, need, p, ms.set x 2, ws, bs⟩, 0)) := by
            show _ = _
            rw [← HPP.out, ← HPH.out]
            unfold Fq.told
            rw [if_pos HH.out.1, if_pos ⟨rfl, HH.out.2⟩]
            rw [if_neg HLEV.out]
            rfl
          obtain ⟨⟨f0, f1, f2, f3, f4, f5, f6⟩, fbl⟩ := seven HF3.out.row
          obtain ⟨t0, t1, t2, t3, t4, t5, t6⟩ := thaw7 HF3.out.row
          obtain ⟨⟨r0, r1, r2, r3, r4, r5, r6⟩, rbl⟩ := seven HF3.out.res
          obtain ⟨y0, y1, y2, y3, y4, y5, y6⟩ := thaw7 HF3.out.res
          go_wp2_with fail
          refine (phase_is _ s v need 1 B1 m d1 C1 q k1 HF3.out.oa.rd (by have := HMAY.out; omega) (by have := HMAY.out; omega) HPH.out).mono ?_
          rintro e' z1 ⟨rfl, hz1⟩
          have HZF := Lib.hid (HF3.out.below hz1)
          clear hz1 f0 f1 f2 f3 f4 f5 f6 fbl t0 t1 t2 t3 t4 t5 t6 r0 r1 r2 r3 r4 r5 r6 rbl y0 y1 y2 y3 y4 y5 y6
          obtain ⟨z2, hz2⟩ : ∃ z, z1.setCell ⟨b, 3, none⟩ (.int .i64 p) = z := ⟨_, rfl⟩
          have hrz := put3 (u := .int .i64 p) HZF.out.row
          rw [hz2] at hrz
          have HZ2F := Lib.hid (HZF.out.re (hz2 ▸ (Go.Coop.But.refl _ _).setCell (by simp) _) hrz HZF.out.oa HZF.out.ob HZF.out.oc HZF.out.dj)
          clear hrz
          obtain ⟨⟨f0, f1, f2, f3, f4, f5, f6⟩, fbl⟩ := seven HZF.out.row
          obtain ⟨t0, t1, t2, t3, t4, t5, t6⟩ := thaw7 HZF.out.row
          obtain ⟨⟨o0, o1, o2, o3, o4, o5, o6⟩, obl⟩ := seven HZ2F.out.row
          obtain ⟨⟨r0, r1, r2, r3, r4, r5, r6⟩, rbl⟩ := seven HZ2F.out.res
          obtain ⟨y0, y1, y2, y3, y4, y5, y6⟩ := thaw7 HZ2F.out.res
          go_wp2
          (try rw [hz2])
          obtain ⟨hw, hT⟩ := two_end HZ2F.out.res HZ2F.out.oa HZ2F.out.ob HZ2F.out.oc HZ2F.out.dj HZ2F.out.bel (by have := HZ2F.out.lb; omega) HZ2F.out.lb.2.2.1 0
          unfold set7 at hw hT
          rw [HP.out]
          refine bodyPost_ret (v := .tuple #[.agg #[.int .i64 s, .int .i64 v, .int .i64 need, .int .i64 p, .slice (some ⟨g, 0, none⟩) n c1, .slice B1 m d1, .slice C1 q k1], .int .i64 0]) ?_ rfl hT
          rw [results_cell_tmp rfl]
          simp [asAddr, Result.andThen, loadv27 hw]
      · have HP : Hid (P = (⟨s, v, need, 1, ms, ws, bs⟩, 0)) := by show _ = _; rw [← hP]; unfold Fq.told; rw [if_pos hH, if_neg (fun h => hy2 (hgd ▸ h.2))] <;> rfl
        clear hP hH hgd
        have hyb : (y == 0) = false := by simpa using hy2
        clear hy2
        go_enter Try.func10, Try.ntmps10
        go_wp2_with fail
        (try rw [hw1]); (try rw [hw2]); (try rw [hb]); (try rw [hbb])
        clear hw1 hw2 hb hbb
        refine (has_is _ s v need 1 (x : Int) HR2.out kH.out).mono ?_
        rintro e' w3 ⟨rfl, hb3⟩
        have HX3 := Lib.hid ((hb3.block _ (lt_of_block HX2.out)).trans HX2.out)
        have HZ3 := Lib.hid ((hb3.block _ (lt_of_block HZ2.out)).trans HZ2.out)
        have HR3 := Lib.hid (HR2.out.below hb3 (Nat.le_refl _))
        have HB3 := Lib.hid (HB2.out.trans (hb3.mono HB2.out.size))
        clear hb3 f0 f1 f2 f3 f4 f5 f6 fbl
        obtain ⟨⟨f0, f1, f2, f3, f4, f5, f6⟩, fbl⟩ := seven HX3.out
        obtain ⟨t0, t1, t2, t3, t4, t5, t6⟩ := thaw7 HX3.out
        obtain ⟨⟨r0, r1, r2, r3, r4, r5, r6⟩, rbl⟩ := seven HZ3.out
        obtain ⟨y0, y1, y2, y3, y4, y5, y6⟩ := thaw7 HZ3.out
        go_wp2_with fail
        refine (alone_is _ s v need 1 HR3.out).mono ?_
        rintro e' w4 ⟨A1, c1, B1, d1, C1, k1, rfl, oa, ob, oc, dj, hb4⟩
        simp only [hln, hlm, hlq] at oa ob oc ⊢
        have HO4 := Lib.hid (And.intro oa (And.intro ob (And.intro oc (And.intro dj hb4))))
        have HX4 := Lib.hid ((hb4.block _ (lt_of_block HX3.out)).trans HX3.out)
        have HZ4 := Lib.hid ((hb4.block _ (lt_of_block HZ3.out)).trans HZ3.out)
        clear oa ob oc dj hb4
        clear f0 f1 f2 f3 f4 f5 f6 fbl t0 t1 t2 t3 t4 t5 t6 r0 r1 r2 r3 r4 r5 r6 rbl y0 y1 y2 y3 y4 y5 y6
        obtain ⟨⟨f0, f1, f2, f3, f4, f5, f6⟩, fbl⟩ := seven HX4.out
        obtain ⟨t0, t1, t2, t3, t4, t5, t6⟩ := thaw7 HX4.out
        obtain ⟨⟨r0, r1, r2, r3, r4, r5, r6⟩, rbl⟩ := seven HZ4.out
        obtain ⟨y0, y1, y2, y3, y4, y5, y6⟩ := thaw7 HZ4.out
        obtain ⟨w5, hw5⟩ : ∃ z, set7 w4 b (.int .i64 s) (.int .i64 v) (.int .i64 need) (.int .i64 1) (.slice A1 n c1) (.slice B1 m d1) (.slice C1 q k1) = z := ⟨_, rfl⟩
        have HF := Lib.hid (FO.start HX3.out HZ3.out HB3.out (by have := HLT.out; omega) HLT.out.1 HO4.out.2.2.2.2 HO4.out.1 HO4.out.2.1 HO4.out.2.2.1 HO4.out.2.2.2.1 hw5)
        unfold set7 at hw5
        obtain ⟨⟨p0, p1, p2, p3, p4, p5, p6⟩, pbl⟩ := seven HF.out.row
        obtain ⟨g, rfl, hfz, hcg⟩ := HF.out.addr (show 0 < n by omega)
        have hcy := hcg x y HY.out.1
        clear hfz hcg
        clear f0 f1 f2 f3 f4 f5 f6 fbl t0 t1 t2 t3 t4 t5 t6 r0 r1 r2 r3 r4 r5 r6 rbl y0 y1 y2 y3 y4 y5 y6
        obtain ⟨⟨f0, f1, f2, f3, f4, f5, f6⟩, fbl⟩ := seven HX4.out
        obtain ⟨t0, t1, t2, t3, t4, t5, t6⟩ := thaw7 HX4.out
        obtain ⟨⟨r0, r1, r2, r3, r4, r5, r6⟩, rbl⟩ := seven HF.out.res
        obtain ⟨y0, y1, y2, y3, y4, y5, y6⟩ := thaw7 HF.out.res
        go_wp2
        (try rw [hw5])
        obtain ⟨hw, hT⟩ := two_end HF.out.res HF.out.oa HF.out.ob HF.out.oc HF.out.dj HF.out.bel (by have := HF.out.lb; omega) HF.out.lb.2.2.1 0
        unfold set7 at hw hT
        rw [HP.out]
        refine bodyPost_ret (v := .tuple #[.agg #[.int .i64 s, .int .i64 v, .int .i64 need, .int .i64 1, .slice (some ⟨g, 0, none⟩) n c1, .slice B1 m d1, .slice C1 q k1], .int .i64 0]) ?_ rfl hT
        rw [results_cell_tmp rfl]
        simp [asAddr, Result.andThen, loadv27 hw]
    · have HP : Hid (P = (⟨s, v, need, ph, ms, ws, bs⟩, 0)) := by show _ = _; rw [← hP]; unfold Fq.told; rw [if_pos hH, if_neg (fun h => hp h.1)] <;> rfl
      clear hP hH hgd
      have hpb : (ph == 1) = false := by simpa using hp
      have hpb2 : (ph != 1) = true := by simpa using hp
      have hpb3 : decide (ph = 1) = false := by simpa using hp
      clear hp
      go_enter Try.func10, Try.ntmps10
      go_wp2_with fail
      (try rw [hw1]); (try rw [hw2]); (try rw [hb]); (try rw [hbb])
      clear hw1 hw2 hb hbb
      refine (has_is _ s v need ph (x : Int) HR2.out kH.out).mono ?_
      rintro e' w3 ⟨rfl, hb3⟩
      have HX3 := Lib.hid ((hb3.block _ (lt_of_block HX2.out)).trans HX2.out)
      have HZ3 := Lib.hid ((hb3.block _ (lt_of_block HZ2.out)).trans HZ2.out)
      have HR3 := Lib.hid (HR2.out.below hb3 (Nat.le_refl _))
      have HB3 := Lib.hid (HB2.out.trans (hb3.mono HB2.out.size))
      clear hb3 f0 f1 f2 f3 f4 f5 f6 fbl
      obtain ⟨⟨f0, f1, f2, f3, f4, f5, f6⟩, fbl⟩ := seven HX3.out
      obtain ⟨t0, t1, t2, t3, t4, t5, t6⟩ := thaw7 HX3.out
      obtain ⟨⟨r0, r1, r2, r3, r4, r5, r6⟩, rbl⟩ := seven HZ3.out
      obtain ⟨y0, y1, y2, y3, y4, y5, y6⟩ := thaw7 HZ3.out
      go_wp2_with fail
      refine (alone_is _ s v need ph HR3.out).mono ?_
      rintro e' w4 ⟨A1, c1, B1, d1, C1, k1, rfl, oa, ob, oc, dj, hb4⟩
      simp only [hln, hlm, hlq] at oa ob oc ⊢
      have HO4 := Lib.hid (And.intro oa (And.intro ob (And.intro oc (And.intro dj hb4))))
      have HX4 := Lib.hid ((hb4.block _ (lt_of_block HX3.out)).trans HX3.out)
      have HZ4 := Lib.hid ((hb4.block _ (lt_of_block HZ3.out)).trans HZ3.out)
      clear oa ob oc dj hb4
      clear f0 f1 f2 f3 f4 f5 f6 fbl t0 t1 t2 t3 t4 t5 t6 r0 r1 r2 r3 r4 r5 r6 rbl y0 y1 y2 y3 y4 y5 y6
      obtain ⟨⟨f0, f1, f2, f3, f4, f5, f6⟩, fbl⟩ := seven HX4.out
      obtain ⟨t0, t1, t2, t3, t4, t5, t6⟩ := thaw7 HX4.out
      obtain ⟨⟨r0, r1, r2, r3, r4, r5, r6⟩, rbl⟩ := seven HZ4.out
      obtain ⟨y0, y1, y2, y3, y4, y5, y6⟩ := thaw7 HZ4.out
      obtain ⟨w5, hw5⟩ : ∃ z, set7 w4 b (.int .i64 s) (.int .i64 v) (.int .i64 need) (.int .i64 ph) (.slice A1 n c1) (.slice B1 m d1) (.slice C1 q k1) = z := ⟨_, rfl⟩
      have HF := Lib.hid (FO.start HX3.out HZ3.out HB3.out (by have := HLT.out; omega) HLT.out.1 HO4.out.2.2.2.2 HO4.out.1 HO4.out.2.1 HO4.out.2.2.1 HO4.out.2.2.2.1 hw5)
      unfold set7 at hw5
      obtain ⟨⟨p0, p1, p2, p3, p4, p5, p6⟩, pbl⟩ := seven HF.out.row
      clear f0 f1 f2 f3 f4 f5 f6 fbl t0 t1 t2 t3 t4 t5 t6 r0 r1 r2 r3 r4 r5 r6 rbl y0 y1 y2 y3 y4 y5 y6
      obtain ⟨⟨f0, f1, f2, f3, f4, f5, f6⟩, fbl⟩ := seven HX4.out
      obtain ⟨t0, t1, t2, t3, t4, t5, t6⟩ := thaw7 HX4.out
      obtain ⟨⟨r0, r1, r2, r3, r4, r5, r6⟩, rbl⟩ := seven HF.out.res
      obtain ⟨y0, y1, y2, y3, y4, y5, y6⟩ := thaw7 HF.out.res
      go_wp2
      (try rw [hw5])
      obtain ⟨hw, hT⟩ := two_end HF.out.res HF.out.oa HF.out.ob HF.out.oc HF.out.dj HF.out.bel (by have := HF.out.lb; omega) HF.out.lb.2.2.1 0
      unfold set7 at hw hT
      rw [HP.out]
      refine bodyPost_ret (v := .tuple #[.agg #[.int .i64 s, .int .i64 v, .int .i64 need, .int .i64 ph, .slice A1 n c1, .slice B1 m d1, .slice C1 q k1], .int .i64 0]) ?_ rfl hT
      rw [results_cell_tmp rfl]
      simp [asAddr, Result.andThen, loadv27 hw]
  · have kH := Lib.hid (decide_eq_false hH)
    have HP : Hid (P = (⟨s, v, need, ph, ms, ws, bs⟩, 140)) := by show _ = _; rw [← hP]; unfold Fq.told; rw [if_neg hH]
    clear hP hH
    go_enter Try.func10, Try.ntmps10
    go_wp2_with fail
    (try rw [hw1]); (try rw [hw2]); (try rw [hb]); (try rw [hbb])
    clear hw1 hw2 hb hbb
    refine (has_is _ s v need ph i HR2.out kH.out).mono ?_
    rintro e' w3 ⟨rfl, hb3⟩
    have HX3 := Lib.hid ((hb3.block _ (lt_of_block HX2.out)).trans HX2.out)
    have HZ3 := Lib.hid ((hb3.block _ (lt_of_block HZ2.out)).trans HZ2.out)
    have HR3 := Lib.hid (HR2.out.below hb3 (Nat.le_refl _))
    have HB3 := Lib.hid (HB2.out.trans (hb3.mono HB2.out.size))
    clear hb3 f0 f1 f2 f3 f4 f5 f6 fbl
    obtain ⟨⟨f0, f1, f2, f3, f4, f5, f6⟩, fbl⟩ := seven HX3.out
    obtain ⟨t0, t1, t2, t3, t4, t5, t6⟩ := thaw7 HX3.out
    obtain ⟨⟨r0, r1, r2, r3, r4, r5, r6⟩, rbl⟩ := seven HZ3.out
    obtain ⟨y0, y1, y2, y3, y4, y5, y6⟩ := thaw7 HZ3.out
    go_wp2_with fail
    refine (alone_is _ s v need ph HR3.out).mono ?_
    rintro e' w4 ⟨A1, c1, B1, d1, C1, k1, rfl, oa, ob, oc, dj, hb4⟩
    simp only [hln, hlm, hlq] at oa ob oc ⊢
    have HO4 := Lib.hid (And.intro oa (And.intro ob (And.intro oc (And.intro dj hb4))))
    have HX4 := Lib.hid ((hb4.block _ (lt_of_block HX3.out)).trans HX3.out)
    have HZ4 := Lib.hid ((hb4.block _ (lt_of_block HZ3.out)).trans HZ3.out)
    clear oa ob oc dj hb4
    clear f0 f1 f2 f3 f4 f5 f6 fbl t0 t1 t2 t3 t4 t5 t6 r0 r1 r2 r3 r4 r5 r6 rbl y0 y1 y2 y3 y4 y5 y6
    obtain ⟨⟨f0, f1, f2, f3, f4, f5, f6⟩, fbl⟩ := seven HX4.out
    obtain ⟨t0, t1, t2, t3, t4, t5, t6⟩ := thaw7 HX4.out
    obtain ⟨⟨r0, r1, r2, r3, r4, r5, r6⟩, rbl⟩ := seven HZ4.out
    obtain ⟨y0, y1, y2, y3, y4, y5, y6⟩ := thaw7 HZ4.out
    go_wp2
    obtain ⟨hw, hT⟩ := two_end (w := w) (s := s) (v := v) (need := need) (ph := ph) HZ4.out HO4.out.1 HO4.out.2.1 HO4.out.2.2.1 HO4.out.2.2.2.1 (HB3.out.trans (HO4.out.2.2.2.2.mono HB3.out.size)) (by have := HLT.out; omega) (lt_of_block HZ3.out) 140
    unfold set7 at hw hT
    rw [HP.out]
    refine bodyPost_ret (v := .tuple #[.agg #[.int .i64 s, .int .i64 v, .int .i64 need, .int .i64 ph, .slice A1 n c1, .slice B1 m d1, .slice C1 q k1], .int .i64 140]) ?_ rfl hT
    rw [results_cell_tmp rfl]
    simp [asAddr, Result.andThen, loadv27 hw]
end
end Go.Proofs.Ytkkpfehgobanbaa
