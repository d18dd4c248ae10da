/- begun, does. -/
import Derived.Test.YtciihebaameccaaRndK
namespace Go.Proofs.Ytciihebaameccaa
open Go.RowKit Go.Coop
set_option maxRecDepth 100000
theorem arr4 {w : World} {b : Nat} {x0 x1 x2 x3 : Value} {T : TypeId} (h : w.heap[b]? = some (.cells #[x0, x1, x2, x3] T (0, 0))) : w.cell? ⟨b, 0, none⟩ = some x0 ∧ w.cell? ⟨b, 1, none⟩ = some x1 ∧ w.cell? ⟨b, 2, none⟩ = some x2 ∧ w.cell? ⟨b, 3, none⟩ = some x3 :=
  ⟨cell_of_row _ b 0 _ T (0, 0) h, cell_of_row _ b 1 _ T (0, 0) h, cell_of_row _ b 2 _ T (0, 0) h, cell_of_row _ b 3 _ T (0, 0) h⟩
theorem results_cell_tmp_2 {fn : Func} {p u v : Tmp} {ty : TypeId} (h : fn.results = #[.cell p ty, .tmp u, .tmp v]) (tmps : Array Value) (P : Program) (w : World) :
    (results fn tmps).run P w =
      ((asAddr (tmps.getD p undef)).run P w).andThen fun a w₁ => ((loadVar ty a).run P w₁).andThen fun y w₂ => .ok (.tuple #[y, tmps.getD u undef, tmps.getD v undef]) w₂ := by
  simp only [results, h]
  simp [Sem.run_bind, Result.andThen]
/-- how many indexes, and the need -/
def manyOf (n : Int) : Nat := (1 + n % 12).toNat
def needOf (n d : Int) : Int := 1 + d % (1 + n % 12)
theorem manyOf_b {n : Int} : (manyOf n : Int) = 1 + n % 12 ∧ 1 ≤ manyOf n ∧ manyOf n ≤ 12 := by
  unfold manyOf
  omega
def Bg (n d : Int) : Rn := ⟨5, 9, needOf n d, 1, List.replicate (manyOf n) 0⟩
theorem needOf_b {n d : Int} : 1 ≤ needOf n d ∧ needOf n d ≤ (manyOf n : Int) := by
  have h1 := manyOf_b (n := n)
  unfold needOf
  have h2 := Int.emod_nonneg d (show 1 + n % 12 ≠ 0 by omega)
  have h3 := Int.emod_lt_of_pos d (show 0 < 1 + n % 12 by omega)
  omega
theorem bg_len (n d : Int) : (Bg n d).ms.length = manyOf n := List.length_replicate
theorem cnt_replicate (k : Int) (n : Nat) : cnt k (List.replicate n 0) = if k = 0 then (n : Int) else 0 := by
  induction n with
  | zero => simp [cnt]
  | succ n ih =>
    rw [List.replicate_succ, cnt_cons, ih]
    by_cases h : k = 0
    · subst h; simp
    · have h2 : ¬ (0 : Int) = k := fun e => h e.symm
      simp [h, h2]
theorem bg_right (n d : Int) : RightR (Bg n d) := by
  have h1 := manyOf_b (n := n)
  have h2 := needOf_b (n := n) (d := d)
  refine ⟨?_, ?_, ?_⟩
  · rw [bg_len]
    unfold Bg MayR
    simp only
    omega
  · intro m hm
    unfold Bg at hm
    have := List.eq_of_mem_replicate hm
    omega
  · show PhOk (needOf n d) 1 (List.replicate (manyOf n) 0)
    unfold PhOk
    left
    simp only [cnt_replicate, List.length_replicate]
    simp
    omega
theorem bg_eq (n d : Int) : beginR 5 9 (manyOf n) (needOf n d) = (Bg n d, 0) := by
  have h1 := manyOf_b (n := n)
  have h2 := needOf_b (n := n) (d := d)
  unfold beginR
  rw [if_pos (by unfold MayR; omega), Int.toNat_natCast]
  rfl
/-- a round, how many, and a truth -/
def Begun (w : World) (r : Rn) (e : Ending) (w' : World) : Prop := ∃ A c, e = .returned (.tuple #[RVal r A r.ms.length c, .int .i64 (r.ms.length : Int), .bool true]) ∧ RdV w' A r.ms.length (r.ms.map IV) ∧ Below w.heap.size w w'
section
variable (w : World)
set_option maxHeartbeats 2000000 in
theorem begun_is (n d : Int) (hn : 0 ≤ n ∧ n ≤ 255) (hd : 0 ≤ d ∧ d ≤ 255) : Calls Try.prog 31 #[.int .u8 n, .int .u8 d] w (Begun w (Bg n d)) := by
  obtain ⟨w1, hw1⟩ : ∃ z, w.alloc (.cells #[.int .i64 0, .int .i64 0, .int .i64 0, .int .i64 0, .slice none 0 0] 26) = z := ⟨_, rfl⟩
  obtain ⟨hb1, hx1⟩ := box_new hw1
  obtain ⟨b, hb⟩ : ∃ b, w.heap.size = b := ⟨_, rfl⟩
  rw [hb] at hx1
  have HB1 := Lib.hid hb1
  have HX1 := Lib.hid hx1
  have hbl := lt_of_block hx1
  have HBL := Lib.hid hbl
  have HS := Lib.hid hb
  clear hb1 hx1 hbl
  obtain ⟨m, hm⟩ : ∃ m, manyOf n = m := ⟨_, rfl⟩
  obtain ⟨hm1, hm2, hm3⟩ := manyOf_b (n := n)
  rw [hm] at hm1 hm2 hm3
  have hmod : n % 12 = (m : Int) - 1 := by omega
  have hw2 : IntKind.i64.wrap (1 + ((m : Int) - 1)) = (m : Int) := by rw [show 1 + ((m : Int) - 1) = (m : Int) by omega]; exact IntWalk.i64_in _ (by omega)
  obtain ⟨q, hq⟩ : ∃ q, needOf n d = q := ⟨_, rfl⟩
  have hqb := needOf_b (n := n) (d := d)
  rw [hq, hm] at hqb
  have hdm : d % (m : Int) = q - 1 := by rw [← hq]; unfold needOf; rw [hm1]; omega
  have hmz : ((m : Int) == 0) = false := by simp; omega
  have hw3 : IntKind.i64.wrap (d.tmod (m : Int)) = q - 1 := by rw [Int.tmod_eq_emod_of_nonneg hd.1, hdm]; exact IntWalk.i64_in _ (by omega)
  have hw4 : IntKind.i64.wrap (1 + (q - 1)) = q := by rw [show 1 + (q - 1) = q by omega]; exact IntWalk.i64_in _ (by omega)
  have HP : Hid (beginR 5 9 m q = (Bg n d, 0)) := by show _ = _; rw [← hm, ← hq]; exact bg_eq n d
  have HM := Lib.hid (show (Bg n d).ms.length = m from (bg_len n d).trans hm)
  have hnm : n.tmod 12 = (m : Int) - 1 := by rw [Int.tmod_eq_emod_of_nonneg hn.1]; exact hmod
  have hm0 : ¬ (m : Int) = 0 := by omega
  have htm : d.tmod (m : Int) = q - 1 := by rw [Int.tmod_eq_emod_of_nonneg hd.1, hdm]
  clear hm1 hq
  go_enter Try.func31, Try.ntmps31
  go_wp2_with fail
  (try rw [hw1]); (try rw [hb])
  refine (begin_is _ 5 9 m q).mono ?_
  rintro e w3 ⟨A3, c3, he, hr3, hA3, hb3⟩
  subst he
  rw [HP.out] at hr3 ⊢
  simp only [RVal, HM.out] at hr3 ⊢
  obtain ⟨R, hR⟩ : ∃ R, Bg n d = R := ⟨_, rfl⟩
  rw [hR] at hr3 HM ⊢
  obtain ⟨qs, qv, qn, qp, qm⟩ := R
  have HRR := Lib.hid hR
  clear hR
  simp only at hr3 HM ⊢
  obtain ⟨w4, hw4⟩ : ∃ z, w3.alloc (.cells #[.int .i64 qs, .int .i64 qv, .int .i64 qn, .int .i64 qp, .slice A3 m c3] 26) = z := ⟨_, rfl⟩
  obtain ⟨hb4, hx4⟩ := box_new hw4
  have hx14 := (hb4.block _ (by have := hb3.size; have := HBL.out; omega)).trans ((hb3.block _ HBL.out).trans HX1.out)
  have HB4 := Lib.hid ((HB1.out.trans (hb3.mono HB1.out.size)).trans (hb4.mono (Nat.le_trans HB1.out.size hb3.size)))
  have HR4 := Lib.hid (hr3.below hb4 (Nat.le_refl _))
  have HA4 : Hid (∀ j, A3.map (·.block) = some j → j ≠ b) := fun j hj => by
    have h1 := hA3 j hj
    have h2 := HBL.out
    omega
  have HX4 := Lib.hid hx14
  obtain ⟨⟨f0, f1, f2, f3, f4⟩, fbl⟩ := five26 hx14
  obtain ⟨g0, g1, g2, g3, g4⟩ := thaw5 hx14
  obtain ⟨⟨e0, e1, e2, e3, e4⟩, ebl⟩ := five26 hx4
  have hne : w3.heap.size ≠ b := by have := hb3.size; have := HBL.out; omega
  have hne' := hne.symm
  clear hx14 hx4 hb4 hb3 hA3 hr3
  go_wp2
  (try rw [hw4])
  obtain ⟨hw, hr9, hb9⟩ := two_end (w := w) (s := qs) (v := qv) (need := qn) (ph := qp) (c := c3) HR4.out HA4.out HX4.out HB4.out (by have := HS.out; omega)
  rw [HRR.out]
  refine bodyPost_ret (v := .tuple #[.agg #[.int .i64 qs, .int .i64 qv, .int .i64 qn, .int .i64 qp, .slice A3 m c3], .int .i64 (m : Int), .bool true]) ?_ rfl ⟨A3, c3, ?_, ?_, hb9⟩
  · rw [results_cell_tmp_2 rfl]
    simp [asAddr, Result.andThen, loadv26 hw]
  · simp only [HM.out]
  · simp only [HM.out]; exact hr9
set_option maxHeartbeats 400000 in
theorem does_is (s v need ph : Int) {A : Option Addr} {n c : Nat} {ms : List Int} (h : RdV w A n (ms.map IV)) (hn : n ≤ 1000000) (kd ix op e : Int) {P : Rn × Int} (hP : Rn.does ⟨s, v, need, ph, ms⟩ ⟨kd, ix, op, e⟩ = P) : Calls Try.prog 32 #[.agg #[.int .i64 s, .int .i64 v, .int .i64 need, .int .i64 ph, .slice A n c], .agg #[.int .i64 kd, .int .i64 ix, .int .u8 op, .int .i64 e]] w (TwoR w P) := by
  have hln : ms.length = n := by simpa using h.len
  obtain ⟨w1, hw1⟩ : ∃ z, w.alloc (.cells #[.int .i64 s, .int .i64 v, .int .i64 need, .int .i64 ph, .slice A n c] 26) = z := ⟨_, rfl⟩
  obtain ⟨w1b, hw1b⟩ : ∃ z, w1.alloc (.cells #[.int .i64 kd, .int .i64 ix, .int .u8 op, .int .i64 e] 47) = z := ⟨_, rfl⟩
  obtain ⟨w2, hw2⟩ : ∃ z, w1b.alloc (.cells #[.int .i64 0, .int .i64 0, .int .i64 0, .int .i64 0, .slice none 0 0] 26) = z := ⟨_, rfl⟩
  obtain ⟨hb1, hx1⟩ := box_new hw1
  obtain ⟨hb1b, hx1b⟩ := box_new hw1b
  obtain ⟨hb2, hx2⟩ := box_new hw2
  obtain ⟨b, hb⟩ : ∃ b, w.heap.size = b := ⟨_, rfl⟩
  obtain ⟨bo, hbo⟩ : ∃ b, w1.heap.size = b := ⟨_, rfl⟩
  obtain ⟨b2, hbb⟩ : ∃ b, w1b.heap.size = b := ⟨_, rfl⟩
  have hlt0 : b < bo := by rw [← hb, ← hbo]; exact lt_of_block hx1
  have hlt1 : bo < b2 := by rw [← hbo, ← hbb]; exact lt_of_block hx1b
  have hlt : b < b2 := by omega
  have hx1' := (hb1b.block _ (lt_of_block hx1)).trans hx1
  have hx12 := (hb2.block _ (lt_of_block hx1')).trans hx1'
  have hxo := (hb2.block _ (lt_of_block hx1b)).trans hx1b
  rw [hb] at hx12
  rw [hbo] at hxo
  rw [hbb] at hx2
  have hB1 := hb1.trans (hb1b.mono hb1.size)
  have hB2 := hB1.trans (hb2.mono hB1.size)
  have hR := h.below hB2 (Nat.le_refl _)
  have hne : b2 ≠ b := by omega
  have hne' : b ≠ b2 := by omega
  have hno : b2 ≠ bo := by omega
  have hno' : bo ≠ b2 := by omega
  have hob : b ≠ bo := by omega
  have hob' : bo ≠ b := by omega
  obtain ⟨⟨m0, m1, m2, m3, m4⟩, hbl⟩ := five26 hx12
  obtain ⟨o0, o1, o2, o3⟩ := arr4 hxo
  have HE := Lib.hid (And.intro hR (And.intro hB2 (And.intro hx12 (And.intro hx2 (And.intro hb hlt)))))
  have HOX := Lib.hid hxo
  have HRW := Lib.hid h
  clear h hR hB1 hB2 hx12 hx2 hlt hlt0 hlt1 hx1 hx1' hx1b hxo hb1 hb1b hb2 hbl
  have HB_w2 := Lib.hid HE.out.2.1
  have HX_w2 := Lib.hid HE.out.2.2.1
  have HZ_w2 := Lib.hid HE.out.2.2.2.1
  have HR_w2 := Lib.hid HE.out.1
  have HPL := Lib.hid hP.symm
  by_cases h7 : kd = 7
  · subst h7
    have HP : Hid (P = Rn.publish ⟨s, v, need, ph, ms⟩) := by show _ = _; rw [← hP]; unfold Rn.does; rfl
    clear hP
    go_enter Try.func32, Try.ntmps32
    go_wp2_with fail
    (try rw [hw1]); (try rw [hw1b]); (try rw [hw2]); (try rw [hb]); (try rw [hbo]); (try rw [hbb])
    clear hw1 hw1b hw2 hb hbo hbb
    refine (publish_is _ s v need ph HR_w2.out hn rfl).mono ?_
    rintro e' w3 ⟨A9, c9, he, hr9, hA9, hb9⟩
    subst he
    obtain ⟨Q, hQ⟩ : ∃ Q, Rn.publish ⟨s, v, need, ph, ms⟩ = Q := ⟨_, rfl⟩
    rw [hQ] at hr9 ⊢
    have HPQ : Hid (P = Q) := by show _ = _; rw [HP.out, hQ]
    have hml : Q.1.ms.length = n := by rw [← HPQ.out, HPL.out]; exact (does_len (r := ⟨s, v, need, ph, ms⟩) _).1.trans hln
    clear hQ HP
    obtain ⟨⟨qs, qv, qn, qp, qm⟩, qe⟩ := Q
    simp only [RVal] at hr9 hml ⊢
    simp only [hml] at hr9 ⊢
    have HML := Lib.hid hml
    have HRQ := Lib.hid hr9
    have HA9 : Hid (∀ j, A9.map (·.block) = some j → j ≠ b2) := fun j hj => by
      have h1 := hA9 j hj
      have h2 := lt_of_block HZ_w2.out
      omega
    have HFR : Hid (∀ j, A9.map (·.block) = some j → w.heap.size ≤ j) := fun j hj => by
      have h1 := hA9 j hj
      have h2 := HB_w2.out.size
      omega
    have HB_w3 := Lib.hid (HB_w2.out.trans (hb9.mono HB_w2.out.size))
    have HX_w3 := Lib.hid ((hb9.block _ (lt_of_block HX_w2.out)).trans HX_w2.out)
    have HZ_w3 := Lib.hid ((hb9.block _ (lt_of_block HZ_w2.out)).trans HZ_w2.out)
    have HR_w3 := Lib.hid (HR_w2.out.below hb9 (Nat.le_refl _))
    obtain ⟨⟨f0, f1, f2, f3, f4⟩, fbl⟩ := five26 HX_w3.out
    obtain ⟨g0, g1, g2, g3, g4⟩ := thaw5 HX_w3.out
    obtain ⟨⟨r0, r1, r2, r3, r4⟩, rbl⟩ := five26 HZ_w3.out
    obtain ⟨y0, y1, y2, y3, y4⟩ := thaw5 HZ_w3.out
    clear hr9 hA9 hb9 hml
    go_wp2
    obtain ⟨hw, hr9, hb9⟩ := two_end (w := w) (s := qs) (v := qv) (need := qn) (ph := qp) (c := c9) HRQ.out HA9.out HZ_w3.out HB_w3.out (by have := HE.out.2.2.2.2; omega)
    rw [HPQ.out]
    refine bodyPost_ret (v := .tuple #[.agg #[.int .i64 qs, .int .i64 qv, .int .i64 qn, .int .i64 qp, .slice A9 n c9], .int .i64 qe]) ?_ rfl ⟨A9, c9, ?_, ?_, HFR.out, hb9⟩
    · rw [results_cell_tmp rfl]
      simp [asAddr, Result.andThen, loadv26 hw]
    · simp only [HML.out]
    · simp only [HML.out]; exact hr9
  · by_cases h8 : kd = 8
    · subst h8
      clear h7
      have HP : Hid (P = Rn.give ⟨s, v, need, ph, ms⟩) := by show _ = _; rw [← hP]; unfold Rn.does; rfl
      clear hP
      go_enter Try.func32, Try.ntmps32
      go_wp2_with fail
      (try rw [hw1]); (try rw [hw1b]); (try rw [hw2]); (try rw [hb]); (try rw [hbo]); (try rw [hbb])
      clear hw1 hw1b hw2 hb hbo hbb
      refine (give_is _ s v need ph HR_w2.out hn rfl).mono ?_
      rintro e' w3 ⟨A9, c9, he, hr9, hA9, hb9⟩
      subst he
      obtain ⟨Q, hQ⟩ : ∃ Q, Rn.give ⟨s, v, need, ph, ms⟩ = Q := ⟨_, rfl⟩
      rw [hQ] at hr9 ⊢
      have HPQ : Hid (P = Q) := by show _ = _; rw [HP.out, hQ]
      have hml : Q.1.ms.length = n := by rw [← HPQ.out, HPL.out]; exact (does_len (r := ⟨s, v, need, ph, ms⟩) _).1.trans hln
      clear hQ HP
      obtain ⟨⟨qs, qv, qn, qp, qm⟩, qe⟩ := Q
      simp only [RVal] at hr9 hml ⊢
      simp only [hml] at hr9 ⊢
      have HML := Lib.hid hml
      have HRQ := Lib.hid hr9
      have HA9 : Hid (∀ j, A9.map (·.block) = some j → j ≠ b2) := fun j hj => by
        have h1 := hA9 j hj
        have h2 := lt_of_block HZ_w2.out
        omega
      have HFR : Hid (∀ j, A9.map (·.block) = some j → w.heap.size ≤ j) := fun j hj => by
        have h1 := hA9 j hj
        have h2 := HB_w2.out.size
        omega
      have HB_w3 := Lib.hid (HB_w2.out.trans (hb9.mono HB_w2.out.size))
      have HX_w3 := Lib.hid ((hb9.block _ (lt_of_block HX_w2.out)).trans HX_w2.out)
      have HZ_w3 := Lib.hid ((hb9.block _ (lt_of_block HZ_w2.out)).trans HZ_w2.out)
      have HR_w3 := Lib.hid (HR_w2.out.below hb9 (Nat.le_refl _))
      obtain ⟨⟨f0, f1, f2, f3, f4⟩, fbl⟩ := five26 HX_w3.out
      obtain ⟨g0, g1, g2, g3, g4⟩ := thaw5 HX_w3.out
      obtain ⟨⟨r0, r1, r2, r3, r4⟩, rbl⟩ := five26 HZ_w3.out
      obtain ⟨y0, y1, y2, y3, y4⟩ := thaw5 HZ_w3.out
      clear hr9 hA9 hb9 hml
      go_wp2
      obtain ⟨hw, hr9, hb9⟩ := two_end (w := w) (s := qs) (v := qv) (need := qn) (ph := qp) (c := c9) HRQ.out HA9.out HZ_w3.out HB_w3.out (by have := HE.out.2.2.2.2; omega)
      rw [HPQ.out]
      refine bodyPost_ret (v := .tuple #[.agg #[.int .i64 qs, .int .i64 qv, .int .i64 qn, .int .i64 qp, .slice A9 n c9], .int .i64 qe]) ?_ rfl ⟨A9, c9, ?_, ?_, HFR.out, hb9⟩
      · rw [results_cell_tmp rfl]
        simp [asAddr, Result.andThen, loadv26 hw]
      · simp only [HML.out]
      · simp only [HML.out]; exact hr9
    · by_cases h9 : kd = 9
      · subst h9
        clear h7 h8
        have HP : Hid (P = Rn.lose ⟨s, v, need, ph, ms⟩ (Rn.at_ ⟨s, v, need, ph, ms⟩ ix)) := by show _ = _; rw [← hP]; unfold Rn.does; rfl
        clear hP
        obtain ⟨mx, hmx⟩ : ∃ m, max n 1 = m := ⟨_, rfl⟩
        have hmx1 : 1 ≤ mx := by omega
        have hmx2 : mx ≤ 1000000 := by omega
        have HAT : Hid (Rn.at_ ⟨s, v, need, ph, ms⟩ ix = ix % (mx : Int)) := by show _ = _; unfold Rn.at_; simp only [hln, hmx]
        have HMI : Hid ((if (n : Int) < 1 then (1 : Int) else (n : Int)) = (mx : Int)) := by show _ = _; split <;> omega
        have HMX := Lib.hid (And.intro hmx (And.intro hmx1 hmx2))
        clear hmx hmx1 hmx2
        go_enter Try.func32, Try.ntmps32
        go_wp2
        (try rw [hw1]); (try rw [hw1b]); (try rw [hw2]); (try rw [hb]); (try rw [hbo]); (try rw [hbb])
        clear hw1 hw1b hw2 hb hbo hbb
        obtain ⟨w3, h_w3⟩ : ∃ z, w2.drew = z := ⟨_, rfl⟩
        have hbd : Below w2.heap.size w2 w3 := h_w3 ▸ (Below.refl _ _).drew
        have HB_w3 := Lib.hid (HB_w2.out.trans (hbd.mono HB_w2.out.size))
        have HX_w3 := Lib.hid ((hbd.block _ (lt_of_block HX_w2.out)).trans HX_w2.out)
        have HZ_w3 := Lib.hid ((hbd.block _ (lt_of_block HZ_w2.out)).trans HZ_w2.out)
        have HR_w3 := Lib.hid (HR_w2.out.below hbd (Nat.le_refl _))
        have HO3 := Lib.hid ((hbd.block _ (lt_of_block HOX.out)).trans HOX.out)
        refine wp_region_held_drew (S := fun z => Below w.heap.size w z ∧ z.heap[b]? = some (.cells #[.int .i64 s, .int .i64 v, .int .i64 need, .int .i64 ph, .slice A n c] 26 (0, 0)) ∧ z.heap[bo]? = some (.cells #[.int .i64 9, .int .i64 ix, .int .u8 op, .int .i64 e] 47 (0, 0))) (by kernel_rfl) (by rw [h_w3]; exact ⟨HB_w3.out, HX_w3.out, HO3.out⟩) (fun hHeld => ?_)
        rw [h_w3]
        clear hHeld
        have hHeld : Below w.heap.size w w3 ∧ w3.heap[b]? = some (.cells #[.int .i64 s, .int .i64 v, .int .i64 need, .int .i64 ph, .slice A n c] 26 (0, 0)) ∧ w3.heap[bo]? = some (.cells #[.int .i64 9, .int .i64 ix, .int .u8 op, .int .i64 e] 47 (0, 0)) := ⟨HB_w3.out, HX_w3.out, HO3.out⟩
        clear h_w3 hbd m0 m1 m2 m3 m4 o0 o1 o2 o3
        refine wpAnyH_take (i := 0) (oi := ⟨some 26, _, _, _, _, _⟩) (v := ?_) rfl (by kernel_rfl) (by kernel_rfl) (by kernel_rfl) (fun _ _ _ h => h) (Or.inl ⟨by rfl, ?_⟩) (by assumption) ?_
        rotate_left
        · intro w hSw
          obtain ⟨⟨k0, k1, k2, k3, k4⟩, kbl⟩ := five26 hSw.2.1
          clear hSw
          go_simp
          all_goals (with_reducible rfl)
        try simp only [Act.put, List.setIfInBounds_toArray, List.set_cons_zero, List.set_cons_succ]
        refine wpAnyH_take (i := 1) (oi := ⟨some 27, _, _, _, _, _⟩) (v := ?_) rfl (by kernel_rfl) (by kernel_rfl) (by kernel_rfl) (fun _ _ _ h => h) (Or.inl ⟨by rfl, ?_⟩) (by assumption) ?_
        rotate_left
        · intro w hSw
          (try dsimp only at hSw)
          go_simp
          all_goals (with_reducible rfl)
        try simp only [Act.put, List.setIfInBounds_toArray, List.set_cons_zero, List.set_cons_succ]
        refine wpAnyH_take (i := 2) (oi := ⟨some 28, _, _, _, _, _⟩) (v := ?_) rfl (by kernel_rfl) (by kernel_rfl) (by kernel_rfl) (fun _ _ _ h => h) (Or.inl ⟨by rfl, ?_⟩) (by assumption) ?_
        rotate_left
        · intro w hSw
          have kk := (arr4 hSw.2.2).2.1
          clear hSw
          go_simp
          all_goals (with_reducible rfl)
        try simp only [Act.put, List.setIfInBounds_toArray, List.set_cons_zero, List.set_cons_succ]
        refine wpAnyH_take (i := 3) (oi := ⟨some 29, _, _, _, _, _⟩) (v := ?_) rfl (by kernel_rfl) (by kernel_rfl) (by kernel_rfl) (fun _ _ _ h => h) (Or.inl ⟨by rfl, ?_⟩) (by assumption) ?_
        rotate_left
        · intro w hSw
          (try dsimp only at hSw)
          go_simp
          all_goals (with_reducible rfl)
        try simp only [Act.put, List.setIfInBounds_toArray, List.set_cons_zero, List.set_cons_succ]
        refine wpAnyH_take (i := 4) (oi := ⟨some 30, _, _, _, _, _⟩) (v := ?_) rfl (by kernel_rfl) (by kernel_rfl) (by kernel_rfl) (fun _ _ _ h => h) (Or.inl ⟨by rfl, ?_⟩) (by assumption) ?_
        rotate_left
        · intro w hSw
          have kk := (five26 hSw.2.1).1.2.2.2.2
          clear hSw
          go_simp
          all_goals (with_reducible rfl)
        try simp only [Act.put, List.setIfInBounds_toArray, List.set_cons_zero, List.set_cons_succ]
        refine wpAnyH_take (i := 5) (oi := ⟨some 31, _, _, _, _, _⟩) (v := ?_) rfl (by kernel_rfl) (by kernel_rfl) (by kernel_rfl) (fun _ _ _ h => h) (Or.inl ⟨by rfl, ?_⟩) (by assumption) ?_
        rotate_left
        · intro w hSw
          (try dsimp only at hSw)
          go_simp
          all_goals (with_reducible rfl)
        try simp only [Act.put, List.setIfInBounds_toArray, List.set_cons_zero, List.set_cons_succ]
        refine wpAnyH_take (i := 6) (oi := ⟨some 32, _, _, _, _, _⟩) (v := ?_) rfl (by kernel_rfl) (by kernel_rfl) (by kernel_rfl) (fun _ _ _ h => h) (Or.inl ⟨by rfl, ?_⟩) (by assumption) ?_
        rotate_left
        · intro w hSw
          (try dsimp only at hSw)
          go_simp
          all_goals (with_reducible rfl)
        try simp only [Act.put, List.setIfInBounds_toArray, List.set_cons_zero, List.set_cons_succ]
        refine wpAnyH_ready (rs := [7]) (by kernel_rfl) (by simp) (AllReadyH.cons (o := ⟨some 33, _, _, _, _, _⟩) rfl (fun K hK => ?_) AllReadyH.nil)
        go_simp
        rw [HMI.out]
        refine (pick_is _ (x := ix) (n := (mx : Int)) (by have := HMX.out; omega) (by have := HMX.out; omega)).mono ?_
        rintro e' w' ⟨rfl, rfl⟩
        refine hK.out _ _ (⟨HB_w3.out, HX_w3.out, HO3.out⟩) (fun hHeld => ?_)
        clear hK K
        try simp only [Act.put, List.setIfInBounds_toArray, List.set_cons_zero, List.set_cons_succ]
        refine wpAnyH_ready (rs := [8]) (by kernel_rfl) (by simp) (AllReadyH.cons (o := ⟨some 34, _, _, _, _, _⟩) rfl (fun K hK => ?_) AllReadyH.nil)
        go_simp
        refine (lose_is _ s v need ph (ix % (mx : Int)) HR_w3.out hn rfl).mono ?_
        rintro e' w4 ⟨A9, c9, he, hr9, hA9, hb9⟩
        subst he
        have HO4 := Lib.hid ((hb9.block _ (lt_of_block HO3.out)).trans HO3.out)
        obtain ⟨Q, hQ⟩ : ∃ Q, Rn.lose ⟨s, v, need, ph, ms⟩ (ix % (mx : Int)) = Q := ⟨_, rfl⟩
        rw [hQ] at hr9 ⊢
        have HPQ : Hid (P = Q) := by show _ = _; rw [HP.out, HAT.out, hQ]
        have hml : Q.1.ms.length = n := by rw [← HPQ.out, HPL.out]; exact (does_len (r := ⟨s, v, need, ph, ms⟩) _).1.trans hln
        clear hQ HP
        obtain ⟨⟨qs, qv, qn, qp, qm⟩, qe⟩ := Q
        simp only [RVal] at hr9 hml ⊢
        simp only [hml] at hr9 ⊢
        have HML := Lib.hid hml
        have HRQ := Lib.hid hr9
        have HA9 : Hid (∀ j, A9.map (·.block) = some j → j ≠ b2) := fun j hj => by
          have h1 := hA9 j hj
          have h2 := lt_of_block HZ_w3.out
          omega
        have HFR : Hid (∀ j, A9.map (·.block) = some j → w.heap.size ≤ j) := fun j hj => by
          have h1 := hA9 j hj
          have h2 := HB_w3.out.size
          omega
        have HB_w4 := Lib.hid (HB_w3.out.trans (hb9.mono HB_w3.out.size))
        have HX_w4 := Lib.hid ((hb9.block _ (lt_of_block HX_w3.out)).trans HX_w3.out)
        have HZ_w4 := Lib.hid ((hb9.block _ (lt_of_block HZ_w3.out)).trans HZ_w3.out)
        have HR_w4 := Lib.hid (HR_w3.out.below hb9 (Nat.le_refl _))
        obtain ⟨⟨f0, f1, f2, f3, f4⟩, fbl⟩ := five26 HX_w4.out
        obtain ⟨g0, g1, g2, g3, g4⟩ := thaw5 HX_w4.out
        obtain ⟨⟨r0, r1, r2, r3, r4⟩, rbl⟩ := five26 HZ_w4.out
        obtain ⟨y0, y1, y2, y3, y4⟩ := thaw5 HZ_w4.out
        clear hr9 hA9 hb9 hml
        refine hK.out _ _ (⟨HB_w4.out, HX_w4.out, HO4.out⟩) (fun hHeld => ?_)
        clear hK K
        try simp only [Act.put, List.setIfInBounds_toArray, List.set_cons_zero, List.set_cons_succ]
        refine wpAnyH_take (i := 9) (oi := ⟨some 35, _, _, _, _, _⟩) (v := ?_) rfl (by kernel_rfl) (by kernel_rfl) (by kernel_rfl) (fun _ _ _ h => h) (Or.inl ⟨by rfl, ?_⟩) (by assumption) ?_
        rotate_left
        · intro w hSw
          (try dsimp only at hSw)
          go_simp
          all_goals (with_reducible rfl)
        try simp only [Act.put, List.setIfInBounds_toArray, List.set_cons_zero, List.set_cons_succ]
        refine wpAnyH_take (i := 10) (oi := ⟨some 36, _, _, _, _, _⟩) (v := ?_) rfl (by kernel_rfl) (by kernel_rfl) (by kernel_rfl) (fun _ _ _ h => h) (Or.inl ⟨by rfl, ?_⟩) (by assumption) ?_
        rotate_left
        · intro w hSw
          (try dsimp only at hSw)
          go_simp
          all_goals (with_reducible rfl)
        try simp only [Act.put, List.setIfInBounds_toArray, List.set_cons_zero, List.set_cons_succ]
        have hbt : But [b2] w4 (((((w4.setCell ⟨b2, 0, none⟩ (.int .i64 qs)).setCell ⟨b2, 1, none⟩ (.int .i64 qv)).setCell ⟨b2, 2, none⟩ (.int .i64 qn)).setCell ⟨b2, 3, none⟩ (.int .i64 qp)).setCell ⟨b2, 4, none⟩ (.slice A9 n c9)) := (((((But.refl _ _).setCell (by simp) _).setCell (by simp) _).setCell (by simp) _).setCell (by simp) _).setCell (by simp) _
        have HST : Hid (Below w.heap.size w (((((w4.setCell ⟨b2, 0, none⟩ (.int .i64 qs)).setCell ⟨b2, 1, none⟩ (.int .i64 qv)).setCell ⟨b2, 2, none⟩ (.int .i64 qn)).setCell ⟨b2, 3, none⟩ (.int .i64 qp)).setCell ⟨b2, 4, none⟩ (.slice A9 n c9)) ∧ (((((w4.setCell ⟨b2, 0, none⟩ (.int .i64 qs)).setCell ⟨b2, 1, none⟩ (.int .i64 qv)).setCell ⟨b2, 2, none⟩ (.int .i64 qn)).setCell ⟨b2, 3, none⟩ (.int .i64 qp)).setCell ⟨b2, 4, none⟩ (.slice A9 n c9)).heap[b]? = some (.cells #[.int .i64 s, .int .i64 v, .int .i64 need, .int .i64 ph, .slice A n c] 26 (0, 0)) ∧ (((((w4.setCell ⟨b2, 0, none⟩ (.int .i64 qs)).setCell ⟨b2, 1, none⟩ (.int .i64 qv)).setCell ⟨b2, 2, none⟩ (.int .i64 qn)).setCell ⟨b2, 3, none⟩ (.int .i64 qp)).setCell ⟨b2, 4, none⟩ (.slice A9 n c9)).heap[bo]? = some (.cells #[.int .i64 9, .int .i64 ix, .int .u8 op, .int .i64 e] 47 (0, 0))) := ⟨HB_w4.out.trans (hbt.below (B := w.heap.size) HB_w4.out.size (by intro g hg; simp at hg; have := HE.out.2.2.2.2; omega)), hbt.cells HX_w4.out (by simpa using hne'), hbt.cells HO4.out (by simpa using hno')⟩
        clear hbt
        refine wpAnyH_ready (rs := [11]) (by kernel_rfl) (by simp) (AllReadyH.cons (o := ⟨none, _, _, _, _, _⟩) rfl (fun K hK => ?_) AllReadyH.nil)
        go_simp
        refine hK.out _ _ (HST.out) (fun hHeld => ?_)
        clear hK K
        try simp only [Act.put, List.setIfInBounds_toArray, List.set_cons_zero, List.set_cons_succ]
        refine wpAnyH_take (i := 12) (oi := ⟨some 5, _, _, _, _, _⟩) (v := ?_) rfl (by kernel_rfl) (by kernel_rfl) (by kernel_rfl) (fun _ _ _ h => h) (Or.inl ⟨by rfl, ?_⟩) (by assumption) ?_
        rotate_left
        · intro w hSw
          (try dsimp only at hSw)
          go_simp
          all_goals (with_reducible rfl)
        try simp only [Act.put, List.setIfInBounds_toArray, List.set_cons_zero, List.set_cons_succ]
        refine wpAnyH_done (by kernel_rfl) ?_ _
        go_wp2
        obtain ⟨hw, hr9, hb9⟩ := two_end (w := w) (s := qs) (v := qv) (need := qn) (ph := qp) (c := c9) HRQ.out HA9.out HZ_w4.out HB_w4.out (by have := HE.out.2.2.2.2; omega)
        rw [HPQ.out]
        refine bodyPost_ret (v := .tuple #[.agg #[.int .i64 qs, .int .i64 qv, .int .i64 qn, .int .i64 qp, .slice A9 n c9], .int .i64 qe]) ?_ rfl ⟨A9, c9, ?_, ?_, HFR.out, hb9⟩
        · rw [results_cell_tmp rfl]
          simp [asAddr, Result.andThen, loadv26 hw]
        · simp only [HML.out]
        · simp only [HML.out]; exact hr9
      · have u7 : (kd == 7) = false := by simpa using h7
        have u8 : (kd == 8) = false := by simpa using h8
        have u9 : (kd == 9) = false := by simpa using h9
        have HP : Hid (P = Rn.told ⟨s, v, need, ph, ms⟩ (Rn.at_ ⟨s, v, need, ph, ms⟩ ix) op e) := by show _ = _; rw [← hP]; unfold Rn.does; rw [if_neg h7, if_neg h8, if_neg h9]
        clear hP h7 h8 h9
        obtain ⟨mx, hmx⟩ : ∃ m, max n 1 = m := ⟨_, rfl⟩
        have hmx1 : 1 ≤ mx := by omega
        have hmx2 : mx ≤ 1000000 := by omega
        have HAT : Hid (Rn.at_ ⟨s, v, need, ph, ms⟩ ix = ix % (mx : Int)) := by show _ = _; unfold Rn.at_; simp only [hln, hmx]
        have HMI : Hid ((if (n : Int) < 1 then (1 : Int) else (n : Int)) = (mx : Int)) := by show _ = _; split <;> omega
        have HMX := Lib.hid (And.intro hmx (And.intro hmx1 hmx2))
        clear hmx hmx1 hmx2
        go_enter Try.func32, Try.ntmps32
        go_wp2
        (try rw [hw1]); (try rw [hw1b]); (try rw [hw2]); (try rw [hb]); (try rw [hbo]); (try rw [hbb])
        clear hw1 hw1b hw2 hb hbo hbb
        obtain ⟨w3, h_w3⟩ : ∃ z, w2.drew = z := ⟨_, rfl⟩
        have hbd : Below w2.heap.size w2 w3 := h_w3 ▸ (Below.refl _ _).drew
        have HB_w3 := Lib.hid (HB_w2.out.trans (hbd.mono HB_w2.out.size))
        have HX_w3 := Lib.hid ((hbd.block _ (lt_of_block HX_w2.out)).trans HX_w2.out)
        have HZ_w3 := Lib.hid ((hbd.block _ (lt_of_block HZ_w2.out)).trans HZ_w2.out)
        have HR_w3 := Lib.hid (HR_w2.out.below hbd (Nat.le_refl _))
        have HO3 := Lib.hid ((hbd.block _ (lt_of_block HOX.out)).trans HOX.out)
        refine wp_region_held_drew (S := fun z => Below w.heap.size w z ∧ z.heap[b]? = some (.cells #[.int .i64 s, .int .i64 v, .int .i64 need, .int .i64 ph, .slice A n c] 26 (0, 0)) ∧ z.heap[bo]? = some (.cells #[.int .i64 kd, .int .i64 ix, .int .u8 op, .int .i64 e] 47 (0, 0))) (by kernel_rfl) (by rw [h_w3]; exact ⟨HB_w3.out, HX_w3.out, HO3.out⟩) (fun hHeld => ?_)
        rw [h_w3]
        clear hHeld
        have hHeld : Below w.heap.size w w3 ∧ w3.heap[b]? = some (.cells #[.int .i64 s, .int .i64 v, .int .i64 need, .int .i64 ph, .slice A n c] 26 (0, 0)) ∧ w3.heap[bo]? = some (.cells #[.int .i64 kd, .int .i64 ix, .int .u8 op, .int .i64 e] 47 (0, 0)) := ⟨HB_w3.out, HX_w3.out, HO3.out⟩
        clear h_w3 hbd m0 m1 m2 m3 m4 o0 o1 o2 o3
        refine wpAnyH_take (i := 0) (oi := ⟨some 37, _, _, _, _, _⟩) (v := ?_) rfl (by kernel_rfl) (by kernel_rfl) (by kernel_rfl) (fun _ _ _ h => h) (Or.inl ⟨by rfl, ?_⟩) (by assumption) ?_
        rotate_left
        · intro w hSw
          obtain ⟨⟨k0, k1, k2, k3, k4⟩, kbl⟩ := five26 hSw.2.1
          clear hSw
          go_simp
          all_goals (with_reducible rfl)
        try simp only [Act.put, List.setIfInBounds_toArray, List.set_cons_zero, List.set_cons_succ]
        refine wpAnyH_take (i := 1) (oi := ⟨some 38, _, _, _, _, _⟩) (v := ?_) rfl (by kernel_rfl) (by kernel_rfl) (by kernel_rfl) (fun _ _ _ h => h) (Or.inl ⟨by rfl, ?_⟩) (by assumption) ?_
        rotate_left
        · intro w hSw
          (try dsimp only at hSw)
          go_simp
          all_goals (with_reducible rfl)
        try simp only [Act.put, List.setIfInBounds_toArray, List.set_cons_zero, List.set_cons_succ]
        refine wpAnyH_take (i := 2) (oi := ⟨some 39, _, _, _, _, _⟩) (v := ?_) rfl (by kernel_rfl) (by kernel_rfl) (by kernel_rfl) (fun _ _ _ h => h) (Or.inl ⟨by rfl, ?_⟩) (by assumption) ?_
        rotate_left
        · intro w hSw
          have kk := (arr4 hSw.2.2).2.1
          clear hSw
          go_simp
          all_goals (with_reducible rfl)
        try simp only [Act.put, List.setIfInBounds_toArray, List.set_cons_zero, List.set_cons_succ]
        refine wpAnyH_take (i := 3) (oi := ⟨some 40, _, _, _, _, _⟩) (v := ?_) rfl (by kernel_rfl) (by kernel_rfl) (by kernel_rfl) (fun _ _ _ h => h) (Or.inl ⟨by rfl, ?_⟩) (by assumption) ?_
        rotate_left
        · intro w hSw
          (try dsimp only at hSw)
          go_simp
          all_goals (with_reducible rfl)
        try simp only [Act.put, List.setIfInBounds_toArray, List.set_cons_zero, List.set_cons_succ]
        refine wpAnyH_take (i := 4) (oi := ⟨some 41, _, _, _, _, _⟩) (v := ?_) rfl (by kernel_rfl) (by kernel_rfl) (by kernel_rfl) (fun _ _ _ h => h) (Or.inl ⟨by rfl, ?_⟩) (by assumption) ?_
        rotate_left
        · intro w hSw
          have kk := (five26 hSw.2.1).1.2.2.2.2
          clear hSw
          go_simp
          all_goals (with_reducible rfl)
        try simp only [Act.put, List.setIfInBounds_toArray, List.set_cons_zero, List.set_cons_succ]
        refine wpAnyH_take (i := 5) (oi := ⟨some 42, _, _, _, _, _⟩) (v := ?_) rfl (by kernel_rfl) (by kernel_rfl) (by kernel_rfl) (fun _ _ _ h => h) (Or.inl ⟨by rfl, ?_⟩) (by assumption) ?_
        rotate_left
        · intro w hSw
          (try dsimp only at hSw)
          go_simp
          all_goals (with_reducible rfl)
        try simp only [Act.put, List.setIfInBounds_toArray, List.set_cons_zero, List.set_cons_succ]
        refine wpAnyH_take (i := 6) (oi := ⟨some 43, _, _, _, _, _⟩) (v := ?_) rfl (by kernel_rfl) (by kernel_rfl) (by kernel_rfl) (fun _ _ _ h => h) (Or.inl ⟨by rfl, ?_⟩) (by assumption) ?_
        rotate_left
        · intro w hSw
          (try dsimp only at hSw)
          go_simp
          all_goals (with_reducible rfl)
        try simp only [Act.put, List.setIfInBounds_toArray, List.set_cons_zero, List.set_cons_succ]
        refine wpAnyH_take (i := 8) (oi := ⟨some 45, _, _, _, _, _⟩) (v := ?_) rfl (by kernel_rfl) (by kernel_rfl) (by kernel_rfl) (fun _ _ _ h => h) (Or.inl ⟨by rfl, ?_⟩) (by assumption) ?_
        rotate_left
        · intro w hSw
          (try dsimp only at hSw)
          go_simp
          all_goals (with_reducible rfl)
        try simp only [Act.put, List.setIfInBounds_toArray, List.set_cons_zero, List.set_cons_succ]
        refine wpAnyH_take (i := 9) (oi := ⟨some 46, _, _, _, _, _⟩) (v := ?_) rfl (by kernel_rfl) (by kernel_rfl) (by kernel_rfl) (fun _ _ _ h => h) (Or.inl ⟨by rfl, ?_⟩) (by assumption) ?_
        rotate_left
        · intro w hSw
          have kk := (arr4 hSw.2.2).2.2.1
          clear hSw
          go_simp
          all_goals (with_reducible rfl)
        try simp only [Act.put, List.setIfInBounds_toArray, List.set_cons_zero, List.set_cons_succ]
        refine wpAnyH_take (i := 10) (oi := ⟨some 47, _, _, _, _, _⟩) (v := ?_) rfl (by kernel_rfl) (by kernel_rfl) (by kernel_rfl) (fun _ _ _ h => h) (Or.inl ⟨by rfl, ?_⟩) (by assumption) ?_
        rotate_left
        · intro w hSw
          (try dsimp only at hSw)
          go_simp
          all_goals (with_reducible rfl)
        try simp only [Act.put, List.setIfInBounds_toArray, List.set_cons_zero, List.set_cons_succ]
        refine wpAnyH_take (i := 11) (oi := ⟨some 48, _, _, _, _, _⟩) (v := ?_) rfl (by kernel_rfl) (by kernel_rfl) (by kernel_rfl) (fun _ _ _ h => h) (Or.inl ⟨by rfl, ?_⟩) (by assumption) ?_
        rotate_left
        · intro w hSw
          have kk := (arr4 hSw.2.2).2.2.2
          clear hSw
          go_simp
          all_goals (with_reducible rfl)
        try simp only [Act.put, List.setIfInBounds_toArray, List.set_cons_zero, List.set_cons_succ]
        refine wpAnyH_ready (rs := [7]) (by kernel_rfl) (by simp) (AllReadyH.cons (o := ⟨some 44, _, _, _, _, _⟩) rfl (fun K hK => ?_) AllReadyH.nil)
        go_simp
        rw [HMI.out]
        refine (pick_is _ (x := ix) (n := (mx : Int)) (by have := HMX.out; omega) (by have := HMX.out; omega)).mono ?_
        rintro e' w' ⟨rfl, rfl⟩
        refine hK.out _ _ (⟨HB_w3.out, HX_w3.out, HO3.out⟩) (fun hHeld => ?_)
        clear hK K
        try simp only [Act.put, List.setIfInBounds_toArray, List.set_cons_zero, List.set_cons_succ]
        refine wpAnyH_ready (rs := [12]) (by kernel_rfl) (by simp) (AllReadyH.cons (o := ⟨some 49, _, _, _, _, _⟩) rfl (fun K hK => ?_) AllReadyH.nil)
        go_simp
        refine (told_is _ s v need ph (ix % (mx : Int)) op e HR_w3.out hn rfl).mono ?_
        rintro e' w4 ⟨A9, c9, he, hr9, hA9, hb9⟩
        subst he
        have HO4 := Lib.hid ((hb9.block _ (lt_of_block HO3.out)).trans HO3.out)
        obtain ⟨Q, hQ⟩ : ∃ Q, Rn.told ⟨s, v, need, ph, ms⟩ (ix % (mx : Int)) op e = Q := ⟨_, rfl⟩
        rw [hQ] at hr9 ⊢
        have HPQ : Hid (P = Q) := by show _ = _; rw [HP.out, HAT.out, hQ]
        have hml : Q.1.ms.length = n := by rw [← HPQ.out, HPL.out]; exact (does_len (r := ⟨s, v, need, ph, ms⟩) _).1.trans hln
        clear hQ HP
        obtain ⟨⟨qs, qv, qn, qp, qm⟩, qe⟩ := Q
        simp only [RVal] at hr9 hml ⊢
        simp only [hml] at hr9 ⊢
        have HML := Lib.hid hml
        have HRQ := Lib.hid hr9
        have HA9 : Hid (∀ j, A9.map (·.block) = some j → j ≠ b2) := fun j hj => by
          have h1 := hA9 j hj
          have h2 := lt_of_block HZ_w3.out
          omega
        have HFR : Hid (∀ j, A9.map (·.block) = some j → w.heap.size ≤ j) := fun j hj => by
          have h1 := hA9 j hj
          have h2 := HB_w3.out.size
          omega
        have HB_w4 := Lib.hid (HB_w3.out.trans (hb9.mono HB_w3.out.size))
        have HX_w4 := Lib.hid ((hb9.block _ (lt_of_block HX_w3.out)).trans HX_w3.out)
        have HZ_w4 := Lib.hid ((hb9.block _ (lt_of_block HZ_w3.out)).trans HZ_w3.out)
        have HR_w4 := Lib.hid (HR_w3.out.below hb9 (Nat.le_refl _))
        obtain ⟨⟨f0, f1, f2, f3, f4⟩, fbl⟩ := five26 HX_w4.out
        obtain ⟨g0, g1, g2, g3, g4⟩ := thaw5 HX_w4.out
        obtain ⟨⟨r0, r1, r2, r3, r4⟩, rbl⟩ := five26 HZ_w4.out
        obtain ⟨y0, y1, y2, y3, y4⟩ := thaw5 HZ_w4.out
        clear hr9 hA9 hb9 hml
        refine hK.out _ _ (⟨HB_w4.out, HX_w4.out, HO4.out⟩) (fun hHeld => ?_)
        clear hK K
        try simp only [Act.put, List.setIfInBounds_toArray, List.set_cons_zero, List.set_cons_succ]
        refine wpAnyH_take (i := 13) (oi := ⟨some 50, _, _, _, _, _⟩) (v := ?_) rfl (by kernel_rfl) (by kernel_rfl) (by kernel_rfl) (fun _ _ _ h => h) (Or.inl ⟨by rfl, ?_⟩) (by assumption) ?_
        rotate_left
        · intro w hSw
          (try dsimp only at hSw)
          go_simp
          all_goals (with_reducible rfl)
        try simp only [Act.put, List.setIfInBounds_toArray, List.set_cons_zero, List.set_cons_succ]
        refine wpAnyH_take (i := 14) (oi := ⟨some 51, _, _, _, _, _⟩) (v := ?_) rfl (by kernel_rfl) (by kernel_rfl) (by kernel_rfl) (fun _ _ _ h => h) (Or.inl ⟨by rfl, ?_⟩) (by assumption) ?_
        rotate_left
        · intro w hSw
          (try dsimp only at hSw)
          go_simp
          all_goals (with_reducible rfl)
        try simp only [Act.put, List.setIfInBounds_toArray, List.set_cons_zero, List.set_cons_succ]
        have hbt : But [b2] w4 (((((w4.setCell ⟨b2, 0, none⟩ (.int .i64 qs)).setCell ⟨b2, 1, none⟩ (.int .i64 qv)).setCell ⟨b2, 2, none⟩ (.int .i64 qn)).setCell ⟨b2, 3, none⟩ (.int .i64 qp)).setCell ⟨b2, 4, none⟩ (.slice A9 n c9)) := (((((But.refl _ _).setCell (by simp) _).setCell (by simp) _).setCell (by simp) _).setCell (by simp) _).setCell (by simp) _
        have HST : Hid (Below w.heap.size w (((((w4.setCell ⟨b2, 0, none⟩ (.int .i64 qs)).setCell ⟨b2, 1, none⟩ (.int .i64 qv)).setCell ⟨b2, 2, none⟩ (.int .i64 qn)).setCell ⟨b2, 3, none⟩ (.int .i64 qp)).setCell ⟨b2, 4, none⟩ (.slice A9 n c9)) ∧ (((((w4.setCell ⟨b2, 0, none⟩ (.int .i64 qs)).setCell ⟨b2, 1, none⟩ (.int .i64 qv)).setCell ⟨b2, 2, none⟩ (.int .i64 qn)).setCell ⟨b2, 3, none⟩ (.int .i64 qp)).setCell ⟨b2, 4, none⟩ (.slice A9 n c9)).heap[b]? = some (.cells #[.int .i64 s, .int .i64 v, .int .i64 need, .int .i64 ph, .slice A n c] 26 (0, 0)) ∧ (((((w4.setCell ⟨b2, 0, none⟩ (.int .i64 qs)).setCell ⟨b2, 1, none⟩ (.int .i64 qv)).setCell ⟨b2, 2, none⟩ (.int .i64 qn)).setCell ⟨b2, 3, none⟩ (.int .i64 qp)).setCell ⟨b2, 4, none⟩ (.slice A9 n c9)).heap[bo]? = some (.cells #[.int .i64 kd, .int .i64 ix, .int .u8 op, .int .i64 e] 47 (0, 0))) := ⟨HB_w4.out.trans (hbt.below (B := w.heap.size) HB_w4.out.size (by intro g hg; simp at hg; have := HE.out.2.2.2.2; omega)), hbt.cells HX_w4.out (by simpa using hne'), hbt.cells HO4.out (by simpa using hno')⟩
        clear hbt
        refine wpAnyH_ready (rs := [15]) (by kernel_rfl) (by simp) (AllReadyH.cons (o := ⟨none, _, _, _, _, _⟩) rfl (fun K hK => ?_) AllReadyH.nil)
        go_simp
        refine hK.out _ _ (HST.out) (fun hHeld => ?_)
        clear hK K
        try simp only [Act.put, List.setIfInBounds_toArray, List.set_cons_zero, List.set_cons_succ]
        refine wpAnyH_take (i := 16) (oi := ⟨some 5, _, _, _, _, _⟩) (v := ?_) rfl (by kernel_rfl) (by kernel_rfl) (by kernel_rfl) (fun _ _ _ h => h) (Or.inl ⟨by rfl, ?_⟩) (by assumption) ?_
        rotate_left
        · intro w hSw
          (try dsimp only at hSw)
          go_simp
          all_goals (with_reducible rfl)
        try simp only [Act.put, List.setIfInBounds_toArray, List.set_cons_zero, List.set_cons_succ]
        refine wpAnyH_done (by kernel_rfl) ?_ _
        go_wp2
        obtain ⟨hw, hr9, hb9⟩ := two_end (w := w) (s := qs) (v := qv) (need := qn) (ph := qp) (c := c9) HRQ.out HA9.out HZ_w4.out HB_w4.out (by have := HE.out.2.2.2.2; omega)
        rw [HPQ.out]
        refine bodyPost_ret (v := .tuple #[.agg #[.int .i64 qs, .int .i64 qv, .int .i64 qn, .int .i64 qp, .slice A9 n c9], .int .i64 qe]) ?_ rfl ⟨A9, c9, ?_, ?_, HFR.out, hb9⟩
        · rw [results_cell_tmp rfl]
          simp [asAddr, Result.andThen, loadv26 hw]
        · simp only [HML.out]
        · simp only [HML.out]; exact hr9
end
end Go.Proofs.Ytciihebaameccaa
