/- RoundTells' walk. -/
import Derived.Test.YtciihebaameccaaRndM
import Derived.Test.YtciihebaameccaaRefF
import Derived.Test.YtciihebaameccaaRndK
import Derived.Deep.CutRange
import Derived.Deep.CutBlock
namespace Go.Proofs.Ytciihebaameccaa
open Go.RowKit Go.Coop
set_option maxRecDepth 100000
theorem begin_small {s v n d : Int} {B : Rn} {E : Int} (h : beginR s v n d = (B, E)) : B.ms.length ≤ 1000000 := by
  unfold beginR at h
  split at h
  · rename_i hm
    injection h with h1 h2
    subst h1
    have h3 := hm.2.2
    simp
    omega
  · injection h with h1 h2
    subst h1
    simp
/-- the two boxes of the law's loop: one round in both -/
structure TR (w wr : World) (b3 b11 : Nat) (r : Rn) (A1 A2 : Option Addr) (n c1 c2 : Nat) : Prop where
  row1 : wr.heap[b3]? = some (.cells #[.int .i64 r.s, .int .i64 r.v, .int .i64 r.need, .int .i64 r.ph, .slice A1 n c1] 26 (0, 0))
  row2 : wr.heap[b11]? = some (.cells #[.int .i64 r.s, .int .i64 r.v, .int .i64 r.need, .int .i64 r.ph, .slice A2 n c2] 26 (0, 0))
  rd1 : RdV wr A1 n (r.ms.map IV)
  rd2 : RdV wr A2 n (r.ms.map IV)
  len : r.ms.length = n
  bel : Below w.heap.size w wr
  nb1 : 0 < n → ∀ j, A1.map (·.block) = some j → j ≠ b3 ∧ j ≠ b11
  nb2 : 0 < n → ∀ j, A2.map (·.block) = some j → j ≠ b3 ∧ j ≠ b11
  le : w.heap.size ≤ b3
theorem TR.below {w wr wc : World} {b3 b11 : Nat} {r : Rn} {A1 A2 : Option Addr} {n c1 c2 : Nat} (h : TR w wr b3 b11 r A1 A2 n c1 c2) (hb : Below wr.heap.size wr wc) : TR w wc b3 b11 r A1 A2 n c1 c2 :=
  ⟨(hb.block _ (lt_of_block h.row1)).trans h.row1, (hb.block _ (lt_of_block h.row2)).trans h.row2, h.rd1.below hb (Nat.le_refl _), h.rd2.below hb (Nat.le_refl _), h.len, h.bel.trans (hb.mono h.bel.size), h.nb1, h.nb2, h.le⟩
/-- what a step of the law's loop leaves: one round in both boxes -/
structure CR (wb wc : World) (b3 b14 b11 : Nat) (Q : Rn) (A3 A4 : Option Addr) (n c3 c4 : Nat) : Prop where
  row14 : wc.heap[b14]? = some (.cells #[.int .i64 Q.s, .int .i64 Q.v, .int .i64 Q.need, .int .i64 Q.ph, .slice A3 n c3] 26 (0, 0))
  row11 : wc.heap[b11]? = some (.cells #[.int .i64 Q.s, .int .i64 Q.v, .int .i64 Q.need, .int .i64 Q.ph, .slice A4 n c4] 26 (0, 0))
  rd3 : RdV wc A3 n (Q.ms.map IV)
  rd4 : RdV wc A4 n (Q.ms.map IV)
  len : Q.ms.length = n
  but : But [b14, b11] wb wc
  nb3 : 0 < n → ∀ j, A3.map (·.block) = some j → j ≠ b3 ∧ j ≠ b11
  nb4 : 0 < n → ∀ j, A4.map (·.block) = some j → j ≠ b3 ∧ j ≠ b11
theorem want_len (r : Rn) : r.wants.length ≤ r.ms.length := by
  unfold Rn.wants
  split
  · exact wantsL_length _ _ _
  · simp
theorem tlen (r : Rn) (i op e : Int) : (r.told i op e).1.ms.length = r.ms.length := by
  unfold Rn.told
  split
  · unfold Rn.marked; exact List.length_set
  · rfl
theorem plen (r : Rn) : r.publish.1.ms.length = r.ms.length := by
  unfold Rn.publish; split <;> (try split) <;> rfl
theorem glen (r : Rn) : r.give.1.ms.length = r.ms.length := by
  unfold Rn.give; split <;> (try split) <;> rfl
theorem llen (r : Rn) (i : Int) : (r.lose i).1.ms.length = r.ms.length := by
  unfold Rn.lose Rn.marked
  split <;> (try split) <;> first | rfl | exact List.length_set
theorem cr_of {w wb w17 w18 wz w19 wy : World} {b3 b14 b11 n c1 c2 c3 c4 : Nat} {A1 A2 A3 A4 : Option Addr} {r Q : Rn} (HT : TR w wb b3 b11 r A1 A2 n c1 c2) (h3 : b3 < b14) (h11 : b11 < b14) (hs : b14 < wb.heap.size) (h17 : Below wb.heap.size wb w17) (h18 : Below w17.heap.size w17 w18) (hz : But [b14] w18 wz) (hz14 : wz.heap[b14]? = some (.cells #[.int .i64 Q.s, .int .i64 Q.v, .int .i64 Q.need, .int .i64 Q.ph, .slice A3 n c3] 26 (0, 0)))
    (h19 : Below wz.heap.size wz w19) (hy : But [b11] w19 wy) (hy11 : wy.heap[b11]? = some (.cells #[.int .i64 Q.s, .int .i64 Q.v, .int .i64 Q.need, .int .i64 Q.ph, .slice A4 n c4] 26 (0, 0))) (hr3 : RdV w18 A3 n (Q.ms.map IV)) (hA3 : ∀ j, A3.map (·.block) = some j → w17.heap.size ≤ j) (hr4 : RdV w19 A4 n (Q.ms.map IV)) (hA4 : ∀ j, A4.map (·.block) = some j → wz.heap.size ≤ j ∨ A2.map (·.block) = some j) (hl : Q.ms.length = n) :
    CR wb wy b3 b14 b11 Q A3 A4 n c3 c4 := by
  have s17 := h17.size
  have s18 := h18.size
  have sz := hz.size
  refine ⟨?_, hy11, ?_, ?_, hl, ?_, ?_, ?_⟩
  · exact hy.cells ((h19.block _ (by omega)).trans hz14) (by simp; omega)
  · exact ((hr3.but0 hz (fun _ j hj hm => by have := hA3 j hj; simp at hm; omega)).below h19 (Nat.le_refl _)).but0 hy (fun _ j hj hm => by have := hA3 j hj; simp at hm; omega)
  · refine hr4.but0 hy (fun h0 j hj hm => ?_)
    rcases hA4 j hj with h | h
    · simp at hm; omega
    · have := HT.nb2 h0 j h
      simp at hm
      omega
  · refine But.trans (b := w18) (But.of_below (h17.trans (h18.mono s17))) ?_
    refine (hz.mono (by simp)).trans ?_
    exact (But.of_below h19).trans (hy.mono (by simp))
  · intro h0 j hj
    have := hA3 j hj
    omega
  · intro h0 j hj
    rcases hA4 j hj with h | h
    · omega
    · exact HT.nb2 h0 j h
structure CQ (wc : World) (b3 b14 b11 : Nat) (r Q : Rn) (A1 X A3 A4 : Option Addr) (n c1 c3 c4 : Nat) : Prop where
  row3 : wc.heap[b3]? = some (.cells #[.int .i64 r.s, .int .i64 r.v, .int .i64 r.need, .int .i64 r.ph, .slice A1 n c1] 26 (0, 0))
  row14 : wc.heap[b14]? = some (.cells #[.int .i64 Q.s, .int .i64 Q.v, .int .i64 Q.need, .int .i64 Q.ph, .slice A3 n c3] 26 (0, 0))
  row11 : wc.heap[b11]? = some (.cells #[.int .i64 Q.s, .int .i64 Q.v, .int .i64 Q.need, .int .i64 Q.ph, .slice A4 n c4] 26 (0, 0))
  rd1 : RdV wc A1 n (r.ms.map IV)
  rdX : RdV wc X n (r.ms.map IV)
  rd3 : RdV wc A3 n (Q.ms.map IV)
  rd4 : RdV wc A4 n (Q.ms.map IV)
theorem CQ.below {wc wd : World} {b3 b14 b11 : Nat} {r Q : Rn} {A1 X A3 A4 : Option Addr} {n c1 c3 c4 : Nat} (h : CQ wc b3 b14 b11 r Q A1 X A3 A4 n c1 c3 c4) (hb : Below wc.heap.size wc wd) : CQ wd b3 b14 b11 r Q A1 X A3 A4 n c1 c3 c4 :=
  ⟨(hb.block _ (lt_of_block h.row3)).trans h.row3, (hb.block _ (lt_of_block h.row14)).trans h.row14, (hb.block _ (lt_of_block h.row11)).trans h.row11, h.rd1.below hb (Nat.le_refl _), h.rdX.below hb (Nat.le_refl _), h.rd3.below hb (Nat.le_refl _), h.rd4.below hb (Nat.le_refl _)⟩
section
variable (w : World)
set_option maxHeartbeats 4000000 in
theorem tells_law (s v need ph : Int) {A : Option Addr} {n c : Nat} {ms : List Int} (h : RdV w A n (ms.map IV)) (x0 x1 x2 x3 : Int) {F : Option Addr} {m cF : Nat} {os : List OpR} (hF : OpsAt w F m os) : Calls Try.prog 4 #[.agg #[.int .i64 s, .int .i64 v, .int .i64 need, .int .i64 ph, .slice A n c], .agg #[.int .i64 x0, .int .i64 x1, .int .i64 x2, .int .i64 x3], .slice F m cF] w (Told w true) := by
  have hln : ms.length = n := by simpa using h.len
  have HF := Lib.hid hF
  have HIN := Lib.hid h
  obtain ⟨w1, hw1⟩ : ∃ z, w.alloc (.cells #[.int .i64 s, .int .i64 v, .int .i64 need, .int .i64 ph, .slice A n c] 26) = z := ⟨_, rfl⟩
  obtain ⟨w2, hw2⟩ : ∃ z, w1.alloc (.cells #[.int .i64 x0, .int .i64 x1, .int .i64 x2, .int .i64 x3] 22) = z := ⟨_, rfl⟩
  obtain ⟨hb1, hx1⟩ := box_new hw1
  obtain ⟨hb2, hx2⟩ := box_new hw2
  obtain ⟨b3, hb3⟩ : ∃ b, w.heap.size = b := ⟨_, rfl⟩
  obtain ⟨b4, hb4⟩ : ∃ b, w1.heap.size = b := ⟨_, rfl⟩
  have hlt : b3 < b4 := by rw [← hb3, ← hb4]; exact lt_of_block hx1
  have hx12 := (hb2.block _ (lt_of_block hx1)).trans hx1
  rw [hb3] at hx12
  rw [hb4] at hx2
  have HB2 := Lib.hid (hb1.trans (hb2.mono hb1.size))
  have HR2 := Lib.hid (h.below HB2.out (Nat.le_refl _))
  have HX2 := Lib.hid hx12
  have HK2 := Lib.hid hx2
  have HLT := Lib.hid (And.intro hlt hb3)
  obtain ⟨⟨f0, f1, f2, f3, f4⟩, fbl⟩ := five26 HX2.out
  obtain ⟨k0, k1, k2, k3⟩ := arr4 HK2.out
  clear hF h hb1 hb2 hx1 hx2 hx12 hlt
  by_cases h40 : (40 : Int) < (n : Int)
  · have z0 := decide_eq_true h40
    clear h40
    go_enter Try.func4, Try.ntmps4
    go_wp2_with fail
    (try rw [hw1]); (try rw [hw2]); (try rw [hb3]); (try rw [hb4])
    clear hw1 hw2 hb3 hb4
    refine (awake_is _).mono ?_
    rintro e w9 ⟨rfl, hb9⟩
    have HB9 : Hid (Below w.heap.size w w9) := HB2.out.trans (hb9.mono HB2.out.size)
    clear hb9
    go_wp2
    go_ret
    exact told_mk rfl HB9.out
  · by_cases h300 : (300 : Int) < x2
    · have z0 := decide_eq_false h40
      have z1 := decide_eq_true h300
      have HN : Hid (n ≤ 40) := by show _ ≤ _; omega
      clear h40 h300
      go_enter Try.func4, Try.ntmps4
      go_wp2_with fail
      (try rw [hw1]); (try rw [hw2]); (try rw [hb3]); (try rw [hb4])
      clear hw1 hw2 hb3 hb4
      refine (awake_is _).mono ?_
      rintro e w9 ⟨rfl, hb9⟩
      have HB9 : Hid (Below w.heap.size w w9) := HB2.out.trans (hb9.mono HB2.out.size)
      clear hb9
      go_wp2
      go_ret
      exact told_mk rfl HB9.out
    · have z0 := decide_eq_false h40
      have z1 := decide_eq_false h300
      have HN : Hid (n ≤ 40) := by show _ ≤ _; omega
      clear h40 h300
      go_enter Try.func4, Try.ntmps4
      go_wp2_with fail
      (try rw [hw1]); (try rw [hw2]); (try rw [hb3]); (try rw [hb4])
      clear hw1 hw2 hb3 hb4
      refine (begin_is _ x0 x1 x2 x3).mono ?_
      rintro e w3 ⟨A5, c5, rfl, hr5, hf5, hb5⟩
      obtain ⟨P0, hP0⟩ : ∃ P, beginR x0 x1 x2 x3 = P := ⟨_, rfl⟩
      rw [hP0] at hr5 ⊢
      obtain ⟨B0, E0⟩ := P0
      have HP0 := Lib.hid hP0
      simp only [RVal] at hr5 ⊢
      have hn5 : B0.ms.length ≤ 1000000 := begin_small hP0
      obtain ⟨q5, hq5⟩ : ∃ k, B0.ms.length = k := ⟨_, rfl⟩
      rw [hq5] at hr5 hn5 ⊢
      obtain ⟨b7, hb7⟩ : ∃ b, w3.heap.size = b := ⟨_, rfl⟩
      obtain ⟨w4, hw4⟩ : ∃ z, w3.alloc (.cells #[.int .i64 B0.s, .int .i64 B0.v, .int .i64 B0.need, .int .i64 B0.ph, .slice A5 q5 c5] 26) = z := ⟨_, rfl⟩
      obtain ⟨hb34, hx7⟩ := box_new hw4
      rw [hb7] at hx7
      have hb24 : Below w2.heap.size w2 w4 := hb5.trans (hb34.mono hb5.size)
      have HB4 := Lib.hid (HB2.out.trans (hb24.mono HB2.out.size))
      have HX4 := Lib.hid ((hb24.block _ (lt_of_block HX2.out)).trans HX2.out)
      have HK4 := Lib.hid ((hb24.block _ (lt_of_block HK2.out)).trans HK2.out)
      have HR4 := Lib.hid (HR2.out.below hb24 (Nat.le_refl _))
      have HR54 := Lib.hid (hr5.below hb34 (Nat.le_refl _))
      have HX74 := Lib.hid hx7
      have HN5 := Lib.hid (And.intro hn5 hq5)
      clear hr5 hf5 hb5 hb34 hx7 hb24 hn5 hq5 hP0 f0 f1 f2 f3 f4 fbl k0 k1 k2 k3
      obtain ⟨k0, k1, k2, k3⟩ := arr4 HK4.out
      go_wp2_with fail
      (try rw [hw4]); (try rw [hb7])
      clear hw4 hb7
      refine (rbegin_is _ x0 x1 x2 x3).mono ?_
      rintro e w5 ⟨A6, c6, rfl, hr6, hf6, hb6⟩
      rw [HP0.out] at hr6 ⊢
      simp only [RVal] at hr6 ⊢
      rw [HN5.out.2] at hr6 ⊢
      obtain ⟨b9, hb9⟩ : ∃ b, w5.heap.size = b := ⟨_, rfl⟩
      obtain ⟨w6, hw6⟩ : ∃ z, w5.alloc (.cells #[.int .i64 B0.s, .int .i64 B0.v, .int .i64 B0.need, .int .i64 B0.ph, .slice A6 q5 c6] 26) = z := ⟨_, rfl⟩
      obtain ⟨hb56, hx9⟩ := box_new hw6
      rw [hb9] at hx9
      have hb46 : Below w4.heap.size w4 w6 := hb6.trans (hb56.mono hb6.size)
      have HB6 := Lib.hid (HB4.out.trans (hb46.mono HB4.out.size))
      have HX6 := Lib.hid ((hb46.block _ (lt_of_block HX4.out)).trans HX4.out)
      have HR6 := Lib.hid (HR4.out.below hb46 (Nat.le_refl _))
      have HR56 := Lib.hid (HR54.out.below hb46 (Nat.le_refl _))
      have HX76 := Lib.hid ((hb46.block _ (lt_of_block HX74.out)).trans HX74.out)
      have HR66 := Lib.hid (hr6.below hb56 (Nat.le_refl _))
      have HX96 := Lib.hid hx9
      clear hr6 hf6 hb6 hb56 hx9 hb46 k0 k1 k2 k3
      obtain ⟨⟨f0, f1, f2, f3, f4⟩, fbl⟩ := five26 HX76.out
      obtain ⟨⟨g0, g1, g2, g3, g4⟩, gbl⟩ := five26 HX96.out
      go_wp2_with fail
      (try rw [hw6]); (try rw [hb9])
      clear hw6 hb9
      refine (sameR_is _ B0.s B0.v B0.need B0.ph B0.s B0.v B0.need B0.ph HR56.out HR66.out HN5.out.1 (q := true) (decide_eq_true (SameR.refl _))).mono ?_
      rintro e w7 ⟨rfl, hb67⟩
      have HB7 := Lib.hid (HB6.out.trans (hb67.mono HB6.out.size))
      have HX7 := Lib.hid ((hb67.block _ (lt_of_block HX6.out)).trans HX6.out)
      have HR7 := Lib.hid (HR6.out.below hb67 (Nat.le_refl _))
      clear hb67 f0 f1 f2 f3 f4 fbl g0 g1 g2 g3 g4 gbl HX76 HX96 HR56 HR66 HX74 HR54 HB6 HX6 HR6 HB4 HX4 HK4 HR4 HN5 HP0
      obtain ⟨⟨f0, f1, f2, f3, f4⟩, fbl⟩ := five26 HX7.out
      obtain ⟨b11, hb11⟩ : ∃ b, w7.heap.size = b := ⟨_, rfl⟩
      obtain ⟨w8, hw8⟩ : ∃ z, w7.alloc (.cells #[.int .i64 s, .int .i64 v, .int .i64 need, .int .i64 ph, .slice A n c] 26) = z := ⟨_, rfl⟩
      obtain ⟨hb78, hx11⟩ := box_new hw8
      rw [hb11] at hx11
      have HB8 := Lib.hid (HB7.out.trans (hb78.mono HB7.out.size))
      have HX8 := Lib.hid ((hb78.block _ (lt_of_block HX7.out)).trans HX7.out)
      have HR8 := Lib.hid (HR7.out.below hb78 (Nat.le_refl _))
      have HX118 := Lib.hid hx11
      have H311 : Hid (b3 < b11) := by show _ < _; rw [← hb11]; exact lt_of_block HX7.out
      clear hb78 hx11
      go_wp2
      (try rw [hw8]); (try rw [hb11])
      clear hw8 hb11
      have HN0 : Hid (n ≤ 1000000) := by have := HN.out; show _ ≤ _; omega
      have HT0 : Hid (TR w w8 b3 b11 ⟨s, v, need, ph, ms⟩ A A n c c) := ⟨HX8.out, HX118.out, HR8.out, HR8.out, hln, HB8.out, (fun h0 j hj => by
        obtain ⟨ad9, e9, h1, _⟩ := HIN.out.cells h0
        rw [e9] at hj
        simp at hj
        have := HLT.out.2
        have := H311.out
        omega), (fun h0 j hj => by
        obtain ⟨ad9, e9, h1, _⟩ := HIN.out.cells h0
        rw [e9] at hj
        simp at hj
        have := HLT.out.2
        have := H311.out
        omega), by have := HLT.out.2; omega⟩
      clear f0 f1 f2 f3 f4 fbl HX8 HX118 HR8 HB8 HX7 HR7 HX2 HK2 HR2 HB2 HB7 z0 z1 hln
      go_loopg [12, 13, 14, 15, 16, 17] (m + 1) (fun kx s12 _ _ _ _ _ wr => ∃ (i : Int) (r : Rn) (A1 A2 : Option Addr) (c1 c2 : Nat), (-1 ≤ i ∧ i ≤ m) ∧ ((m : Int) - i).toNat ≤ kx ∧ s12 = .int .i64 i ∧ Hid (TR w wr b3 b11 r A1 A2 n c1 c2))
      case atStart => exact ⟨-1, _, A, A, c, c, by omega, by omega, rfl, HT0⟩
      case round =>
        obtain ⟨i, r, A1, A2, c1, c2, hi, hk, rfl, HT⟩ := hrel
        clear HT0
        by_cases hlt : i < (m : Int)
        · by_cases h60 : i < 60
          · obtain ⟨⟨f0, f1, f2, f3, f4⟩, fbl⟩ := five26 HT.out.row1
            have hwi : IntKind.i64.wrap (i + 1) = i + 1 := IntWalk.i64_in _ (by omega)
            go_wp2_with fail
            refine (copyInts_is _ HT.out.rd1 HN0.out).mono ?_
            rintro e wa ⟨X, cX, rfl, hoX, hba⟩
            have HTa := Lib.hid (HT.out.below hba)
            have HXa := Lib.hid hoX.rd
            have HXB := Lib.hid hoX.block
            obtain ⟨b14, hb14⟩ : ∃ b, wa.heap.size = b := ⟨_, rfl⟩
            obtain ⟨wb, hwb⟩ : ∃ z, wa.alloc (.cells #[.int .i64 r.s, .int .i64 r.v, .int .i64 r.need, .int .i64 r.ph, .slice A1 n c1] 26) = z := ⟨_, rfl⟩
            obtain ⟨hbb, hx14⟩ := box_new hwb
            rw [hb14] at hx14
            have HTb := Lib.hid (HTa.out.below hbb)
            have HXb := Lib.hid (HXa.out.below hbb (Nat.le_refl _))
            have HX14 := Lib.hid hx14
            have H14S : Hid (wa.heap.size = b14 ∧ b11 < wr.heap.size ∧ w.heap.size ≤ b11) := ⟨hb14, lt_of_block HT.out.row2, by have := HT.out.le; have := H311.out; omega⟩
            have H14 : Hid (b3 < b14 ∧ b11 < b14) := by show _ ∧ _; rw [← hb14]; exact ⟨lt_of_block HTa.out.row1, lt_of_block HTa.out.row2⟩
            clear hoX hba hbb hx14 f0 f1 f2 f3 f4 fbl HXa
            obtain ⟨⟨f0, f1, f2, f3, f4⟩, fbl⟩ := five26 HTa.out.row1
            go_upto_if 77 with (fail)
            (try rw [hwb]); (try rw [hb14])
            clear hwb hb14
            go_cut [15, 16, 17] from 62 to 184 (fun v15 v16 _ wc => ∃ (Q : Rn) (E : Int) (A3 A4 : Option Addr) (c3 c4 : Nat), v15 = .int .i64 E ∧ v16 = .int .i64 E ∧ Hid (CR wb wc b3 b14 b11 Q A3 A4 n c3 c4))
            case first =>
              by_cases hm1 : i = -1
              · subst hm1
                have HC0 : Hid (CR wb wb b3 b14 b11 r A1 A2 n c1 c2) := ⟨HX14.out, HTb.out.row2, HTb.out.rd1, HTb.out.rd2, HTb.out.len, But.refl _ _, HTb.out.nb1, HTb.out.nb2⟩
                go_wp2
                go_meet
                case rel => exact ⟨r, 0, A1, A2, c1, c2, rfl, rfl, HC0⟩
              · obtain ⟨j, rfl⟩ : ∃ j : Nat, i = (j : Int) := ⟨i.toNat, by omega⟩
                have hjm : j < m := by omega
                obtain ⟨o, ad, ho, hFa, hst⟩ := (HF.out.below HTb.out.bel (Nat.le_refl _)).step hjm
                subst hFa
                obtain ⟨i0, i1, i2, i3⟩ := hst wb (Below.refl _ _)
                have hi1 : (0 : Int) ≤ (j : Int) := by omega
                obtain ⟨b17, hb17⟩ : ∃ b, wb.heap.size = b := ⟨_, rfl⟩
                obtain ⟨w17, hw17⟩ : ∃ z, wb.alloc (.cells #[.int .i64 o.kd, .int .i64 o.ix, .int .u8 o.op, .int .i64 o.e] 47) = z := ⟨_, rfl⟩
                obtain ⟨hbb, hx17⟩ := box_new hw17
                rw [hb17] at hx17
                have HB17 := Lib.hid hbb
                have HT17 := Lib.hid (HTb.out.below hbb)
                have HX1417 := Lib.hid ((hbb.block _ (lt_of_block HX14.out)).trans HX14.out)
                have HO17 := Lib.hid hx17
                have HLO : Hid (b14 < b17) := by show _ < _; rw [← hb17]; exact lt_of_block HX14.out
                clear hbb hx17 ho hst f0 f1 f2 f3 f4 fbl
                obtain ⟨⟨f0, f1, f2, f3, f4⟩, fbl⟩ := five26 HT17.out.row1
                obtain ⟨k0, k1, k2, k3⟩ := arr4 HO17.out
                by_cases hk1 : o.kd = 1
                · as_aux_lemma =>
                    obtain ⟨P0, hP0⟩ : ∃ P, Rn.told ⟨r.s, r.v, r.need, r.ph, r.ms⟩ o.ix o.op o.e = P := ⟨_, rfl⟩
                    obtain ⟨Q, E⟩ := P0
                    have HQ := Lib.hid hP0
                    have HQL : Hid (Q.ms.length = n) := by show _ = _; have h1 := tlen r o.ix o.op o.e; rw [hP0] at h1; exact h1.trans HTb.out.len
                    clear hP0
                    have u1 : (o.kd == 1) = true := by simp [hk1]
                    clear hk1
                    go_wp2_with fail
                    (try rw [hw17]); (try rw [hb17])
                    clear hw17 hb17
                    refine (told_is _ r.s r.v r.need r.ph o.ix o.op o.e HT17.out.rd1 HN0.out (P := (Q, E)) HQ.out).mono ?_
                    rintro e' w18 ⟨A3, c3, rfl, hr3, hA3, hb18⟩
                    simp only [RVal, HQL.out] at hr3 ⊢
                    have HB18 := Lib.hid hb18
                    have HR3 := Lib.hid (And.intro hr3 hA3)
                    have HX18 := Lib.hid ((hb18.block _ (lt_of_block HX1417.out)).trans HX1417.out)
                    have HT18 := Lib.hid (HT17.out.below hb18)
                    have HO18 := Lib.hid ((hb18.block _ (lt_of_block HO17.out)).trans HO17.out)
                    clear f0 f1 f2 f3 f4 fbl i0 i1 i2 i3 hr3 hA3 hb18
                    obtain ⟨⟨f0, f1, f2, f3, f4⟩, fbl⟩ := five26 HX18.out
                    obtain ⟨t0, t1, t2, t3, t4⟩ := thaw5 HX18.out
                    obtain ⟨wz, hwz⟩ : ∃ z, (((((w18.setCell ⟨b14, 0, none⟩ (.int .i64 Q.s)).setCell ⟨b14, 1, none⟩ (.int .i64 Q.v)).setCell ⟨b14, 2, none⟩ (.int .i64 Q.need)).setCell ⟨b14, 3, none⟩ (.int .i64 Q.ph)).setCell ⟨b14, 4, none⟩ (.slice A3 n c3)) = z := ⟨_, rfl⟩
                    have hbz : But [b14] w18 wz := hwz ▸ (((((But.refl _ _).setCell (by simp) _).setCell (by simp) _).setCell (by simp) _).setCell (by simp) _).setCell (by simp) _
                    have hrz := row5 (v0 := .int .i64 Q.s) (v1 := .int .i64 Q.v) (v2 := .int .i64 Q.need) (v3 := .int .i64 Q.ph) (v4 := .slice A3 n c3) HX18.out
                    rw [hwz] at hrz
                    have HBZ := Lib.hid hbz
                    have HXZ := Lib.hid hrz
                    have HT11 := Lib.hid (hbz.cells HT18.out.row2 (by have := H14.out; simp; omega))
                    have HOZ := Lib.hid (hbz.cells HO18.out (by have := HLO.out; simp; omega))
                    have HRZ := Lib.hid (HT18.out.rd2.but0 hbz (fun h0 j hj hm => by
                      obtain ⟨ad9, e9, h1, _⟩ := HTa.out.rd2.cells h0
                      rw [e9] at hj
                      simp at hj hm
                      have := H14S.out.1
                      omega))
                    clear hbz hrz
                    obtain ⟨⟨g0, g1, g2, g3, g4⟩, gbl⟩ := five26 HT11.out
                    obtain ⟨i0, i1, i2, i3⟩ := arr4 HOZ.out
                    go_wp2_with fail
                    (try rw [hwz])
                    clear hwz f0 f1 f2 f3 f4 fbl t0 t1 t2 t3 t4
                    refine (rtold_is _ r.s r.v r.need r.ph o.ix o.op o.e HRZ.out HN0.out (P := (Q, E)) HQ.out).mono ?_
                    rintro e' w19 ⟨A4, c4, rfl, hr4, hA4, hb19⟩
                    simp only [RVal, HQL.out] at hr4 ⊢
                    have HX19 := Lib.hid ((hb19.block _ (lt_of_block HT11.out)).trans HT11.out)
                    clear g0 g1 g2 g3 g4 gbl i0 i1 i2 i3
                    obtain ⟨⟨g0, g1, g2, g3, g4⟩, gbl⟩ := five26 HX19.out
                    obtain ⟨t0, t1, t2, t3, t4⟩ := thaw5 HX19.out
                    obtain ⟨wy, hwy⟩ : ∃ z, (((((w19.setCell ⟨b11, 0, none⟩ (.int .i64 Q.s)).setCell ⟨b11, 1, none⟩ (.int .i64 Q.v)).setCell ⟨b11, 2, none⟩ (.int .i64 Q.need)).setCell ⟨b11, 3, none⟩ (.int .i64 Q.ph)).setCell ⟨b11, 4, none⟩ (.slice A4 n c4)) = z := ⟨_, rfl⟩
                    have hby : But [b11] w19 wy := hwy ▸ (((((But.refl _ _).setCell (by simp) _).setCell (by simp) _).setCell (by simp) _).setCell (by simp) _).setCell (by simp) _
                    have hry := row5 (v0 := .int .i64 Q.s) (v1 := .int .i64 Q.v) (v2 := .int .i64 Q.need) (v3 := .int .i64 Q.ph) (v4 := .slice A4 n c4) HX19.out
                    rw [hwy] at hry
                    have HC : Hid (CR wb wy b3 b14 b11 Q A3 A4 n c3 c4) := cr_of HTb.out H14.out.1 H14.out.2 (lt_of_block HX14.out) HB17.out HB18.out HBZ.out HXZ.out hb19 hby hry HR3.out.1 HR3.out.2 hr4 hA4 HQL.out
                    clear hby hry hr4 hA4 hb19
                    go_wp2
                    (try rw [hwy])
                    go_meet
                    case rel => exact ⟨Q, E, A3, A4, c3, c4, rfl, rfl, HC⟩
                · by_cases hk2 : o.kd = 2
                  · as_aux_lemma =>
                      obtain ⟨P0, hP0⟩ : ∃ P, Rn.told ⟨r.s, r.v, r.need, r.ph, r.ms⟩ o.ix o.op o.e = P := ⟨_, rfl⟩
                      obtain ⟨Q, E⟩ := P0
                      have HQ := Lib.hid hP0
                      have HQL : Hid (Q.ms.length = n) := by show _ = _; have h1 := tlen r o.ix o.op o.e; rw [hP0] at h1; exact h1.trans HTb.out.len
                      clear hP0
                      have u1 : (o.kd == 1) = false := by simp [hk1]
                      have u2 : (o.kd == 2) = true := by simp [hk2]
                      clear hk1 hk2
                      go_wp2_with fail
                      (try rw [hw17]); (try rw [hb17])
                      clear hw17 hb17
                      refine (told_is _ r.s r.v r.need r.ph o.ix o.op o.e HT17.out.rd1 HN0.out (P := (Q, E)) HQ.out).mono ?_
                      rintro e' w18 ⟨A3, c3, rfl, hr3, hA3, hb18⟩
                      simp only [RVal, HQL.out] at hr3 ⊢
                      have HB18 := Lib.hid hb18
                      have HR3 := Lib.hid (And.intro hr3 hA3)
                      have HX18 := Lib.hid ((hb18.block _ (lt_of_block HX1417.out)).trans HX1417.out)
                      have HT18 := Lib.hid (HT17.out.below hb18)
                      have HO18 := Lib.hid ((hb18.block _ (lt_of_block HO17.out)).trans HO17.out)
                      clear f0 f1 f2 f3 f4 fbl i0 i1 i2 i3 hr3 hA3 hb18
                      obtain ⟨⟨f0, f1, f2, f3, f4⟩, fbl⟩ := five26 HX18.out
                      obtain ⟨t0, t1, t2, t3, t4⟩ := thaw5 HX18.out
                      obtain ⟨wz, hwz⟩ : ∃ z, (((((w18.setCell ⟨b14, 0, none⟩ (.int .i64 Q.s)).setCell ⟨b14, 1, none⟩ (.int .i64 Q.v)).setCell ⟨b14, 2, none⟩ (.int .i64 Q.need)).setCell ⟨b14, 3, none⟩ (.int .i64 Q.ph)).setCell ⟨b14, 4, none⟩ (.slice A3 n c3)) = z := ⟨_, rfl⟩
                      have hbz : But [b14] w18 wz := hwz ▸ (((((But.refl _ _).setCell (by simp) _).setCell (by simp) _).setCell (by simp) _).setCell (by simp) _).setCell (by simp) _
                      have hrz := row5 (v0 := .int .i64 Q.s) (v1 := .int .i64 Q.v) (v2 := .int .i64 Q.need) (v3 := .int .i64 Q.ph) (v4 := .slice A3 n c3) HX18.out
                      rw [hwz] at hrz
                      have HBZ := Lib.hid hbz
                      have HXZ := Lib.hid hrz
                      have HT11 := Lib.hid (hbz.cells HT18.out.row2 (by have := H14.out; simp; omega))
                      have HOZ := Lib.hid (hbz.cells HO18.out (by have := HLO.out; simp; omega))
                      have HRZ := Lib.hid (HT18.out.rd2.but0 hbz (fun h0 j hj hm => by
                        obtain ⟨ad9, e9, h1, _⟩ := HTa.out.rd2.cells h0
                        rw [e9] at hj
                        simp at hj hm
                        have := H14S.out.1
                        omega))
                      clear hbz hrz
                      obtain ⟨⟨g0, g1, g2, g3, g4⟩, gbl⟩ := five26 HT11.out
                      obtain ⟨i0, i1, i2, i3⟩ := arr4 HOZ.out
                      go_wp2_with fail
                      (try rw [hwz])
                      clear hwz f0 f1 f2 f3 f4 fbl t0 t1 t2 t3 t4
                      refine (rtold_is _ r.s r.v r.need r.ph o.ix o.op o.e HRZ.out HN0.out (P := (Q, E)) HQ.out).mono ?_
                      rintro e' w19 ⟨A4, c4, rfl, hr4, hA4, hb19⟩
                      simp only [RVal, HQL.out] at hr4 ⊢
                      have HX19 := Lib.hid ((hb19.block _ (lt_of_block HT11.out)).trans HT11.out)
                      clear g0 g1 g2 g3 g4 gbl i0 i1 i2 i3
                      obtain ⟨⟨g0, g1, g2, g3, g4⟩, gbl⟩ := five26 HX19.out
                      obtain ⟨t0, t1, t2, t3, t4⟩ := thaw5 HX19.out
                      obtain ⟨wy, hwy⟩ : ∃ z, (((((w19.setCell ⟨b11, 0, none⟩ (.int .i64 Q.s)).setCell ⟨b11, 1, none⟩ (.int .i64 Q.v)).setCell ⟨b11, 2, none⟩ (.int .i64 Q.need)).setCell ⟨b11, 3, none⟩ (.int .i64 Q.ph)).setCell ⟨b11, 4, none⟩ (.slice A4 n c4)) = z := ⟨_, rfl⟩
                      have hby : But [b11] w19 wy := hwy ▸ (((((But.refl _ _).setCell (by simp) _).setCell (by simp) _).setCell (by simp) _).setCell (by simp) _).setCell (by simp) _
                      have hry := row5 (v0 := .int .i64 Q.s) (v1 := .int .i64 Q.v) (v2 := .int .i64 Q.need) (v3 := .int .i64 Q.ph) (v4 := .slice A4 n c4) HX19.out
                      rw [hwy] at hry
                      have HC : Hid (CR wb wy b3 b14 b11 Q A3 A4 n c3 c4) := cr_of HTb.out H14.out.1 H14.out.2 (lt_of_block HX14.out) HB17.out HB18.out HBZ.out HXZ.out hb19 hby hry HR3.out.1 HR3.out.2 hr4 hA4 HQL.out
                      clear hby hry hr4 hA4 hb19
                      go_wp2
                      (try rw [hwy])
                      go_meet
                      case rel => exact ⟨Q, E, A3, A4, c3, c4, rfl, rfl, HC⟩
                  · by_cases hk3 : o.kd = 3
                    · as_aux_lemma =>
                        obtain ⟨P0, hP0⟩ : ∃ P, Rn.told ⟨r.s, r.v, r.need, r.ph, r.ms⟩ o.ix o.op o.e = P := ⟨_, rfl⟩
                        obtain ⟨Q, E⟩ := P0
                        have HQ := Lib.hid hP0
                        have HQL : Hid (Q.ms.length = n) := by show _ = _; have h1 := tlen r o.ix o.op o.e; rw [hP0] at h1; exact h1.trans HTb.out.len
                        clear hP0
                        have u1 : (o.kd == 1) = false := by simp [hk1]
                        have u2 : (o.kd == 2) = false := by simp [hk2]
                        have u3 : (o.kd == 3) = true := by simp [hk3]
                        clear hk1 hk2 hk3
                        go_wp2_with fail
                        (try rw [hw17]); (try rw [hb17])
                        clear hw17 hb17
                        refine (told_is _ r.s r.v r.need r.ph o.ix o.op o.e HT17.out.rd1 HN0.out (P := (Q, E)) HQ.out).mono ?_
                        rintro e' w18 ⟨A3, c3, rfl, hr3, hA3, hb18⟩
                        simp only [RVal, HQL.out] at hr3 ⊢
                        have HB18 := Lib.hid hb18
                        have HR3 := Lib.hid (And.intro hr3 hA3)
                        have HX18 := Lib.hid ((hb18.block _ (lt_of_block HX1417.out)).trans HX1417.out)
                        have HT18 := Lib.hid (HT17.out.below hb18)
                        have HO18 := Lib.hid ((hb18.block _ (lt_of_block HO17.out)).trans HO17.out)
                        clear f0 f1 f2 f3 f4 fbl i0 i1 i2 i3 hr3 hA3 hb18
                        obtain ⟨⟨f0, f1, f2, f3, f4⟩, fbl⟩ := five26 HX18.out
                        obtain ⟨t0, t1, t2, t3, t4⟩ := thaw5 HX18.out
                        obtain ⟨wz, hwz⟩ : ∃ z, (((((w18.setCell ⟨b14, 0, none⟩ (.int .i64 Q.s)).setCell ⟨b14, 1, none⟩ (.int .i64 Q.v)).setCell ⟨b14, 2, none⟩ (.int .i64 Q.need)).setCell ⟨b14, 3, none⟩ (.int .i64 Q.ph)).setCell ⟨b14, 4, none⟩ (.slice A3 n c3)) = z := ⟨_, rfl⟩
                        have hbz : But [b14] w18 wz := hwz ▸ (((((But.refl _ _).setCell (by simp) _).setCell (by simp) _).setCell (by simp) _).setCell (by simp) _).setCell (by simp) _
                        have hrz := row5 (v0 := .int .i64 Q.s) (v1 := .int .i64 Q.v) (v2 := .int .i64 Q.need) (v3 := .int .i64 Q.ph) (v4 := .slice A3 n c3) HX18.out
                        rw [hwz] at hrz
                        have HBZ := Lib.hid hbz
                        have HXZ := Lib.hid hrz
                        have HT11 := Lib.hid (hbz.cells HT18.out.row2 (by have := H14.out; simp; omega))
                        have HOZ := Lib.hid (hbz.cells HO18.out (by have := HLO.out; simp; omega))
                        have HRZ := Lib.hid (HT18.out.rd2.but0 hbz (fun h0 j hj hm => by
                          obtain ⟨ad9, e9, h1, _⟩ := HTa.out.rd2.cells h0
                          rw [e9] at hj
                          simp at hj hm
                          have := H14S.out.1
                          omega))
                        clear hbz hrz
                        obtain ⟨⟨g0, g1, g2, g3, g4⟩, gbl⟩ := five26 HT11.out
                        obtain ⟨i0, i1, i2, i3⟩ := arr4 HOZ.out
                        go_wp2_with fail
                        (try rw [hwz])
                        clear hwz f0 f1 f2 f3 f4 fbl t0 t1 t2 t3 t4
                        refine (rtold_is _ r.s r.v r.need r.ph o.ix o.op o.e HRZ.out HN0.out (P := (Q, E)) HQ.out).mono ?_
                        rintro e' w19 ⟨A4, c4, rfl, hr4, hA4, hb19⟩
                        simp only [RVal, HQL.out] at hr4 ⊢
                        have HX19 := Lib.hid ((hb19.block _ (lt_of_block HT11.out)).trans HT11.out)
                        clear g0 g1 g2 g3 g4 gbl i0 i1 i2 i3
                        obtain ⟨⟨g0, g1, g2, g3, g4⟩, gbl⟩ := five26 HX19.out
                        obtain ⟨t0, t1, t2, t3, t4⟩ := thaw5 HX19.out
                        obtain ⟨wy, hwy⟩ : ∃ z, (((((w19.setCell ⟨b11, 0, none⟩ (.int .i64 Q.s)).setCell ⟨b11, 1, none⟩ (.int .i64 Q.v)).setCell ⟨b11, 2, none⟩ (.int .i64 Q.need)).setCell ⟨b11, 3, none⟩ (.int .i64 Q.ph)).setCell ⟨b11, 4, none⟩ (.slice A4 n c4)) = z := ⟨_, rfl⟩
                        have hby : But [b11] w19 wy := hwy ▸ (((((But.refl _ _).setCell (by simp) _).setCell (by simp) _).setCell (by simp) _).setCell (by simp) _).setCell (by simp) _
                        have hry := row5 (v0 := .int .i64 Q.s) (v1 := .int .i64 Q.v) (v2 := .int .i64 Q.need) (v3 := .int .i64 Q.ph) (v4 := .slice A4 n c4) HX19.out
                        rw [hwy] at hry
                        have HC : Hid (CR wb wy b3 b14 b11 Q A3 A4 n c3 c4) := cr_of HTb.out H14.out.1 H14.out.2 (lt_of_block HX14.out) HB17.out HB18.out HBZ.out HXZ.out hb19 hby hry HR3.out.1 HR3.out.2 hr4 hA4 HQL.out
                        clear hby hry hr4 hA4 hb19
                        go_wp2
                        (try rw [hwy])
                        go_meet
                        case rel => exact ⟨Q, E, A3, A4, c3, c4, rfl, rfl, HC⟩
                    · by_cases hk4 : o.kd = 4
                      · as_aux_lemma =>
                          obtain ⟨P0, hP0⟩ : ∃ P, Rn.told ⟨r.s, r.v, r.need, r.ph, r.ms⟩ o.ix o.op o.e = P := ⟨_, rfl⟩
                          obtain ⟨Q, E⟩ := P0
                          have HQ := Lib.hid hP0
                          have HQL : Hid (Q.ms.length = n) := by show _ = _; have h1 := tlen r o.ix o.op o.e; rw [hP0] at h1; exact h1.trans HTb.out.len
                          clear hP0
                          have u1 : (o.kd == 1) = false := by simp [hk1]
                          have u2 : (o.kd == 2) = false := by simp [hk2]
                          have u3 : (o.kd == 3) = false := by simp [hk3]
                          have u4 : (o.kd == 4) = true := by simp [hk4]
                          clear hk1 hk2 hk3 hk4
                          go_wp2_with fail
                          (try rw [hw17]); (try rw [hb17])
                          clear hw17 hb17
                          refine (told_is _ r.s r.v r.need r.ph o.ix o.op o.e HT17.out.rd1 HN0.out (P := (Q, E)) HQ.out).mono ?_
                          rintro e' w18 ⟨A3, c3, rfl, hr3, hA3, hb18⟩
                          simp only [RVal, HQL.out] at hr3 ⊢
                          have HB18 := Lib.hid hb18
                          have HR3 := Lib.hid (And.intro hr3 hA3)
                          have HX18 := Lib.hid ((hb18.block _ (lt_of_block HX1417.out)).trans HX1417.out)
                          have HT18 := Lib.hid (HT17.out.below hb18)
                          have HO18 := Lib.hid ((hb18.block _ (lt_of_block HO17.out)).trans HO17.out)
                          clear f0 f1 f2 f3 f4 fbl i0 i1 i2 i3 hr3 hA3 hb18
                          obtain ⟨⟨f0, f1, f2, f3, f4⟩, fbl⟩ := five26 HX18.out
                          obtain ⟨t0, t1, t2, t3, t4⟩ := thaw5 HX18.out
                          obtain ⟨wz, hwz⟩ : ∃ z, (((((w18.setCell ⟨b14, 0, none⟩ (.int .i64 Q.s)).setCell ⟨b14, 1, none⟩ (.int .i64 Q.v)).setCell ⟨b14, 2, none⟩ (.int .i64 Q.need)).setCell ⟨b14, 3, none⟩ (.int .i64 Q.ph)).setCell ⟨b14, 4, none⟩ (.slice A3 n c3)) = z := ⟨_, rfl⟩
                          have hbz : But [b14] w18 wz := hwz ▸ (((((But.refl _ _).setCell (by simp) _).setCell (by simp) _).setCell (by simp) _).setCell (by simp) _).setCell (by simp) _
                          have hrz := row5 (v0 := .int .i64 Q.s) (v1 := .int .i64 Q.v) (v2 := .int .i64 Q.need) (v3 := .int .i64 Q.ph) (v4 := .slice A3 n c3) HX18.out
                          rw [hwz] at hrz
                          have HBZ := Lib.hid hbz
                          have HXZ := Lib.hid hrz
                          have HT11 := Lib.hid (hbz.cells HT18.out.row2 (by have := H14.out; simp; omega))
                          have HOZ := Lib.hid (hbz.cells HO18.out (by have := HLO.out; simp; omega))
                          have HRZ := Lib.hid (HT18.out.rd2.but0 hbz (fun h0 j hj hm => by
                            obtain ⟨ad9, e9, h1, _⟩ := HTa.out.rd2.cells h0
                            rw [e9] at hj
                            simp at hj hm
                            have := H14S.out.1
                            omega))
                          clear hbz hrz
                          obtain ⟨⟨g0, g1, g2, g3, g4⟩, gbl⟩ := five26 HT11.out
                          obtain ⟨i0, i1, i2, i3⟩ := arr4 HOZ.out
                          go_wp2_with fail
                          (try rw [hwz])
                          clear hwz f0 f1 f2 f3 f4 fbl t0 t1 t2 t3 t4
                          refine (rtold_is _ r.s r.v r.need r.ph o.ix o.op o.e HRZ.out HN0.out (P := (Q, E)) HQ.out).mono ?_
                          rintro e' w19 ⟨A4, c4, rfl, hr4, hA4, hb19⟩
                          simp only [RVal, HQL.out] at hr4 ⊢
                          have HX19 := Lib.hid ((hb19.block _ (lt_of_block HT11.out)).trans HT11.out)
                          clear g0 g1 g2 g3 g4 gbl i0 i1 i2 i3
                          obtain ⟨⟨g0, g1, g2, g3, g4⟩, gbl⟩ := five26 HX19.out
                          obtain ⟨t0, t1, t2, t3, t4⟩ := thaw5 HX19.out
                          obtain ⟨wy, hwy⟩ : ∃ z, (((((w19.setCell ⟨b11, 0, none⟩ (.int .i64 Q.s)).setCell ⟨b11, 1, none⟩ (.int .i64 Q.v)).setCell ⟨b11, 2, none⟩ (.int .i64 Q.need)).setCell ⟨b11, 3, none⟩ (.int .i64 Q.ph)).setCell ⟨b11, 4, none⟩ (.slice A4 n c4)) = z := ⟨_, rfl⟩
                          have hby : But [b11] w19 wy := hwy ▸ (((((But.refl _ _).setCell (by simp) _).setCell (by simp) _).setCell (by simp) _).setCell (by simp) _).setCell (by simp) _
                          have hry := row5 (v0 := .int .i64 Q.s) (v1 := .int .i64 Q.v) (v2 := .int .i64 Q.need) (v3 := .int .i64 Q.ph) (v4 := .slice A4 n c4) HX19.out
                          rw [hwy] at hry
                          have HC : Hid (CR wb wy b3 b14 b11 Q A3 A4 n c3 c4) := cr_of HTb.out H14.out.1 H14.out.2 (lt_of_block HX14.out) HB17.out HB18.out HBZ.out HXZ.out hb19 hby hry HR3.out.1 HR3.out.2 hr4 hA4 HQL.out
                          clear hby hry hr4 hA4 hb19
                          go_wp2
                          (try rw [hwy])
                          go_meet
                          case rel => exact ⟨Q, E, A3, A4, c3, c4, rfl, rfl, HC⟩
                      · by_cases hk5 : o.kd = 5
                        · as_aux_lemma =>
                            obtain ⟨P0, hP0⟩ : ∃ P, Rn.told ⟨r.s, r.v, r.need, r.ph, r.ms⟩ o.ix o.op o.e = P := ⟨_, rfl⟩
                            obtain ⟨Q, E⟩ := P0
                            have HQ := Lib.hid hP0
                            have HQL : Hid (Q.ms.length = n) := by show _ = _; have h1 := tlen r o.ix o.op o.e; rw [hP0] at h1; exact h1.trans HTb.out.len
                            clear hP0
                            have u1 : (o.kd == 1) = false := by simp [hk1]
                            have u2 : (o.kd == 2) = false := by simp [hk2]
                            have u3 : (o.kd == 3) = false := by simp [hk3]
                            have u4 : (o.kd == 4) = false := by simp [hk4]
                            have u5 : (o.kd == 5) = true := by simp [hk5]
                            clear hk1 hk2 hk3 hk4 hk5
                            go_wp2_with fail
                            (try rw [hw17]); (try rw [hb17])
                            clear hw17 hb17
                            refine (told_is _ r.s r.v r.need r.ph o.ix o.op o.e HT17.out.rd1 HN0.out (P := (Q, E)) HQ.out).mono ?_
                            rintro e' w18 ⟨A3, c3, rfl, hr3, hA3, hb18⟩
                            simp only [RVal, HQL.out] at hr3 ⊢
                            have HB18 := Lib.hid hb18
                            have HR3 := Lib.hid (And.intro hr3 hA3)
                            have HX18 := Lib.hid ((hb18.block _ (lt_of_block HX1417.out)).trans HX1417.out)
                            have HT18 := Lib.hid (HT17.out.below hb18)
                            have HO18 := Lib.hid ((hb18.block _ (lt_of_block HO17.out)).trans HO17.out)
                            clear f0 f1 f2 f3 f4 fbl i0 i1 i2 i3 hr3 hA3 hb18
                            obtain ⟨⟨f0, f1, f2, f3, f4⟩, fbl⟩ := five26 HX18.out
                            obtain ⟨t0, t1, t2, t3, t4⟩ := thaw5 HX18.out
                            obtain ⟨wz, hwz⟩ : ∃ z, (((((w18.setCell ⟨b14, 0, none⟩ (.int .i64 Q.s)).setCell ⟨b14, 1, none⟩ (.int .i64 Q.v)).setCell ⟨b14, 2, none⟩ (.int .i64 Q.need)).setCell ⟨b14, 3, none⟩ (.int .i64 Q.ph)).setCell ⟨b14, 4, none⟩ (.slice A3 n c3)) = z := ⟨_, rfl⟩
                            have hbz : But [b14] w18 wz := hwz ▸ (((((But.refl _ _).setCell (by simp) _).setCell (by simp) _).setCell (by simp) _).setCell (by simp) _).setCell (by simp) _
                            have hrz := row5 (v0 := .int .i64 Q.s) (v1 := .int .i64 Q.v) (v2 := .int .i64 Q.need) (v3 := .int .i64 Q.ph) (v4 := .slice A3 n c3) HX18.out
                            rw [hwz] at hrz
                            have HBZ := Lib.hid hbz
                            have HXZ := Lib.hid hrz
                            have HT11 := Lib.hid (hbz.cells HT18.out.row2 (by have := H14.out; simp; omega))
                            have HOZ := Lib.hid (hbz.cells HO18.out (by have := HLO.out; simp; omega))
                            have HRZ := Lib.hid (HT18.out.rd2.but0 hbz (fun h0 j hj hm => by
                              obtain ⟨ad9, e9, h1, _⟩ := HTa.out.rd2.cells h0
                              rw [e9] at hj
                              simp at hj hm
                              have := H14S.out.1
                              omega))
                            clear hbz hrz
                            obtain ⟨⟨g0, g1, g2, g3, g4⟩, gbl⟩ := five26 HT11.out
                            obtain ⟨i0, i1, i2, i3⟩ := arr4 HOZ.out
                            go_wp2_with fail
                            (try rw [hwz])
                            clear hwz f0 f1 f2 f3 f4 fbl t0 t1 t2 t3 t4
                            refine (rtold_is _ r.s r.v r.need r.ph o.ix o.op o.e HRZ.out HN0.out (P := (Q, E)) HQ.out).mono ?_
                            rintro e' w19 ⟨A4, c4, rfl, hr4, hA4, hb19⟩
                            simp only [RVal, HQL.out] at hr4 ⊢
                            have HX19 := Lib.hid ((hb19.block _ (lt_of_block HT11.out)).trans HT11.out)
                            clear g0 g1 g2 g3 g4 gbl i0 i1 i2 i3
                            obtain ⟨⟨g0, g1, g2, g3, g4⟩, gbl⟩ := five26 HX19.out
                            obtain ⟨t0, t1, t2, t3, t4⟩ := thaw5 HX19.out
                            obtain ⟨wy, hwy⟩ : ∃ z, (((((w19.setCell ⟨b11, 0, none⟩ (.int .i64 Q.s)).setCell ⟨b11, 1, none⟩ (.int .i64 Q.v)).setCell ⟨b11, 2, none⟩ (.int .i64 Q.need)).setCell ⟨b11, 3, none⟩ (.int .i64 Q.ph)).setCell ⟨b11, 4, none⟩ (.slice A4 n c4)) = z := ⟨_, rfl⟩
                            have hby : But [b11] w19 wy := hwy ▸ (((((But.refl _ _).setCell (by simp) _).setCell (by simp) _).setCell (by simp) _).setCell (by simp) _).setCell (by simp) _
                            have hry := row5 (v0 := .int .i64 Q.s) (v1 := .int .i64 Q.v) (v2 := .int .i64 Q.need) (v3 := .int .i64 Q.ph) (v4 := .slice A4 n c4) HX19.out
                            rw [hwy] at hry
                            have HC : Hid (CR wb wy b3 b14 b11 Q A3 A4 n c3 c4) := cr_of HTb.out H14.out.1 H14.out.2 (lt_of_block HX14.out) HB17.out HB18.out HBZ.out HXZ.out hb19 hby hry HR3.out.1 HR3.out.2 hr4 hA4 HQL.out
                            clear hby hry hr4 hA4 hb19
                            go_wp2
                            (try rw [hwy])
                            go_meet
                            case rel => exact ⟨Q, E, A3, A4, c3, c4, rfl, rfl, HC⟩
                        · by_cases hk6 : o.kd = 6
                          · as_aux_lemma =>
                              obtain ⟨P0, hP0⟩ : ∃ P, Rn.told ⟨r.s, r.v, r.need, r.ph, r.ms⟩ o.ix o.op o.e = P := ⟨_, rfl⟩
                              obtain ⟨Q, E⟩ := P0
                              have HQ := Lib.hid hP0
                              have HQL : Hid (Q.ms.length = n) := by show _ = _; have h1 := tlen r o.ix o.op o.e; rw [hP0] at h1; exact h1.trans HTb.out.len
                              clear hP0
                              have u1 : (o.kd == 1) = false := by simp [hk1]
                              have u2 : (o.kd == 2) = false := by simp [hk2]
                              have u3 : (o.kd == 3) = false := by simp [hk3]
                              have u4 : (o.kd == 4) = false := by simp [hk4]
                              have u5 : (o.kd == 5) = false := by simp [hk5]
                              have u6 : (o.kd == 6) = true := by simp [hk6]
                              clear hk1 hk2 hk3 hk4 hk5 hk6
                              go_wp2_with fail
                              (try rw [hw17]); (try rw [hb17])
                              clear hw17 hb17
                              refine (told_is _ r.s r.v r.need r.ph o.ix o.op o.e HT17.out.rd1 HN0.out (P := (Q, E)) HQ.out).mono ?_
                              rintro e' w18 ⟨A3, c3, rfl, hr3, hA3, hb18⟩
                              simp only [RVal, HQL.out] at hr3 ⊢
                              have HB18 := Lib.hid hb18
                              have HR3 := Lib.hid (And.intro hr3 hA3)
                              have HX18 := Lib.hid ((hb18.block _ (lt_of_block HX1417.out)).trans HX1417.out)
                              have HT18 := Lib.hid (HT17.out.below hb18)
                              have HO18 := Lib.hid ((hb18.block _ (lt_of_block HO17.out)).trans HO17.out)
                              clear f0 f1 f2 f3 f4 fbl i0 i1 i2 i3 hr3 hA3 hb18
                              obtain ⟨⟨f0, f1, f2, f3, f4⟩, fbl⟩ := five26 HX18.out
                              obtain ⟨t0, t1, t2, t3, t4⟩ := thaw5 HX18.out
                              obtain ⟨wz, hwz⟩ : ∃ z, (((((w18.setCell ⟨b14, 0, none⟩ (.int .i64 Q.s)).setCell ⟨b14, 1, none⟩ (.int .i64 Q.v)).setCell ⟨b14, 2, none⟩ (.int .i64 Q.need)).setCell ⟨b14, 3, none⟩ (.int .i64 Q.ph)).setCell ⟨b14, 4, none⟩ (.slice A3 n c3)) = z := ⟨_, rfl⟩
                              have hbz : But [b14] w18 wz := hwz ▸ (((((But.refl _ _).setCell (by simp) _).setCell (by simp) _).setCell (by simp) _).setCell (by simp) _).setCell (by simp) _
                              have hrz := row5 (v0 := .int .i64 Q.s) (v1 := .int .i64 Q.v) (v2 := .int .i64 Q.need) (v3 := .int .i64 Q.ph) (v4 := .slice A3 n c3) HX18.out
                              rw [hwz] at hrz
                              have HBZ := Lib.hid hbz
                              have HXZ := Lib.hid hrz
                              have HT11 := Lib.hid (hbz.cells HT18.out.row2 (by have := H14.out; simp; omega))
                              have HOZ := Lib.hid (hbz.cells HO18.out (by have := HLO.out; simp; omega))
                              have HRZ := Lib.hid (HT18.out.rd2.but0 hbz (fun h0 j hj hm => by
                                obtain ⟨ad9, e9, h1, _⟩ := HTa.out.rd2.cells h0
                                rw [e9] at hj
                                simp at hj hm
                                have := H14S.out.1
                                omega))
                              clear hbz hrz
                              obtain ⟨⟨g0, g1, g2, g3, g4⟩, gbl⟩ := five26 HT11.out
                              obtain ⟨i0, i1, i2, i3⟩ := arr4 HOZ.out
                              go_wp2_with fail
                              (try rw [hwz])
                              clear hwz f0 f1 f2 f3 f4 fbl t0 t1 t2 t3 t4
                              refine (rtold_is _ r.s r.v r.need r.ph o.ix o.op o.e HRZ.out HN0.out (P := (Q, E)) HQ.out).mono ?_
                              rintro e' w19 ⟨A4, c4, rfl, hr4, hA4, hb19⟩
                              simp only [RVal, HQL.out] at hr4 ⊢
                              have HX19 := Lib.hid ((hb19.block _ (lt_of_block HT11.out)).trans HT11.out)
                              clear g0 g1 g2 g3 g4 gbl i0 i1 i2 i3
                              obtain ⟨⟨g0, g1, g2, g3, g4⟩, gbl⟩ := five26 HX19.out
                              obtain ⟨t0, t1, t2, t3, t4⟩ := thaw5 HX19.out
                              obtain ⟨wy, hwy⟩ : ∃ z, (((((w19.setCell ⟨b11, 0, none⟩ (.int .i64 Q.s)).setCell ⟨b11, 1, none⟩ (.int .i64 Q.v)).setCell ⟨b11, 2, none⟩ (.int .i64 Q.need)).setCell ⟨b11, 3, none⟩ (.int .i64 Q.ph)).setCell ⟨b11, 4, none⟩ (.slice A4 n c4)) = z := ⟨_, rfl⟩
                              have hby : But [b11] w19 wy := hwy ▸ (((((But.refl _ _).setCell (by simp) _).setCell (by simp) _).setCell (by simp) _).setCell (by simp) _).setCell (by simp) _
                              have hry := row5 (v0 := .int .i64 Q.s) (v1 := .int .i64 Q.v) (v2 := .int .i64 Q.need) (v3 := .int .i64 Q.ph) (v4 := .slice A4 n c4) HX19.out
                              rw [hwy] at hry
                              have HC : Hid (CR wb wy b3 b14 b11 Q A3 A4 n c3 c4) := cr_of HTb.out H14.out.1 H14.out.2 (lt_of_block HX14.out) HB17.out HB18.out HBZ.out HXZ.out hb19 hby hry HR3.out.1 HR3.out.2 hr4 hA4 HQL.out
                              clear hby hry hr4 hA4 hb19
                              go_wp2
                              (try rw [hwy])
                              go_meet
                              case rel => exact ⟨Q, E, A3, A4, c3, c4, rfl, rfl, HC⟩
                          · by_cases hk7 : o.kd = 7
                            · as_aux_lemma =>
                                obtain ⟨P0, hP0⟩ : ∃ P, Rn.publish ⟨r.s, r.v, r.need, r.ph, r.ms⟩ = P := ⟨_, rfl⟩
                                obtain ⟨Q, E⟩ := P0
                                have HQ := Lib.hid hP0
                                have HQL : Hid (Q.ms.length = n) := by show _ = _; have h1 := plen r; rw [hP0] at h1; exact h1.trans HTb.out.len
                                clear hP0
                                have u1 : (o.kd == 1) = false := by simp [hk1]
                                have u2 : (o.kd == 2) = false := by simp [hk2]
                                have u3 : (o.kd == 3) = false := by simp [hk3]
                                have u4 : (o.kd == 4) = false := by simp [hk4]
                                have u5 : (o.kd == 5) = false := by simp [hk5]
                                have u6 : (o.kd == 6) = false := by simp [hk6]
                                have u7 : (o.kd == 7) = true := by simp [hk7]
                                clear hk1 hk2 hk3 hk4 hk5 hk6 hk7
                                go_wp2_with fail
                                (try rw [hw17]); (try rw [hb17])
                                clear hw17 hb17
                                refine (publish_is _ r.s r.v r.need r.ph HT17.out.rd1 HN0.out (P := (Q, E)) HQ.out).mono ?_
                                rintro e' w18 ⟨A3, c3, rfl, hr3, hA3, hb18⟩
                                simp only [RVal, HQL.out] at hr3 ⊢
                                have HB18 := Lib.hid hb18
                                have HR3 := Lib.hid (And.intro hr3 hA3)
                                have HX18 := Lib.hid ((hb18.block _ (lt_of_block HX1417.out)).trans HX1417.out)
                                have HT18 := Lib.hid (HT17.out.below hb18)
                                have HO18 := Lib.hid ((hb18.block _ (lt_of_block HO17.out)).trans HO17.out)
                                clear f0 f1 f2 f3 f4 fbl i0 i1 i2 i3 hr3 hA3 hb18
                                obtain ⟨⟨f0, f1, f2, f3, f4⟩, fbl⟩ := five26 HX18.out
                                obtain ⟨t0, t1, t2, t3, t4⟩ := thaw5 HX18.out
                                obtain ⟨wz, hwz⟩ : ∃ z, (((((w18.setCell ⟨b14, 0, none⟩ (.int .i64 Q.s)).setCell ⟨b14, 1, none⟩ (.int .i64 Q.v)).setCell ⟨b14, 2, none⟩ (.int .i64 Q.need)).setCell ⟨b14, 3, none⟩ (.int .i64 Q.ph)).setCell ⟨b14, 4, none⟩ (.slice A3 n c3)) = z := ⟨_, rfl⟩
                                have hbz : But [b14] w18 wz := hwz ▸ (((((But.refl _ _).setCell (by simp) _).setCell (by simp) _).setCell (by simp) _).setCell (by simp) _).setCell (by simp) _
                                have hrz := row5 (v0 := .int .i64 Q.s) (v1 := .int .i64 Q.v) (v2 := .int .i64 Q.need) (v3 := .int .i64 Q.ph) (v4 := .slice A3 n c3) HX18.out
                                rw [hwz] at hrz
                                have HBZ := Lib.hid hbz
                                have HXZ := Lib.hid hrz
                                have HT11 := Lib.hid (hbz.cells HT18.out.row2 (by have := H14.out; simp; omega))
                                have HOZ := Lib.hid (hbz.cells HO18.out (by have := HLO.out; simp; omega))
                                have HRZ := Lib.hid (HT18.out.rd2.but0 hbz (fun h0 j hj hm => by
                                  obtain ⟨ad9, e9, h1, _⟩ := HTa.out.rd2.cells h0
                                  rw [e9] at hj
                                  simp at hj hm
                                  have := H14S.out.1
                                  omega))
                                clear hbz hrz
                                obtain ⟨⟨g0, g1, g2, g3, g4⟩, gbl⟩ := five26 HT11.out
                                obtain ⟨i0, i1, i2, i3⟩ := arr4 HOZ.out
                                go_wp2_with fail
                                (try rw [hwz])
                                clear hwz f0 f1 f2 f3 f4 fbl t0 t1 t2 t3 t4
                                refine (rpublish_is _ r.s r.v r.need r.ph HRZ.out HN0.out (P := (Q, E)) HQ.out).mono ?_
                                rintro e' w19 ⟨A4, c4, rfl, hr4, hA4, hb19⟩
                                simp only [RVal, HQL.out] at hr4 ⊢
                                have HX19 := Lib.hid ((hb19.block _ (lt_of_block HT11.out)).trans HT11.out)
                                clear g0 g1 g2 g3 g4 gbl i0 i1 i2 i3
                                obtain ⟨⟨g0, g1, g2, g3, g4⟩, gbl⟩ := five26 HX19.out
                                obtain ⟨t0, t1, t2, t3, t4⟩ := thaw5 HX19.out
                                obtain ⟨wy, hwy⟩ : ∃ z, (((((w19.setCell ⟨b11, 0, none⟩ (.int .i64 Q.s)).setCell ⟨b11, 1, none⟩ (.int .i64 Q.v)).setCell ⟨b11, 2, none⟩ (.int .i64 Q.need)).setCell ⟨b11, 3, none⟩ (.int .i64 Q.ph)).setCell ⟨b11, 4, none⟩ (.slice A4 n c4)) = z := ⟨_, rfl⟩
                                have hby : But [b11] w19 wy := hwy ▸ (((((But.refl _ _).setCell (by simp) _).setCell (by simp) _).setCell (by simp) _).setCell (by simp) _).setCell (by simp) _
                                have hry := row5 (v0 := .int .i64 Q.s) (v1 := .int .i64 Q.v) (v2 := .int .i64 Q.need) (v3 := .int .i64 Q.ph) (v4 := .slice A4 n c4) HX19.out
                                rw [hwy] at hry
                                have HC : Hid (CR wb wy b3 b14 b11 Q A3 A4 n c3 c4) := cr_of HTb.out H14.out.1 H14.out.2 (lt_of_block HX14.out) HB17.out HB18.out HBZ.out HXZ.out hb19 hby hry HR3.out.1 HR3.out.2 hr4 hA4 HQL.out
                                clear hby hry hr4 hA4 hb19
                                go_wp2
                                (try rw [hwy])
                                go_meet
                                case rel => exact ⟨Q, E, A3, A4, c3, c4, rfl, rfl, HC⟩
                            · by_cases hk8 : o.kd = 8
                              · as_aux_lemma =>
                                  obtain ⟨P0, hP0⟩ : ∃ P, Rn.give ⟨r.s, r.v, r.need, r.ph, r.ms⟩ = P := ⟨_, rfl⟩
                                  obtain ⟨Q, E⟩ := P0
                                  have HQ := Lib.hid hP0
                                  have HQL : Hid (Q.ms.length = n) := by show _ = _; have h1 := glen r; rw [hP0] at h1; exact h1.trans HTb.out.len
                                  clear hP0
                                  have u1 : (o.kd == 1) = false := by simp [hk1]
                                  have u2 : (o.kd == 2) = false := by simp [hk2]
                                  have u3 : (o.kd == 3) = false := by simp [hk3]
                                  have u4 : (o.kd == 4) = false := by simp [hk4]
                                  have u5 : (o.kd == 5) = false := by simp [hk5]
                                  have u6 : (o.kd == 6) = false := by simp [hk6]
                                  have u7 : (o.kd == 7) = false := by simp [hk7]
                                  have u8 : (o.kd == 8) = true := by simp [hk8]
                                  clear hk1 hk2 hk3 hk4 hk5 hk6 hk7 hk8
                                  go_wp2_with fail
                                  (try rw [hw17]); (try rw [hb17])
                                  clear hw17 hb17
                                  refine (give_is _ r.s r.v r.need r.ph HT17.out.rd1 HN0.out (P := (Q, E)) HQ.out).mono ?_
                                  rintro e' w18 ⟨A3, c3, rfl, hr3, hA3, hb18⟩
                                  simp only [RVal, HQL.out] at hr3 ⊢
                                  have HB18 := Lib.hid hb18
                                  have HR3 := Lib.hid (And.intro hr3 hA3)
                                  have HX18 := Lib.hid ((hb18.block _ (lt_of_block HX1417.out)).trans HX1417.out)
                                  have HT18 := Lib.hid (HT17.out.below hb18)
                                  have HO18 := Lib.hid ((hb18.block _ (lt_of_block HO17.out)).trans HO17.out)
                                  clear f0 f1 f2 f3 f4 fbl i0 i1 i2 i3 hr3 hA3 hb18
                                  obtain ⟨⟨f0, f1, f2, f3, f4⟩, fbl⟩ := five26 HX18.out
                                  obtain ⟨t0, t1, t2, t3, t4⟩ := thaw5 HX18.out
                                  obtain ⟨wz, hwz⟩ : ∃ z, (((((w18.setCell ⟨b14, 0, none⟩ (.int .i64 Q.s)).setCell ⟨b14, 1, none⟩ (.int .i64 Q.v)).setCell ⟨b14, 2, none⟩ (.int .i64 Q.need)).setCell ⟨b14, 3, none⟩ (.int .i64 Q.ph)).setCell ⟨b14, 4, none⟩ (.slice A3 n c3)) = z := ⟨_, rfl⟩
                                  have hbz : But [b14] w18 wz := hwz ▸ (((((But.refl _ _).setCell (by simp) _).setCell (by simp) _).setCell (by simp) _).setCell (by simp) _).setCell (by simp) _
                                  have hrz := row5 (v0 := .int .i64 Q.s) (v1 := .int .i64 Q.v) (v2 := .int .i64 Q.need) (v3 := .int .i64 Q.ph) (v4 := .slice A3 n c3) HX18.out
                                  rw [hwz] at hrz
                                  have HBZ := Lib.hid hbz
                                  have HXZ := Lib.hid hrz
                                  have HT11 := Lib.hid (hbz.cells HT18.out.row2 (by have := H14.out; simp; omega))
                                  have HOZ := Lib.hid (hbz.cells HO18.out (by have := HLO.out; simp; omega))
                                  have HRZ := Lib.hid (HT18.out.rd2.but0 hbz (fun h0 j hj hm => by
                                    obtain ⟨ad9, e9, h1, _⟩ := HTa.out.rd2.cells h0
                                    rw [e9] at hj
                                    simp at hj hm
                                    have := H14S.out.1
                                    omega))
                                  clear hbz hrz
                                  obtain ⟨⟨g0, g1, g2, g3, g4⟩, gbl⟩ := five26 HT11.out
                                  obtain ⟨i0, i1, i2, i3⟩ := arr4 HOZ.out
                                  go_wp2_with fail
                                  (try rw [hwz])
                                  clear hwz f0 f1 f2 f3 f4 fbl t0 t1 t2 t3 t4
                                  refine (rgive_is _ r.s r.v r.need r.ph HRZ.out HN0.out (P := (Q, E)) HQ.out).mono ?_
                                  rintro e' w19 ⟨A4, c4, rfl, hr4, hA4, hb19⟩
                                  simp only [RVal, HQL.out] at hr4 ⊢
                                  have HX19 := Lib.hid ((hb19.block _ (lt_of_block HT11.out)).trans HT11.out)
                                  clear g0 g1 g2 g3 g4 gbl i0 i1 i2 i3
                                  obtain ⟨⟨g0, g1, g2, g3, g4⟩, gbl⟩ := five26 HX19.out
                                  obtain ⟨t0, t1, t2, t3, t4⟩ := thaw5 HX19.out
                                  obtain ⟨wy, hwy⟩ : ∃ z, (((((w19.setCell ⟨b11, 0, none⟩ (.int .i64 Q.s)).setCell ⟨b11, 1, none⟩ (.int .i64 Q.v)).setCell ⟨b11, 2, none⟩ (.int .i64 Q.need)).setCell ⟨b11, 3, none⟩ (.int .i64 Q.ph)).setCell ⟨b11, 4, none⟩ (.slice A4 n c4)) = z := ⟨_, rfl⟩
                                  have hby : But [b11] w19 wy := hwy ▸ (((((But.refl _ _).setCell (by simp) _).setCell (by simp) _).setCell (by simp) _).setCell (by simp) _).setCell (by simp) _
                                  have hry := row5 (v0 := .int .i64 Q.s) (v1 := .int .i64 Q.v) (v2 := .int .i64 Q.need) (v3 := .int .i64 Q.ph) (v4 := .slice A4 n c4) HX19.out
                                  rw [hwy] at hry
                                  have HC : Hid (CR wb wy b3 b14 b11 Q A3 A4 n c3 c4) := cr_of HTb.out H14.out.1 H14.out.2 (lt_of_block HX14.out) HB17.out HB18.out HBZ.out HXZ.out hb19 hby hry HR3.out.1 HR3.out.2 hr4 hA4 HQL.out
                                  clear hby hry hr4 hA4 hb19
                                  go_wp2
                                  (try rw [hwy])
                                  go_meet
                                  case rel => exact ⟨Q, E, A3, A4, c3, c4, rfl, rfl, HC⟩
                              · by_cases hk9 : o.kd = 9
                                · as_aux_lemma =>
                                    obtain ⟨P0, hP0⟩ : ∃ P, Rn.lose ⟨r.s, r.v, r.need, r.ph, r.ms⟩ o.ix = P := ⟨_, rfl⟩
                                    obtain ⟨Q, E⟩ := P0
                                    have HQ := Lib.hid hP0
                                    have HQL : Hid (Q.ms.length = n) := by show _ = _; have h1 := llen r o.ix; rw [hP0] at h1; exact h1.trans HTb.out.len
                                    clear hP0
                                    have u1 : (o.kd == 1) = false := by simp [hk1]
                                    have u2 : (o.kd == 2) = false := by simp [hk2]
                                    have u3 : (o.kd == 3) = false := by simp [hk3]
                                    have u4 : (o.kd == 4) = false := by simp [hk4]
                                    have u5 : (o.kd == 5) = false := by simp [hk5]
                                    have u6 : (o.kd == 6) = false := by simp [hk6]
                                    have u7 : (o.kd == 7) = false := by simp [hk7]
                                    have u8 : (o.kd == 8) = false := by simp [hk8]
                                    have u9 : (o.kd == 9) = true := by simp [hk9]
                                    clear hk1 hk2 hk3 hk4 hk5 hk6 hk7 hk8 hk9
                                    go_wp2_with fail
                                    (try rw [hw17]); (try rw [hb17])
                                    clear hw17 hb17
                                    refine (lose_is _ r.s r.v r.need r.ph o.ix HT17.out.rd1 HN0.out (P := (Q, E)) HQ.out).mono ?_
                                    rintro e' w18 ⟨A3, c3, rfl, hr3, hA3, hb18⟩
                                    simp only [RVal, HQL.out] at hr3 ⊢
                                    have HB18 := Lib.hid hb18
                                    have HR3 := Lib.hid (And.intro hr3 hA3)
                                    have HX18 := Lib.hid ((hb18.block _ (lt_of_block HX1417.out)).trans HX1417.out)
                                    have HT18 := Lib.hid (HT17.out.below hb18)
                                    have HO18 := Lib.hid ((hb18.block _ (lt_of_block HO17.out)).trans HO17.out)
                                    clear f0 f1 f2 f3 f4 fbl i0 i1 i2 i3 hr3 hA3 hb18
                                    obtain ⟨⟨f0, f1, f2, f3, f4⟩, fbl⟩ := five26 HX18.out
                                    obtain ⟨t0, t1, t2, t3, t4⟩ := thaw5 HX18.out
                                    obtain ⟨wz, hwz⟩ : ∃ z, (((((w18.setCell ⟨b14, 0, none⟩ (.int .i64 Q.s)).setCell ⟨b14, 1, none⟩ (.int .i64 Q.v)).setCell ⟨b14, 2, none⟩ (.int .i64 Q.need)).setCell ⟨b14, 3, none⟩ (.int .i64 Q.ph)).setCell ⟨b14, 4, none⟩ (.slice A3 n c3)) = z := ⟨_, rfl⟩
                                    have hbz : But [b14] w18 wz := hwz ▸ (((((But.refl _ _).setCell (by simp) _).setCell (by simp) _).setCell (by simp) _).setCell (by simp) _).setCell (by simp) _
                                    have hrz := row5 (v0 := .int .i64 Q.s) (v1 := .int .i64 Q.v) (v2 := .int .i64 Q.need) (v3 := .int .i64 Q.ph) (v4 := .slice A3 n c3) HX18.out
                                    rw [hwz] at hrz
                                    have HBZ := Lib.hid hbz
                                    have HXZ := Lib.hid hrz
                                    have HT11 := Lib.hid (hbz.cells HT18.out.row2 (by have := H14.out; simp; omega))
                                    have HOZ := Lib.hid (hbz.cells HO18.out (by have := HLO.out; simp; omega))
                                    have HRZ := Lib.hid (HT18.out.rd2.but0 hbz (fun h0 j hj hm => by
                                      obtain ⟨ad9, e9, h1, _⟩ := HTa.out.rd2.cells h0
                                      rw [e9] at hj
                                      simp at hj hm
                                      have := H14S.out.1
                                      omega))
                                    clear hbz hrz
                                    obtain ⟨⟨g0, g1, g2, g3, g4⟩, gbl⟩ := five26 HT11.out
                                    obtain ⟨i0, i1, i2, i3⟩ := arr4 HOZ.out
                                    go_wp2_with fail
                                    (try rw [hwz])
                                    clear hwz f0 f1 f2 f3 f4 fbl t0 t1 t2 t3 t4
                                    refine (rlose_is _ r.s r.v r.need r.ph o.ix HRZ.out HN0.out (P := (Q, E)) HQ.out).mono ?_
                                    rintro e' w19 ⟨A4, c4, rfl, hr4, hA4, hb19⟩
                                    simp only [RVal, HQL.out] at hr4 ⊢
                                    have HX19 := Lib.hid ((hb19.block _ (lt_of_block HT11.out)).trans HT11.out)
                                    clear g0 g1 g2 g3 g4 gbl i0 i1 i2 i3
                                    obtain ⟨⟨g0, g1, g2, g3, g4⟩, gbl⟩ := five26 HX19.out
                                    obtain ⟨t0, t1, t2, t3, t4⟩ := thaw5 HX19.out
                                    obtain ⟨wy, hwy⟩ : ∃ z, (((((w19.setCell ⟨b11, 0, none⟩ (.int .i64 Q.s)).setCell ⟨b11, 1, none⟩ (.int .i64 Q.v)).setCell ⟨b11, 2, none⟩ (.int .i64 Q.need)).setCell ⟨b11, 3, none⟩ (.int .i64 Q.ph)).setCell ⟨b11, 4, none⟩ (.slice A4 n c4)) = z := ⟨_, rfl⟩
                                    have hby : But [b11] w19 wy := hwy ▸ (((((But.refl _ _).setCell (by simp) _).setCell (by simp) _).setCell (by simp) _).setCell (by simp) _).setCell (by simp) _
                                    have hry := row5 (v0 := .int .i64 Q.s) (v1 := .int .i64 Q.v) (v2 := .int .i64 Q.need) (v3 := .int .i64 Q.ph) (v4 := .slice A4 n c4) HX19.out
                                    rw [hwy] at hry
                                    have HC : Hid (CR wb wy b3 b14 b11 Q A3 A4 n c3 c4) := cr_of HTb.out H14.out.1 H14.out.2 (lt_of_block HX14.out) HB17.out HB18.out HBZ.out HXZ.out hb19 hby hry HR3.out.1 HR3.out.2 hr4 hA4 HQL.out
                                    clear hby hry hr4 hA4 hb19
                                    go_wp2
                                    (try rw [hwy])
                                    go_meet
                                    case rel => exact ⟨Q, E, A3, A4, c3, c4, rfl, rfl, HC⟩
                                · as_aux_lemma =>
                                    have HC0 : Hid (CR wb w17 b3 b14 b11 r A1 A2 n c1 c2) := ⟨(HB17.out.block _ (lt_of_block HX14.out)).trans HX14.out, HT17.out.row2, HT17.out.rd1, HT17.out.rd2, HT17.out.len, But.of_below HB17.out, HT17.out.nb1, HT17.out.nb2⟩
                                    have u1 : (o.kd == 1) = false := by simp [hk1]
                                    have u2 : (o.kd == 2) = false := by simp [hk2]
                                    have u3 : (o.kd == 3) = false := by simp [hk3]
                                    have u4 : (o.kd == 4) = false := by simp [hk4]
                                    have u5 : (o.kd == 5) = false := by simp [hk5]
                                    have u6 : (o.kd == 6) = false := by simp [hk6]
                                    have u7 : (o.kd == 7) = false := by simp [hk7]
                                    have u8 : (o.kd == 8) = false := by simp [hk8]
                                    have u9 : (o.kd == 9) = false := by simp [hk9]
                                    clear hk1 hk2 hk3 hk4 hk5 hk6 hk7 hk8 hk9
                                    go_wp2
                                    (try rw [hw17])
                                    go_meet
                                    case rel => exact ⟨r, 0, A1, A2, c1, c2, rfl, rfl, HC0⟩
            case rest =>
              obtain ⟨Q, E, A3, A4, c3, c4, rfl, rfl, HC⟩ := hcut
              obtain ⟨qq, hqq⟩ : ∃ q, decide (RightR ⟨Q.s, Q.v, Q.need, Q.ph, Q.ms⟩) = q := ⟨_, rfl⟩
              have HRQ := Lib.hid hqq
              clear hqq
              obtain ⟨lw, hlw⟩ : ∃ l, Rn.wants ⟨Q.s, Q.v, Q.need, Q.ph, Q.ms⟩ = l := ⟨_, rfl⟩
              have HWQ := Lib.hid hlw
              have HWL : Hid (lw.length ≤ 1000000) := by show _ ≤ _; rw [← hlw]; exact Nat.le_trans (want_len _) (by show Q.ms.length ≤ _; rw [HC.out.len]; exact HN0.out)
              clear hlw
              have HQ0 : Hid (CQ wc b3 b14 b11 r Q A1 X A3 A4 n c1 c3 c4) := ⟨HC.out.but.cells HTb.out.row1 (by have h1 := H14.out; have h2 := H311.out; simp; omega), HC.out.row14, HC.out.row11, HTb.out.rd1.but0 HC.out.but (fun h0 j hj hm => by
                obtain ⟨ad9, e9, h1, _⟩ := HTa.out.rd1.cells h0
                have h2 := HTb.out.nb1 h0 j hj
                rw [e9] at hj
                simp at hj hm
                have := H14S.out.1
                omega), HXb.out.but HC.out.but (fun j hj hm => by
                have h1 := HXB.out j hj
                have h2 := H14S.out
                simp at hm
                omega), HC.out.rd3, HC.out.rd4⟩
              have HBc : Hid (Below w.heap.size w wc) := HTb.out.bel.trans (HC.out.but.below (B := w.heap.size) HTb.out.bel.size (by intro g hg; simp at hg; have := H14S.out; have := H14.out; omega))
              clear f0 f1 f2 f3 f4 fbl HTa
              go_wp2_with fail
              obtain ⟨y0, h_y0⟩ : ∃ z, wc.drew = z := ⟨_, rfl⟩
              have HQ_y0 : Hid (CQ y0 b3 b14 b11 r Q A1 X A3 A4 n c1 c3 c4) := HQ0.out.below (h_y0 ▸ (Below.refl _ _).drew)
              have HD0 : Hid (Below w.heap.size w y0) := HBc.out.trans (h_y0 ▸ (Below.refl _ _).drew)
              have HS_y0 : Hid (Below y0.heap.size y0 y0) := Below.refl _ _
              obtain ⟨⟨m0, m1, m2, m3, m4⟩, mbl⟩ := five26 HQ_y0.out.row14
              obtain ⟨⟨n0, n1, n2, n3, n4⟩, nbl⟩ := five26 HQ_y0.out.row11
              obtain ⟨⟨l0, l1, l2, l3, l4⟩, lbl⟩ := five26 HQ_y0.out.row3
              refine wp_region_held_drew (S := fun z => Below y0.heap.size y0 z) (by kernel_rfl ) (by show Below _ _ _; rw [h_y0]; exact Below.refl _ _) (fun hHeld => ?_)
              rw [h_y0]
              clear h_y0
              refine wpAnyH_take (i := 0) (oi := ⟨some 153, _, _, _, _, _⟩) (v := ?_) rfl (by as_aux_lemma => kernel_rfl) (by as_aux_lemma => kernel_rfl) (by as_aux_lemma => kernel_rfl) (fun _ _ _ h => h) (Or.inl ⟨by rfl, ?_⟩) (by assumption) ?_
              rotate_left
              · intro w hSw
                (try dsimp only at hSw)
                go_simp
                all_goals (with_reducible rfl)
              try simp only [Act.put, List.setIfInBounds_toArray, List.set_cons_zero, List.set_cons_succ]
              refine wpAnyH_take (i := 1) (oi := ⟨some 154, _, _, _, _, _⟩) (v := ?_) rfl (by as_aux_lemma => kernel_rfl) (by as_aux_lemma => kernel_rfl) (by as_aux_lemma => kernel_rfl) (fun _ _ _ h => h) (Or.inl ⟨by rfl, ?_⟩) (by assumption) ?_
              rotate_left
              · intro w hSw
                (try dsimp only at hSw)
                go_simp
                all_goals (with_reducible rfl)
              try simp only [Act.put, List.setIfInBounds_toArray, List.set_cons_zero, List.set_cons_succ]
              refine wpAnyH_take (i := 2) (oi := ⟨some 155, _, _, _, _, _⟩) (v := ?_) rfl (by as_aux_lemma => kernel_rfl) (by as_aux_lemma => kernel_rfl) (by as_aux_lemma => kernel_rfl) (fun _ _ _ h => h) (Or.inl ⟨by rfl, ?_⟩) (by assumption) ?_
              rotate_left
              · intro w hSw
                (try dsimp only at hSw)
                go_simp
                all_goals (with_reducible rfl)
              try simp only [Act.put, List.setIfInBounds_toArray, List.set_cons_zero, List.set_cons_succ]
              refine wpAnyH_take (i := 3) (oi := ⟨some 156, _, _, _, _, _⟩) (v := ?_) rfl (by as_aux_lemma => kernel_rfl) (by as_aux_lemma => kernel_rfl) (by as_aux_lemma => kernel_rfl) (fun _ _ _ h => h) (Or.inl ⟨by rfl, ?_⟩) (by assumption) ?_
              rotate_left
              · intro w hSw
                (try dsimp only at hSw)
                go_simp
                all_goals (with_reducible rfl)
              try simp only [Act.put, List.setIfInBounds_toArray, List.set_cons_zero, List.set_cons_succ]
              refine wpAnyH_take (i := 4) (oi := ⟨some 157, _, _, _, _, _⟩) (v := ?_) rfl (by as_aux_lemma => kernel_rfl) (by as_aux_lemma => kernel_rfl) (by as_aux_lemma => kernel_rfl) (fun _ _ _ h => h) (Or.inl ⟨by rfl, ?_⟩) (by assumption) ?_
              rotate_left
              · intro w hSw
                have kk0 := (hSw.cell (p := ⟨b14, 0, none⟩) mbl).trans m0
                have kk1 := (hSw.cell (p := ⟨b14, 1, none⟩) mbl).trans m1
                have kk2 := (hSw.cell (p := ⟨b14, 2, none⟩) mbl).trans m2
                have kk3 := (hSw.cell (p := ⟨b14, 3, none⟩) mbl).trans m3
                have kk4 := (hSw.cell (p := ⟨b14, 4, none⟩) mbl).trans m4
                clear hSw
                go_simp
                all_goals (with_reducible rfl)
              try simp only [Act.put, List.setIfInBounds_toArray, List.set_cons_zero, List.set_cons_succ]
              refine wpAnyH_take (i := 5) (oi := ⟨some 158, _, _, _, _, _⟩) (v := ?_) rfl (by as_aux_lemma => kernel_rfl) (by as_aux_lemma => kernel_rfl) (by as_aux_lemma => kernel_rfl) (fun _ _ _ h => h) (Or.inl ⟨by rfl, ?_⟩) (by assumption) ?_
              rotate_left
              · intro w hSw
                have kk0 := (hSw.cell (p := ⟨b11, 0, none⟩) nbl).trans n0
                have kk1 := (hSw.cell (p := ⟨b11, 1, none⟩) nbl).trans n1
                have kk2 := (hSw.cell (p := ⟨b11, 2, none⟩) nbl).trans n2
                have kk3 := (hSw.cell (p := ⟨b11, 3, none⟩) nbl).trans n3
                have kk4 := (hSw.cell (p := ⟨b11, 4, none⟩) nbl).trans n4
                clear hSw
                go_simp
                all_goals (with_reducible rfl)
              try simp only [Act.put, List.setIfInBounds_toArray, List.set_cons_zero, List.set_cons_succ]
              refine wpAnyH_ready (rs := [6]) (by as_aux_lemma => kernel_rfl) (by simp) (AllReadyH.cons (o := ⟨some 159, _, _, _, _, _⟩) rfl (fun K hK => ?_) AllReadyH.nil)
              go_simp
              refine (sameR_is _ Q.s Q.v Q.need Q.ph Q.s Q.v Q.need Q.ph HQ_y0.out.rd3 HQ_y0.out.rd4 HN0.out (q := true) (decide_eq_true (SameR.refl _))).mono ?_
              rintro e' y1 ⟨rfl, hbv⟩
              have HQ_y1 := Lib.hid (HQ_y0.out.below hbv)
              have HS_y1 : Hid (Below y0.heap.size y0 y1) := HS_y0.out.trans (hbv.mono HS_y0.out.size)
              clear hbv
              refine hK.out _ _ (HS_y1.out) (fun hHeld => ?_)
              clear hK K
              try simp only [Act.put, List.setIfInBounds_toArray, List.set_cons_zero, List.set_cons_succ]
              refine wpAnyH_take (i := 7) (oi := ⟨some 160, _, _, _, _, _⟩) (v := ?_) rfl (by as_aux_lemma => kernel_rfl) (by as_aux_lemma => kernel_rfl) (by as_aux_lemma => kernel_rfl) (fun _ _ _ h => h) (Or.inl ⟨by rfl, ?_⟩) (by assumption) ?_
              rotate_left
              · intro w hSw
                (try dsimp only at hSw)
                go_simp
                all_goals (with_reducible rfl)
              try simp only [Act.put, List.setIfInBounds_toArray, List.set_cons_zero, List.set_cons_succ]
              refine wpAnyH_take (i := 8) (oi := ⟨some 161, _, _, _, _, _⟩) (v := ?_) rfl (by as_aux_lemma => kernel_rfl) (by as_aux_lemma => kernel_rfl) (by as_aux_lemma => kernel_rfl) (fun _ _ _ h => h) (Or.inl ⟨by rfl, ?_⟩) (by assumption) ?_
              rotate_left
              · intro w hSw
                (try dsimp only at hSw)
                go_simp
                all_goals (with_reducible rfl)
              try simp only [Act.put, List.setIfInBounds_toArray, List.set_cons_zero, List.set_cons_succ]
              refine wpAnyH_take (i := 9) (oi := ⟨some 162, _, _, _, _, _⟩) (v := ?_) rfl (by as_aux_lemma => kernel_rfl) (by as_aux_lemma => kernel_rfl) (by as_aux_lemma => kernel_rfl) (fun _ _ _ h => h) (Or.inl ⟨by rfl, ?_⟩) (by assumption) ?_
              rotate_left
              · intro w hSw
                (try dsimp only at hSw)
                go_simp
                all_goals (with_reducible rfl)
              try simp only [Act.put, List.setIfInBounds_toArray, List.set_cons_zero, List.set_cons_succ]
              refine wpAnyH_take (i := 10) (oi := ⟨some 163, _, _, _, _, _⟩) (v := ?_) rfl (by as_aux_lemma => kernel_rfl) (by as_aux_lemma => kernel_rfl) (by as_aux_lemma => kernel_rfl) (fun _ _ _ h => h) (Or.inl ⟨by rfl, ?_⟩) (by assumption) ?_
              rotate_left
              · intro w hSw
                (try dsimp only at hSw)
                go_simp
                all_goals (with_reducible rfl)
              try simp only [Act.put, List.setIfInBounds_toArray, List.set_cons_zero, List.set_cons_succ]
              refine wpAnyH_take (i := 11) (oi := ⟨some 164, _, _, _, _, _⟩) (v := ?_) rfl (by as_aux_lemma => kernel_rfl) (by as_aux_lemma => kernel_rfl) (by as_aux_lemma => kernel_rfl) (fun _ _ _ h => h) (Or.inl ⟨by rfl, ?_⟩) (by assumption) ?_
              rotate_left
              · intro w hSw
                have kk0 := (hSw.cell (p := ⟨b3, 0, none⟩) lbl).trans l0
                have kk1 := (hSw.cell (p := ⟨b3, 1, none⟩) lbl).trans l1
                have kk2 := (hSw.cell (p := ⟨b3, 2, none⟩) lbl).trans l2
                have kk3 := (hSw.cell (p := ⟨b3, 3, none⟩) lbl).trans l3
                have kk4 := (hSw.cell (p := ⟨b3, 4, none⟩) lbl).trans l4
                clear hSw
                go_simp
                all_goals (with_reducible rfl)
              try simp only [Act.put, List.setIfInBounds_toArray, List.set_cons_zero, List.set_cons_succ]
              refine wpAnyH_take (i := 12) (oi := ⟨some 165, _, _, _, _, _⟩) (v := ?_) rfl (by as_aux_lemma => kernel_rfl) (by as_aux_lemma => kernel_rfl) (by as_aux_lemma => kernel_rfl) (fun _ _ _ h => h) (Or.inl ⟨by rfl, ?_⟩) (by assumption) ?_
              rotate_left
              · intro w hSw
                (try dsimp only at hSw)
                go_simp
                all_goals (with_reducible rfl)
              try simp only [Act.put, List.setIfInBounds_toArray, List.set_cons_zero, List.set_cons_succ]
              refine wpAnyH_ready (rs := [13]) (by as_aux_lemma => kernel_rfl) (by simp) (AllReadyH.cons (o := ⟨some 166, _, _, _, _, _⟩) rfl (fun K hK => ?_) AllReadyH.nil)
              go_simp
              refine (sameInts_is _ HQ_y1.out.rd1 HQ_y1.out.rdX HN0.out (q := true) (decide_eq_true rfl)).mono ?_
              rintro e' y2 ⟨rfl, dd, hdd⟩
              have hbv : Below y1.heap.size y1 y2 := hdd ▸ ⟨rfl, rfl, rfl, Nat.le_refl _, fun _ _ => rfl⟩
              clear hdd
              have HQ_y2 := Lib.hid (HQ_y1.out.below hbv)
              have HS_y2 : Hid (Below y0.heap.size y0 y2) := HS_y1.out.trans (hbv.mono HS_y1.out.size)
              clear hbv
              refine hK.out _ _ (HS_y2.out) (fun hHeld => ?_)
              clear hK K
              try simp only [Act.put, List.setIfInBounds_toArray, List.set_cons_zero, List.set_cons_succ]
              refine wpAnyH_take (i := 14) (oi := ⟨some 167, _, _, _, _, _⟩) (v := ?_) rfl (by as_aux_lemma => kernel_rfl) (by as_aux_lemma => kernel_rfl) (by as_aux_lemma => kernel_rfl) (fun _ _ _ h => h) (Or.inl ⟨by rfl, ?_⟩) (by assumption) ?_
              rotate_left
              · intro w hSw
                (try dsimp only at hSw)
                go_simp
                all_goals (with_reducible rfl)
              try simp only [Act.put, List.setIfInBounds_toArray, List.set_cons_zero, List.set_cons_succ]
              refine wpAnyH_take (i := 15) (oi := ⟨some 168, _, _, _, _, _⟩) (v := ?_) rfl (by as_aux_lemma => kernel_rfl) (by as_aux_lemma => kernel_rfl) (by as_aux_lemma => kernel_rfl) (fun _ _ _ h => h) (Or.inl ⟨by rfl, ?_⟩) (by assumption) ?_
              rotate_left
              · intro w hSw
                (try dsimp only at hSw)
                go_simp
                all_goals (with_reducible rfl)
              try simp only [Act.put, List.setIfInBounds_toArray, List.set_cons_zero, List.set_cons_succ]
              refine wpAnyH_take (i := 16) (oi := ⟨some 169, _, _, _, _, _⟩) (v := ?_) rfl (by as_aux_lemma => kernel_rfl) (by as_aux_lemma => kernel_rfl) (by as_aux_lemma => kernel_rfl) (fun _ _ _ h => h) (Or.inl ⟨by rfl, ?_⟩) (by assumption) ?_
              rotate_left
              · intro w hSw
                (try dsimp only at hSw)
                go_simp
                all_goals (with_reducible rfl)
              try simp only [Act.put, List.setIfInBounds_toArray, List.set_cons_zero, List.set_cons_succ]
              refine wpAnyH_take (i := 17) (oi := ⟨some 170, _, _, _, _, _⟩) (v := ?_) rfl (by as_aux_lemma => kernel_rfl) (by as_aux_lemma => kernel_rfl) (by as_aux_lemma => kernel_rfl) (fun _ _ _ h => h) (Or.inl ⟨by rfl, ?_⟩) (by assumption) ?_
              rotate_left
              · intro w hSw
                have kk0 := (hSw.cell (p := ⟨b14, 0, none⟩) mbl).trans m0
                have kk1 := (hSw.cell (p := ⟨b14, 1, none⟩) mbl).trans m1
                have kk2 := (hSw.cell (p := ⟨b14, 2, none⟩) mbl).trans m2
                have kk3 := (hSw.cell (p := ⟨b14, 3, none⟩) mbl).trans m3
                have kk4 := (hSw.cell (p := ⟨b14, 4, none⟩) mbl).trans m4
                clear hSw
                go_simp
                all_goals (with_reducible rfl)
              try simp only [Act.put, List.setIfInBounds_toArray, List.set_cons_zero, List.set_cons_succ]
              refine wpAnyH_take (i := 19) (oi := ⟨some 172, _, _, _, _, _⟩) (v := ?_) rfl (by as_aux_lemma => kernel_rfl) (by as_aux_lemma => kernel_rfl) (by as_aux_lemma => kernel_rfl) (fun _ _ _ h => h) (Or.inl ⟨by rfl, ?_⟩) (by assumption) ?_
              rotate_left
              · intro w hSw
                have kk0 := (hSw.cell (p := ⟨b11, 0, none⟩) nbl).trans n0
                have kk1 := (hSw.cell (p := ⟨b11, 1, none⟩) nbl).trans n1
                have kk2 := (hSw.cell (p := ⟨b11, 2, none⟩) nbl).trans n2
                have kk3 := (hSw.cell (p := ⟨b11, 3, none⟩) nbl).trans n3
                have kk4 := (hSw.cell (p := ⟨b11, 4, none⟩) nbl).trans n4
                clear hSw
                go_simp
                all_goals (with_reducible rfl)
              try simp only [Act.put, List.setIfInBounds_toArray, List.set_cons_zero, List.set_cons_succ]
              refine wpAnyH_ready (rs := [18]) (by as_aux_lemma => kernel_rfl) (by simp) (AllReadyH.cons (o := ⟨some 171, _, _, _, _, _⟩) rfl (fun K hK => ?_) AllReadyH.nil)
              go_simp
              refine (right_is _ Q.s Q.v Q.need Q.ph HQ_y2.out.rd3 HN0.out HRQ.out).mono ?_
              rintro e' y3 ⟨rfl, hbv⟩
              have HQ_y3 := Lib.hid (HQ_y2.out.below hbv)
              have HS_y3 : Hid (Below y0.heap.size y0 y3) := HS_y2.out.trans (hbv.mono HS_y2.out.size)
              clear hbv
              refine hK.out _ _ (HS_y3.out) (fun hHeld => ?_)
              clear hK K
              try simp only [Act.put, List.setIfInBounds_toArray, List.set_cons_zero, List.set_cons_succ]
              refine wpAnyH_ready (rs := [20]) (by as_aux_lemma => kernel_rfl) (by simp) (AllReadyH.cons (o := ⟨some 173, _, _, _, _, _⟩) rfl (fun K hK => ?_) AllReadyH.nil)
              go_simp
              refine (rright_is _ Q.s Q.v Q.need Q.ph HQ_y3.out.rd4 HN0.out HRQ.out).mono ?_
              rintro e' y4 ⟨rfl, hbv⟩
              have HQ_y4 := Lib.hid (HQ_y3.out.below hbv)
              have HS_y4 : Hid (Below y0.heap.size y0 y4) := HS_y3.out.trans (hbv.mono HS_y3.out.size)
              clear hbv
              refine hK.out _ _ (HS_y4.out) (fun hHeld => ?_)
              clear hK K
              try simp only [Act.put, List.setIfInBounds_toArray, List.set_cons_zero, List.set_cons_succ]
              refine wpAnyH_take (i := 21) (oi := ⟨some 174, _, _, _, _, _⟩) (v := ?_) rfl (by as_aux_lemma => kernel_rfl) (by as_aux_lemma => kernel_rfl) (by as_aux_lemma => kernel_rfl) (fun _ _ _ h => h) (Or.inl ⟨by rfl, ?_⟩) (by assumption) ?_
              rotate_left
              · intro w hSw
                (try dsimp only at hSw)
                go_simp
                all_goals (with_reducible rfl)
              try simp only [Act.put, List.setIfInBounds_toArray, List.set_cons_zero, List.set_cons_succ]
              refine wpAnyH_take (i := 22) (oi := ⟨some 175, _, _, _, _, _⟩) (v := ?_) rfl (by as_aux_lemma => kernel_rfl) (by as_aux_lemma => kernel_rfl) (by as_aux_lemma => kernel_rfl) (fun _ _ _ h => h) (Or.inl ⟨by rfl, ?_⟩) (by assumption) ?_
              rotate_left
              · intro w hSw
                (try dsimp only at hSw)
                go_simp
                all_goals (with_reducible rfl)
              try simp only [Act.put, List.setIfInBounds_toArray, List.set_cons_zero, List.set_cons_succ]
              refine wpAnyH_take (i := 23) (oi := ⟨some 176, _, _, _, _, _⟩) (v := ?_) rfl (by as_aux_lemma => kernel_rfl) (by as_aux_lemma => kernel_rfl) (by as_aux_lemma => kernel_rfl) (fun _ _ _ h => h) (Or.inl ⟨by rfl, ?_⟩) (by assumption) ?_
              rotate_left
              · intro w hSw
                (try dsimp only at hSw)
                go_simp
                all_goals (with_reducible rfl)
              try simp only [Act.put, List.setIfInBounds_toArray, List.set_cons_zero, List.set_cons_succ]
              refine wpAnyH_take (i := 24) (oi := ⟨some 177, _, _, _, _, _⟩) (v := ?_) rfl (by as_aux_lemma => kernel_rfl) (by as_aux_lemma => kernel_rfl) (by as_aux_lemma => kernel_rfl) (fun _ _ _ h => h) (Or.inl ⟨by rfl, ?_⟩) (by assumption) ?_
              rotate_left
              · intro w hSw
                have kk0 := (hSw.cell (p := ⟨b14, 0, none⟩) mbl).trans m0
                have kk1 := (hSw.cell (p := ⟨b14, 1, none⟩) mbl).trans m1
                have kk2 := (hSw.cell (p := ⟨b14, 2, none⟩) mbl).trans m2
                have kk3 := (hSw.cell (p := ⟨b14, 3, none⟩) mbl).trans m3
                have kk4 := (hSw.cell (p := ⟨b14, 4, none⟩) mbl).trans m4
                clear hSw
                go_simp
                all_goals (with_reducible rfl)
              try simp only [Act.put, List.setIfInBounds_toArray, List.set_cons_zero, List.set_cons_succ]
              refine wpAnyH_take (i := 26) (oi := ⟨some 179, _, _, _, _, _⟩) (v := ?_) rfl (by as_aux_lemma => kernel_rfl) (by as_aux_lemma => kernel_rfl) (by as_aux_lemma => kernel_rfl) (fun _ _ _ h => h) (Or.inl ⟨by rfl, ?_⟩) (by assumption) ?_
              rotate_left
              · intro w hSw
                have kk0 := (hSw.cell (p := ⟨b11, 0, none⟩) nbl).trans n0
                have kk1 := (hSw.cell (p := ⟨b11, 1, none⟩) nbl).trans n1
                have kk2 := (hSw.cell (p := ⟨b11, 2, none⟩) nbl).trans n2
                have kk3 := (hSw.cell (p := ⟨b11, 3, none⟩) nbl).trans n3
                have kk4 := (hSw.cell (p := ⟨b11, 4, none⟩) nbl).trans n4
                clear hSw
                go_simp
                all_goals (with_reducible rfl)
              try simp only [Act.put, List.setIfInBounds_toArray, List.set_cons_zero, List.set_cons_succ]
              refine wpAnyH_ready (rs := [25]) (by as_aux_lemma => kernel_rfl) (by simp) (AllReadyH.cons (o := ⟨some 178, _, _, _, _, _⟩) rfl (fun K hK => ?_) AllReadyH.nil)
              go_simp
              refine (wants_is _ Q.s Q.v Q.need Q.ph HQ_y4.out.rd3 HN0.out HWQ.out).mono ?_
              rintro e' y5 ⟨U1, d1, rfl, ho1, hbv⟩
              have HQ_y5 := Lib.hid (HQ_y4.out.below hbv)
              have HS_y5 : Hid (Below y0.heap.size y0 y5) := HS_y4.out.trans (hbv.mono HS_y4.out.size)
              have HU1 := Lib.hid ho1
              clear ho1
              clear hbv
              refine hK.out _ _ (HS_y5.out) (fun hHeld => ?_)
              clear hK K
              try simp only [Act.put, List.setIfInBounds_toArray, List.set_cons_zero, List.set_cons_succ]
              refine wpAnyH_ready (rs := [27]) (by as_aux_lemma => kernel_rfl) (by simp) (AllReadyH.cons (o := ⟨some 180, _, _, _, _, _⟩) rfl (fun K hK => ?_) AllReadyH.nil)
              go_simp
              refine (rwants_is _ Q.s Q.v Q.need Q.ph HQ_y5.out.rd4 HN0.out HWQ.out).mono ?_
              rintro e' y6 ⟨U2, d2, rfl, ho2, hbv⟩
              have HQ_y6 := Lib.hid (HQ_y5.out.below hbv)
              have HS_y6 : Hid (Below y0.heap.size y0 y6) := HS_y5.out.trans (hbv.mono HS_y5.out.size)
              have HU2 := Lib.hid ho2
              have HU1' := Lib.hid (HU1.out.below hbv (Nat.le_refl _))
              clear ho2
              clear hbv
              refine hK.out _ _ (HS_y6.out) (fun hHeld => ?_)
              clear hK K
              try simp only [Act.put, List.setIfInBounds_toArray, List.set_cons_zero, List.set_cons_succ]
              refine wpAnyH_ready (rs := [28]) (by as_aux_lemma => kernel_rfl) (by simp) (AllReadyH.cons (o := ⟨some 181, _, _, _, _, _⟩) rfl (fun K hK => ?_) AllReadyH.nil)
              go_simp
              refine (sameW_is _ (HU1'.out.wr) (HU2.out.wr) HWL.out (q := true) (decide_eq_true rfl)).mono ?_
              rintro e' y7 ⟨rfl, hbv⟩
              have HQ_y7 := Lib.hid (HQ_y6.out.below hbv)
              have HS_y7 : Hid (Below y0.heap.size y0 y7) := HS_y6.out.trans (hbv.mono HS_y6.out.size)
              clear hbv
              refine hK.out _ _ (HS_y7.out) (fun hHeld => ?_)
              clear hK K
              try simp only [Act.put, List.setIfInBounds_toArray, List.set_cons_zero, List.set_cons_succ]
              refine wpAnyH_take (i := 29) (oi := ⟨some 182, _, _, _, _, _⟩) (v := ?_) rfl (by as_aux_lemma => kernel_rfl) (by as_aux_lemma => kernel_rfl) (by as_aux_lemma => kernel_rfl) (fun _ _ _ h => h) (Or.inl ⟨by rfl, ?_⟩) (by assumption) ?_
              rotate_left
              · intro w hSw
                (try dsimp only at hSw)
                go_simp
                all_goals (with_reducible rfl)
              try simp only [Act.put, List.setIfInBounds_toArray, List.set_cons_zero, List.set_cons_succ]
              refine wpAnyH_take (i := 30) (oi := ⟨some 183, _, _, _, _, _⟩) (v := ?_) rfl (by as_aux_lemma => kernel_rfl) (by as_aux_lemma => kernel_rfl) (by as_aux_lemma => kernel_rfl) (fun _ _ _ h => h) (Or.inl ⟨by rfl, ?_⟩) (by assumption) ?_
              rotate_left
              · intro w hSw
                (try dsimp only at hSw)
                go_simp
                all_goals (with_reducible rfl)
              try simp only [Act.put, List.setIfInBounds_toArray, List.set_cons_zero, List.set_cons_succ]
              refine wpAnyH_done (by as_aux_lemma => kernel_rfl) ?_ _
              clear m0 m1 m2 m3 m4 mbl n0 n1 n2 n3 n4 nbl l0 l1 l2 l3 l4 lbl
              obtain ⟨⟨m0, m1, m2, m3, m4⟩, mbl⟩ := five26 HQ_y7.out.row14
              obtain ⟨⟨l0, l1, l2, l3, l4⟩, lbl⟩ := five26 HQ_y7.out.row3
              obtain ⟨t0, t1, t2, t3, t4⟩ := thaw5 HQ_y7.out.row3
              have hne : b14 ≠ b3 := by have := H14.out; omega
              have hne' := hne.symm
              obtain ⟨wz, hwz⟩ : ∃ z, (((((y7.setCell ⟨b3, 0, none⟩ (.int .i64 Q.s)).setCell ⟨b3, 1, none⟩ (.int .i64 Q.v)).setCell ⟨b3, 2, none⟩ (.int .i64 Q.need)).setCell ⟨b3, 3, none⟩ (.int .i64 Q.ph)).setCell ⟨b3, 4, none⟩ (.slice A3 n c3)) = z := ⟨_, rfl⟩
              have hbz : But [b3] y7 wz := hwz ▸ (((((But.refl _ _).setCell (by simp) _).setCell (by simp) _).setCell (by simp) _).setCell (by simp) _).setCell (by simp) _
              have hrz := row5 (v0 := .int .i64 Q.s) (v1 := .int .i64 Q.v) (v2 := .int .i64 Q.need) (v3 := .int .i64 Q.ph) (v4 := .slice A3 n c3) HQ_y7.out.row3
              rw [hwz] at hrz
              have hBV : Below w.heap.size w y7 := HD0.out.trans (HS_y7.out.mono HD0.out.size)
              have HTz : Hid (TR w wz b3 b11 Q A3 A4 n c3 c4) := ⟨hrz, hbz.cells HQ_y7.out.row11 (by have := H311.out; simp; omega), HQ_y7.out.rd3.but0 hbz (fun h0 j hj hm => by have := HC.out.nb3 h0 j hj; simp at hm; omega), HQ_y7.out.rd4.but0 hbz (fun h0 j hj hm => by have := HC.out.nb4 h0 j hj; simp at hm; omega), HC.out.len, hBV.trans (hbz.below (B := w.heap.size) hBV.size (by intro g hg; simp at hg; have := HTb.out.le; omega)), HC.out.nb3, HC.out.nb4, HTb.out.le⟩
              clear hrz hbz hBV
              go_wp2
              (try rw [hwz])
              go_roundg ((m : Int) - (i + 1)).toNat
              case measure => omega
              case rel => exact ⟨i + 1, Q, A3, A4, c3, c4, by omega, by omega, by first | rfl | go_num, HTz⟩
          · obtain ⟨z9, hz9⟩ : ∃ z, decide (i < 60) = z := ⟨_, rfl⟩
            have z60 : decide (i < 60) = false := decide_eq_false h60
            clear hz9
            go_wp2_with fail
            refine (awake_is _).mono ?_
            rintro e w9 ⟨rfl, hb9⟩
            have HB9 : Hid (Below w.heap.size w w9) := HT.out.bel.trans (hb9.mono HT.out.bel.size)
            clear hb9
            go_wp2
            go_ret
            exact told_mk rfl HB9.out
        · obtain rfl : i = (m : Int) := by omega
          go_wp2_with fail
          refine (awake_is _).mono ?_
          rintro e w9 ⟨rfl, hb9⟩
          have HB9 : Hid (Below w.heap.size w w9) := HT.out.bel.trans (hb9.mono HT.out.bel.size)
          clear hb9
          go_wp2
          go_ret
          exact told_mk rfl HB9.out
end
end Go.Proofs.Ytciihebaameccaa
