/- The chapter's examples: awake. -/
import Derived.Test.YtobbjeephmfdeaaFitA
import Derived.Test.YtobbjeephmfdeaaJoinB
import Derived.Lib.SlBytesConst
namespace Go.Proofs.Ytobbjeephmfdeaa
open Go.RowKit Go.Coop
set_option maxRecDepth 100000

theorem balloc {w w' : World} (h : Below w.heap.size w w') (o : Obj) : Below w.heap.size w (w'.alloc o) := h.alloc h.size o
theorem bhop {w w1 w2 : World} (h : Below w.heap.size w w1) (k : Below w1.heap.size w1 w2) : Below w.heap.size w w2 := h.trans (k.mono h.size)
theorem lit_two {w : World} {br k d k' d' : Nat} {B B' : Option Addr} {r r' : List UInt8} (h : Go.Coop.Own w br 5 B k d r) (h' : Go.Coop.Own w br 5 B' k' d' r') : MO (w.alloc (.cells #[.slice B k d, .slice B' k' d'] 31)) w.heap.size br (some ⟨w.heap.size, 0, none⟩) 2 2 [r, r'] := by
  refine ⟨rfl, [.slice B k d, .slice B' k' d'], ⟨rfl, rfl, .inr ⟨w.heap.size, 2, #[.slice B k d, .slice B' k' d'], rfl, Nat.le_refl _, heap_alloc_new w _, Nat.le_refl _, by simp [maxLen], rfl, rfl⟩⟩, fun i x hi => ?_⟩
  match i, hi with
  | 0, hi =>
    simp at hi
    subst hi
    rw [h.len]
    exact ⟨B, d, rfl, h.alloc _⟩
  | 1, hi =>
    simp at hi
    subst hi
    rw [h'.len]
    exact ⟨B', d', rfl, h'.alloc _⟩
theorem lit_three {w : World} {br k d k' d' k2 d2 : Nat} {B B' B2 : Option Addr} {r r' r2 : List UInt8} (h : Go.Coop.Own w br 5 B k d r) (h' : Go.Coop.Own w br 5 B' k' d' r') (h2 : Go.Coop.Own w br 5 B2 k2 d2 r2) : MO (w.alloc (.cells #[.slice B k d, .slice B' k' d', .slice B2 k2 d2] 31)) w.heap.size br (some ⟨w.heap.size, 0, none⟩) 3 3 [r, r', r2] := by
  refine ⟨rfl, [.slice B k d, .slice B' k' d', .slice B2 k2 d2], ⟨rfl, rfl, .inr ⟨w.heap.size, 3, #[.slice B k d, .slice B' k' d', .slice B2 k2 d2], rfl, Nat.le_refl _, heap_alloc_new w _, Nat.le_refl _, by simp [maxLen], rfl, rfl⟩⟩, fun i x hi => ?_⟩
  match i, hi with
  | 0, hi =>
    simp at hi
    subst hi
    rw [h.len]
    exact ⟨B, d, rfl, h.alloc _⟩
  | 1, hi =>
    simp at hi
    subst hi
    rw [h'.len]
    exact ⟨B', d', rfl, h'.alloc _⟩
  | 2, hi =>
    simp at hi
    subst hi
    rw [h2.len]
    exact ⟨B2, d2, rfl, h2.alloc _⟩
theorem mo1 (w : World) (l : List UInt8) (k : Nat) (hk : l.length = k) (hm : k ≤ maxLen := by decide) :
    MO ((w.alloc (.cells (bvs l).toArray 5)).alloc (.cells #[.slice (some ⟨w.heap.size, 0, none⟩) k k] 31)) (w.heap.size + 1) w.heap.size (some ⟨w.heap.size + 1, 0, none⟩) 1 1 [l] := by
  have := lit_one (own_new w l k hk hm)
  rwa [size_alloc] at this
theorem mo2 (w : World) (l l' : List UInt8) (k k' : Nat) (hk : l.length = k) (hk' : l'.length = k') (hm : k ≤ maxLen := by decide) (hm' : k' ≤ maxLen := by decide) :
    MO (((w.alloc (.cells (bvs l).toArray 5)).alloc (.cells (bvs l').toArray 5)).alloc (.cells #[.slice (some ⟨w.heap.size, 0, none⟩) k k, .slice (some ⟨w.heap.size + 1, 0, none⟩) k' k'] 31)) (w.heap.size + 2) w.heap.size (some ⟨w.heap.size + 2, 0, none⟩) 2 2 [l, l'] := by
  have h1 := own_new (w.alloc (.cells (bvs l).toArray 5)) l' k' hk' hm'
  have h := lit_two ((own_new w l k hk hm).alloc (.cells (bvs l').toArray 5)) (h1.lower (by simp))
  simp only [size_alloc] at h
  exact h
theorem mo3 (w : World) (l l' l2 : List UInt8) (k k' k2 : Nat) (hk : l.length = k) (hk' : l'.length = k') (hk2 : l2.length = k2) (hm : k ≤ maxLen := by decide) (hm' : k' ≤ maxLen := by decide) (hm2 : k2 ≤ maxLen := by decide) :
    MO ((((w.alloc (.cells (bvs l).toArray 5)).alloc (.cells (bvs l').toArray 5)).alloc (.cells (bvs l2).toArray 5)).alloc (.cells #[.slice (some ⟨w.heap.size, 0, none⟩) k k, .slice (some ⟨w.heap.size + 1, 0, none⟩) k' k', .slice (some ⟨w.heap.size + 2, 0, none⟩) k2 k2] 31)) (w.heap.size + 3) w.heap.size (some ⟨w.heap.size + 3, 0, none⟩) 3 3 [l, l', l2] := by
  have h1 := own_new (w.alloc (.cells (bvs l).toArray 5)) l' k' hk' hm'
  have h2 := own_new ((w.alloc (.cells (bvs l).toArray 5)).alloc (.cells (bvs l').toArray 5)) l2 k2 hk2 hm2
  have h := lit_three (((own_new w l k hk hm).alloc (.cells (bvs l').toArray 5)).alloc (.cells (bvs l2).toArray 5)) ((h1.lower (base' := w.heap.size) (by simp)).alloc (.cells (bvs l2).toArray 5)) (h2.lower (base' := w.heap.size) (by simp; omega))
  simp only [size_alloc] at h
  exact h

theorem samem_b (A : Option Addr) (n c : Nat) (M : List (List UInt8)) (B : Option Addr) (d : Nat) (w : World) (ha : MR w A n M) (hb : MR w B n M) (hn : n ≤ 140737488355328) : Calls Try.prog 30 #[.slice A n c, .slice B n d] w fun e w' => e = .returned (.bool true) ∧ Below w.heap.size w w' :=
  (samem_yes A n c M B d w ha hb hn).mono fun e w' ⟨h, j, hj⟩ => ⟨h, by rw [hj]; exact drewN_below w j⟩
theorem lists_b (A : Option Addr) (n c : Nat) (M : List (List UInt8)) (B : Option Addr) (d : Nat) (w : World) (ha : MR w A n M) (hb : MR w B n M) (hn : n ≤ 140737488355328) : Calls Try.prog 28 #[.slice A n c, .slice B n d] w fun e w' => e = .returned (.bool true) ∧ Below w.heap.size w w' :=
  (lists_yes A n c M B d w ha hb hn).mono fun e w' ⟨h, j, hj⟩ => ⟨h, by rw [hj]; exact drewN_below w j⟩
theorem conv_const (l : List UInt8) (n : Nat) (w : World) : (convert 31 31 (.slice (some ⟨w.heap.size, 0, none⟩) n n)).run Try.prog (w.alloc (.cells (bvs l).toArray 5)) = .ok (.slice (some ⟨w.heap.size, 0, none⟩) n n) (w.alloc (.cells (bvs l).toArray 5 ((bvs l).toArray.size, (bvs l).toArray.size + 1))) :=
  Lib.run_convert_bytes_const w 31 5 _ n n Try.underlying31 Try.underlying5
theorem rd_const (w : World) (l : List UInt8) (n : Nat) (fr : Nat × Nat) (hn : l.length = n) : Rd (w.alloc (.cells (bvs l).toArray 5 fr)) (some ⟨w.heap.size, 0, none⟩) n l := by
  subst hn
  exact Rd.new w l _ 5 fr fun j c h => by have := bvs_at' h; simpa using this
/-- a literal of two rows that are read -/
theorem mr_two {w : World} {k d k' d' : Nat} {B B' : Option Addr} {r r' : List UInt8} (h : Rd w B k r) (h' : Rd w B' k' r') : MR (w.alloc (.cells #[.slice B k d, .slice B' k' d'] 31)) (some ⟨w.heap.size, 0, none⟩) 2 [r, r'] := by
  refine ⟨rfl, [.slice B k d, .slice B' k' d'], RdV.new w [.slice B k d, .slice B' k' d'] 31 (0, 0), fun i x hi => ?_⟩
  match i, hi with
  | 0, hi =>
    simp at hi
    subst hi
    rw [h.len]
    exact ⟨B, d, rfl, h.alloc _⟩
  | 1, hi =>
    simp at hi
    subst hi
    rw [h'.len]
    exact ⟨B', d', rfl, h'.alloc _⟩
theorem u1 : tabM 3 2 (codF 2) = [[1, 0], [0, 1], [142, 244]] := by decide +kernel
theorem u2 : tabM 3 1 (codF 1) = [[1], [1], [142]] := by decide +kernel
theorem u3 : tabM 3 1 (mulF 2 (codF 2) (matF [[1], [1]])) = [[1], [1], [122]] := by decide +kernel
theorem u4 : tabM 2 1 (mulF 2 (invC 2 ([2, 0].take 2)) (matF [[122], [1]])) = [[1], [1]] := by decide +kernel
theorem u5 : tabM 3 1 (mulF 1 (codF 1) (matF [[2]])) = [[2], [2], [1]] := by decide +kernel
theorem u6 : stripe 2 2 [97, 98, 99, 100, 101] 0 = [[97, 98], [99, 100]] := by decide +kernel
theorem u7 : stripe 2 2 [97, 98, 99, 100, 101] 1 = [[101, 0], [0, 0]] := by decide +kernel
theorem u8 : (List.range (nst 5 (2 * 2))).map (stripe 2 2 [97, 98, 99, 100, 101]) = [[[97, 98], [99, 100]], [[101, 0], [0, 0]]] := by decide +kernel
theorem t1 : [[1], [1]] = tabM 2 1 (matF [[1], [1]]) := by decide +kernel
theorem t2 : [[122], [1]] = tabM 2 1 (matF [[122], [1]]) := by decide +kernel
theorem t3 : [[2]] = tabM 1 1 (matF [[2]]) := by decide +kernel
theorem u9 : nst 5 (2 * 2) = 2 := by decide
theorem pl20 : Places 3 [2, 0] := ⟨fun i x h => by
  match i, h with
  | 0, h => simp at h; omega
  | 1, h => simp at h; omega, by decide⟩
theorem j5 : joinB 2 [[[97, 98], [99, 100]], [[101, 0], [0, 0]]] = true := by decide

set_option maxHeartbeats 4000000 in
theorem awake_any (w : World) : Calls Try.prog 20 #[] w fun e w' => e = .returned (.bool true) ∧ Below w.heap.size w w' := by
  have cv1 : ∀ w : World, (convert 31 31 (.slice (some ⟨w.heap.size, 0, none⟩) 5 5)).run Try.prog (w.alloc (.cells #[.int .u8 97, .int .u8 98, .int .u8 99, .int .u8 100, .int .u8 101] 5)) = .ok (.slice (some ⟨w.heap.size, 0, none⟩) 5 5) (w.alloc (.cells #[.int .u8 97, .int .u8 98, .int .u8 99, .int .u8 100, .int .u8 101] 5 (5, 6))) := conv_const [97, 98, 99, 100, 101] 5
  have cv2 : ∀ w : World, (convert 31 31 (.slice (some ⟨w.heap.size, 0, none⟩) 2 2)).run Try.prog (w.alloc (.cells #[.int .u8 97, .int .u8 98] 5)) = .ok (.slice (some ⟨w.heap.size, 0, none⟩) 2 2) (w.alloc (.cells #[.int .u8 97, .int .u8 98] 5 (2, 3))) := conv_const [97, 98] 2
  have cv3 : ∀ w : World, (convert 31 31 (.slice (some ⟨w.heap.size, 0, none⟩) 2 2)).run Try.prog (w.alloc (.cells #[.int .u8 99, .int .u8 100] 5)) = .ok (.slice (some ⟨w.heap.size, 0, none⟩) 2 2) (w.alloc (.cells #[.int .u8 99, .int .u8 100] 5 (2, 3))) := conv_const [99, 100] 2
  go_enter Try.func20, Try.ntmps20
  go_wp2_with fail
  refine (new_any _).mono ?_
  rintro e w1 ⟨g, rfl, hF, hg, hB⟩
  have hW : Below w.heap.size w w1 := hB
  have HB1 : Hid (Below w.heap.size w w1) := hW
  have HF1 := Lib.hid (hF)
  clear hW 
  clear hF hg hB
  go_wp2_with fail
  refine (cnew_yes g 3 2 w1 HF1.out (by omega) (by omega) (by omega)).mono ?_
  rintro e w2 ⟨gc, gf, A0, c0, rfl, hC, hB⟩
  have hW : Below w1.heap.size w1 w2 := hB
  have HF2 := Lib.hid (HF1.out.below hW HF1.out.lt)
  have HB2 : Hid (Below w.heap.size w w2) := HB1.out.trans (hW.mono HB1.out.size)
  have HC2 := Lib.hid (hC)
  clear hW HF1 HB1
  clear hC hB
  go_wp2_with fail
  refine (cnew_yes g 3 1 w2 HF2.out (by omega) (by omega) (by omega)).mono ?_
  rintro e w3 ⟨gd, gh, A1, c1, rfl, hC, hB⟩
  have hW : Below w2.heap.size w2 w3 := hB
  have HC3 := Lib.hid (HC2.out.below hW (Nat.le_refl _))
  have HB3 : Hid (Below w.heap.size w w3) := HB2.out.trans (hW.mono HB2.out.size)
  have HD3 := Lib.hid (hC)
  clear hW HF2 HC2 HB2
  clear hC hB
  go_wp2_with fail
  refine (matrix_yes w3 HC3.out).mono ?_
  rintro e w4 ⟨A2, c2, rfl, hM, hB⟩
  rw [u1] at hM
  have hW : Below w3.heap.size w3 w4 := hB
  have HC4 := Lib.hid (HC3.out.below hW (Nat.le_refl _))
  have HD4 := Lib.hid (HD3.out.below hW (Nat.le_refl _))
  have HB4 : Hid (Below w.heap.size w w4) := HB3.out.trans (hW.mono HB3.out.size)
  have Hm4 := Lib.hid (hM.mr)
  clear hW HC3 HD3 HB3
  clear hM hB
  go_wp2_with fail
  refine (samem_b A2 3 c2 [[1, 0], [0, 1], [142, 244]] (some ⟨w4.heap.size + 3, 0, none⟩) 3 _ (by exact ((((Hm4.out).below (balloc (Below.refl _ _) _) (Nat.le_refl _)).below (balloc (Below.refl _ _) _) (Nat.le_refl _)).below (balloc (Below.refl _ _) _) (Nat.le_refl _)).below (balloc (Below.refl _ _) _) (Nat.le_refl _)) (by exact (mo3 w4 [1, 0] [0, 1] [142, 244] 2 2 2 rfl rfl rfl).mr) (by omega)).mono ?_
  rintro e w5 ⟨rfl, hB⟩
  have hW : Below w4.heap.size w4 w5 := bhop (balloc (balloc (balloc (balloc (Below.refl w4.heap.size w4) _) _) _) _) hB
  have HC5 := Lib.hid (HC4.out.below hW (Nat.le_refl _))
  have HD5 := Lib.hid (HD4.out.below hW (Nat.le_refl _))
  have HB5 : Hid (Below w.heap.size w w5) := HB4.out.trans (hW.mono HB4.out.size)
  clear hW HC4 HD4 Hm4 HB4
  clear hB
  go_wp2_with fail
  refine (matrix_yes w5 HD5.out).mono ?_
  rintro e w6 ⟨A3, c3, rfl, hM, hB⟩
  rw [u2] at hM
  have hW : Below w5.heap.size w5 w6 := hB
  have HC6 := Lib.hid (HC5.out.below hW (Nat.le_refl _))
  have HD6 := Lib.hid (HD5.out.below hW (Nat.le_refl _))
  have HB6 : Hid (Below w.heap.size w w6) := HB5.out.trans (hW.mono HB5.out.size)
  have Hm6 := Lib.hid (hM.mr)
  clear hW HC5 HD5 HB5
  clear hM hB
  go_wp2_with fail
  refine (samem_b A3 3 c3 [[1], [1], [142]] (some ⟨w6.heap.size + 3, 0, none⟩) 3 _ (by exact ((((Hm6.out).below (balloc (Below.refl _ _) _) (Nat.le_refl _)).below (balloc (Below.refl _ _) _) (Nat.le_refl _)).below (balloc (Below.refl _ _) _) (Nat.le_refl _)).below (balloc (Below.refl _ _) _) (Nat.le_refl _)) (by exact (mo3 w6 [1] [1] [142] 1 1 1 rfl rfl rfl).mr) (by omega)).mono ?_
  rintro e w7 ⟨rfl, hB⟩
  have hW : Below w6.heap.size w6 w7 := bhop (balloc (balloc (balloc (balloc (Below.refl w6.heap.size w6) _) _) _) _) hB
  have HC7 := Lib.hid (HC6.out.below hW (Nat.le_refl _))
  have HD7 := Lib.hid (HD6.out.below hW (Nat.le_refl _))
  have HB7 : Hid (Below w.heap.size w w7) := HB6.out.trans (hW.mono HB6.out.size)
  clear hW HC6 HD6 Hm6 HB6
  clear hB
  go_wp2_with fail
  refine (enc_yes (g := gc) _ _ 1 (matF [[1], [1]]) _ (by exact ((HC7.out.alloc _).alloc _).alloc _) (by rw [← t1]; exact (mo2 w7 [1] [1] 1 1 rfl rfl).mr) (by omega)).mono ?_
  rintro e w8 ⟨A4, c4, rfl, hM, hB⟩
  rw [u3] at hM
  have hW : Below w7.heap.size w7 w8 := bhop (balloc (balloc (balloc (Below.refl w7.heap.size w7) _) _) _) hB
  have HC8 := Lib.hid (HC7.out.below hW (Nat.le_refl _))
  have HD8 := Lib.hid (HD7.out.below hW (Nat.le_refl _))
  have HB8 : Hid (Below w.heap.size w w8) := HB7.out.trans (hW.mono HB7.out.size)
  have Hx8 := Lib.hid (hM.mr)
  clear hW HC7 HD7 HB7
  clear hM hB
  go_wp2_with fail
  refine (dec_yes (g := gc) _ 2 2 [2, 0] _ _ 1 (matF [[122], [1]]) _ (by exact (((HC8.out.alloc _).alloc _).alloc _).alloc _) (by exact (((RdV.new w8 (nvs [2, 0]) 3 (0, 0)).alloc _).alloc _).alloc _) (by rw [← t2]; have h0 := (mo2 (w8.alloc (.cells #[.int .i64 2, .int .i64 0] 3)) [122] [1] 1 1 rfl rfl).mr; simp only [size_alloc] at h0; exact h0) (by omega) (by omega) (by omega) pl20 (by omega)).mono ?_
  rintro e w9 ⟨A5, c5, rfl, hM, hB⟩
  rw [u4] at hM
  have hW : Below w8.heap.size w8 w9 := bhop (balloc (balloc (balloc (balloc (Below.refl w8.heap.size w8) _) _) _) _) hB
  have HC9 := Lib.hid (HC8.out.below hW (Nat.le_refl _))
  have HD9 := Lib.hid (HD8.out.below hW (Nat.le_refl _))
  have Hx9 := Lib.hid (Hx8.out.below hW (Nat.le_refl _))
  have HB9 : Hid (Below w.heap.size w w9) := HB8.out.trans (hW.mono HB8.out.size)
  have Hy9 := Lib.hid (hM.mr)
  clear hW HC8 HD8 Hx8 HB8
  clear hM hB
  go_wp2_with fail
  refine (enc_yes (g := gd) _ _ 1 (matF [[2]]) _ (by exact (HD9.out.alloc _).alloc _) (by rw [← t3]; exact (mo1 w9 [2] 1 rfl).mr) (by omega)).mono ?_
  rintro e w10 ⟨A6, c6, rfl, hM, hB⟩
  rw [u5] at hM
  have hW : Below w9.heap.size w9 w10 := bhop (balloc (balloc (Below.refl w9.heap.size w9) _) _) hB
  have HC10 := Lib.hid (HC9.out.below hW (Nat.le_refl _))
  have Hx10 := Lib.hid (Hx9.out.below hW (Nat.le_refl _))
  have Hy10 := Lib.hid (Hy9.out.below hW (Nat.le_refl _))
  have HB10 : Hid (Below w.heap.size w w10) := HB9.out.trans (hW.mono HB9.out.size)
  have Hz10 := Lib.hid (hM.mr)
  clear hW HC9 HD9 Hx9 Hy9 HB9
  clear hM hB
  go_wp2_with fail
  refine (split_yes (g := gc) (some ⟨w10.heap.size, 0, none⟩) 5 5 2 [97, 98, 99, 100, 101] (w10.alloc (.cells (bvs [97, 98, 99, 100, 101]).toArray 5 (5, 6))) (HC10.out.alloc _) (rd_const w10 [97, 98, 99, 100, 101] 5 (5, 6) rfl) (by omega) (by omega) (by omega) (by omega)).mono ?_
  rintro e w11 ⟨A7, c7, rfl, hT, hB⟩
  rw [u8] at hT
  rw [u9] at hT
  have hW : Below w10.heap.size w10 w11 := bhop (balloc (Below.refl w10.heap.size w10) _) hB
  have HC11 := Lib.hid (HC10.out.below hW (Nat.le_refl _))
  have Hx11 := Lib.hid (Hx10.out.below hW (Nat.le_refl _))
  have Hy11 := Lib.hid (Hy10.out.below hW (Nat.le_refl _))
  have Hz11 := Lib.hid (Hz10.out.below hW (Nat.le_refl _))
  have HB11 : Hid (Below w.heap.size w w11) := HB10.out.trans (hW.mono HB10.out.size)
  have Hs11 := Lib.hid (hT.tr)
  clear hW HC10 Hx10 Hy10 Hz10 HB10
  clear hT hB
  (try rw [u9])
  go_wp2_with fail
  refine (join_any (g := gc) A7 2 c7 [[[97, 98], [99, 100]], [[101, 0], [0, 0]]] 5 w11 HC11.out Hs11.out (by omega) (by intro T hT; simp at hT; rcases hT with rfl | rfl <;> exact ⟨by decide, fun r hr => by simp at hr; rcases hr with rfl | rfl <;> decide⟩)).mono ?_
  rintro e w12 ⟨hB, hJ⟩
  obtain ⟨_, _, _, B8, c8, rfl, hR⟩ := (hJ.resolve_left (fun h => by have := j5.symm.trans h.1; cases this)).resolve_left (fun h => by have := h.2.1; simp at this)
  have hW : Below w11.heap.size w11 w12 := hB
  have Hx12 := Lib.hid (Hx11.out.below hW (Nat.le_refl _))
  have Hy12 := Lib.hid (Hy11.out.below hW (Nat.le_refl _))
  have Hz12 := Lib.hid (Hz11.out.below hW (Nat.le_refl _))
  have Hs12 := Lib.hid (Hs11.out.below hW (Nat.le_refl _))
  have HB12 : Hid (Below w.heap.size w w12) := HB11.out.trans (hW.mono HB11.out.size)
  have Ht12 := Lib.hid (hR)
  clear hW HC11 Hx11 Hy11 Hz11 Hs11 HB11
  clear hB hJ hR
  go_wp2_with fail
  refine (lists_b A4 3 c4 [[1], [1], [122]] (some ⟨w12.heap.size + 3, 0, none⟩) 3 _ (by exact ((((Hx12.out).below (balloc (Below.refl _ _) _) (Nat.le_refl _)).below (balloc (Below.refl _ _) _) (Nat.le_refl _)).below (balloc (Below.refl _ _) _) (Nat.le_refl _)).below (balloc (Below.refl _ _) _) (Nat.le_refl _)) (by exact (mo3 w12 [1] [1] [122] 1 1 1 rfl rfl rfl).mr) (by omega)).mono ?_
  rintro e w13 ⟨rfl, hB⟩
  have hW : Below w12.heap.size w12 w13 := bhop (balloc (balloc (balloc (balloc (Below.refl w12.heap.size w12) _) _) _) _) hB
  have Hy13 := Lib.hid (Hy12.out.below hW (Nat.le_refl _))
  have Hz13 := Lib.hid (Hz12.out.below hW (Nat.le_refl _))
  have Hs13 := Lib.hid (Hs12.out.below hW (Nat.le_refl _))
  have Ht13 := Lib.hid (Ht12.out.below hW (Nat.le_refl _))
  have HB13 : Hid (Below w.heap.size w w13) := HB12.out.trans (hW.mono HB12.out.size)
  clear hW Hx12 Hy12 Hz12 Hs12 Ht12 HB12
  clear hB
  go_wp2_with fail
  refine (lists_b A5 2 c5 [[1], [1]] (some ⟨w13.heap.size + 2, 0, none⟩) 2 _ (by exact (((Hy13.out).below (balloc (Below.refl _ _) _) (Nat.le_refl _)).below (balloc (Below.refl _ _) _) (Nat.le_refl _)).below (balloc (Below.refl _ _) _) (Nat.le_refl _)) (by exact (mo2 w13 [1] [1] 1 1 rfl rfl).mr) (by omega)).mono ?_
  rintro e w14 ⟨rfl, hB⟩
  have hW : Below w13.heap.size w13 w14 := bhop (balloc (balloc (balloc (Below.refl w13.heap.size w13) _) _) _) hB
  have Hz14 := Lib.hid (Hz13.out.below hW (Nat.le_refl _))
  have Hs14 := Lib.hid (Hs13.out.below hW (Nat.le_refl _))
  have Ht14 := Lib.hid (Ht13.out.below hW (Nat.le_refl _))
  have HB14 : Hid (Below w.heap.size w w14) := HB13.out.trans (hW.mono HB13.out.size)
  clear hW Hy13 Hz13 Hs13 Ht13 HB13
  clear hB
  go_wp2_with fail
  refine (lists_b A6 3 c6 [[2], [2], [1]] (some ⟨w14.heap.size + 3, 0, none⟩) 3 _ (by exact ((((Hz14.out).below (balloc (Below.refl _ _) _) (Nat.le_refl _)).below (balloc (Below.refl _ _) _) (Nat.le_refl _)).below (balloc (Below.refl _ _) _) (Nat.le_refl _)).below (balloc (Below.refl _ _) _) (Nat.le_refl _)) (by exact (mo3 w14 [2] [2] [1] 1 1 1 rfl rfl rfl).mr) (by omega)).mono ?_
  rintro e w15 ⟨rfl, hB⟩
  have hW : Below w14.heap.size w14 w15 := bhop (balloc (balloc (balloc (balloc (Below.refl w14.heap.size w14) _) _) _) _) hB
  have Hs15 := Lib.hid (Hs14.out.below hW (Nat.le_refl _))
  have Ht15 := Lib.hid (Ht14.out.below hW (Nat.le_refl _))
  have HB15 : Hid (Below w.heap.size w w15) := HB14.out.trans (hW.mono HB14.out.size)
  clear hW Hz14 Hs14 Ht14 HB14
  clear hB
  obtain ⟨ad, B0, d0, T0, hA7, _, hT0, hc0, hd0⟩ := Hs15.out.row (show 0 < 2 by omega)
  subst hA7
  simp at hT0
  subst hT0
  rw [addr_add_0] at hc0
  have hc0 : w15.cell? ad = some (.slice B0 2 d0) := hc0
  have Hd0 : Hid (MR w15 B0 2 [[97, 98], [99, 100]]) := hd0
  have cv4 := cv3 (w15.alloc (.cells #[.int .u8 97, .int .u8 98] 5 (2, 3)))
  simp only [size_alloc] at cv4
  clear hd0 cv3
  go_wp2_with fail
  refine (lists_b B0 2 d0 [[97, 98], [99, 100]] (some ⟨w15.heap.size + 2, 0, none⟩) 2 _ (by exact (((Hd0.out).below (balloc (Below.refl _ _) _) (Nat.le_refl _)).below (balloc (Below.refl _ _) _) (Nat.le_refl _)).below (balloc (Below.refl _ _) _) (Nat.le_refl _)) (by have h0 := mr_two (d := 2) (d' := 2) ((rd_const w15 [97, 98] 2 (2, 3) rfl).alloc (.cells (bvs [99, 100]).toArray 5 (2, 3))) (rd_const (w15.alloc (.cells (bvs [97, 98]).toArray 5 (2, 3))) [99, 100] 2 (2, 3) rfl); simp only [size_alloc] at h0; exact h0) (by omega)).mono ?_
  rintro e w16 ⟨rfl, hB⟩
  have hW : Below w15.heap.size w15 w16 := bhop (balloc (balloc (balloc (Below.refl w15.heap.size w15) _) _) _) hB
  have Hs16 := Lib.hid (Hs15.out.below hW (Nat.le_refl _))
  have Ht16 := Lib.hid (Ht15.out.below hW (Nat.le_refl _))
  have HB16 : Hid (Below w.heap.size w w16) := HB15.out.trans (hW.mono HB15.out.size)
  clear hW Hs15 Ht15 HB15
  clear hB hc0 cv4
  obtain ⟨ad', B1, d1, T1, hA7, _, hT1, hc1, hd1⟩ := Hs16.out.row (show 1 < 2 by omega)
  injection hA7 with hA7
  subst hA7
  simp at hT1
  subst hT1
  have hc1 : w16.cell? ⟨ad.block, ad.off + 1, none⟩ = some (.slice B1 2 d1) := hc1
  have Hd1 : Hid (MR w16 B1 2 [[101, 0], [0, 0]]) := hd1
  clear hd1
  go_wp2_with fail
  refine (lists_b B1 2 d1 [[101, 0], [0, 0]] (some ⟨w16.heap.size + 2, 0, none⟩) 2 _ (by exact (((Hd1.out).below (balloc (Below.refl _ _) _) (Nat.le_refl _)).below (balloc (Below.refl _ _) _) (Nat.le_refl _)).below (balloc (Below.refl _ _) _) (Nat.le_refl _)) (by exact (mo2 w16 [101, 0] [0, 0] 2 2 rfl rfl).mr) (by omega)).mono ?_
  rintro e w17 ⟨rfl, hB⟩
  have hW : Below w16.heap.size w16 w17 := bhop (balloc (balloc (balloc (Below.refl w16.heap.size w16) _) _) _) hB
  have Ht17 := Lib.hid (Ht16.out.below hW (Nat.le_refl _))
  have HB17 : Hid (Below w.heap.size w w17) := HB16.out.trans (hW.mono HB16.out.size)
  clear hW Hs16 Ht16 HB16
  clear hB hc1
  have hRt : Rd w17 B8 5 [97, 98, 99, 100, 101] := Ht17.out
  have kt := conv_str (P := Try.prog) Try.underlying31 Try.underlying5 Try.underlying9 hRt c8
  go_wp2
  go_ret
  exact ⟨rfl, HB17.out⟩
end Go.Proofs.Ytobbjeephmfdeaa
