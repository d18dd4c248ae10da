/- RoundNumbers' walk. -/
import Derived.Test.YtciihebaameccaaRndL
namespace Go.Proofs.Ytciihebaameccaa
open Go.RowKit Go.Coop
set_option maxRecDepth 100000
abbrev X9 : List (Int × Int × Int × Int) := [(-1, 1, 1, 1), (1099511627777, 1, 1, 1), (0, 0, 1, 1), (0, 1099511627777, 1, 1), (0, 1, 0, 0), (0, 1, 256, 1), (0, 1, 3, 0), (0, 1, 3, 4), (0, 1, -1, 1)]
theorem x9_no : ∀ x ∈ X9, ¬ MayR x.1 x.2.1 x.2.2.1 x.2.2.2 := by decide
def qcs (l : List (Int × Int × Int × Int)) : List Value := l.flatMap fun x => [.int .i64 x.1, .int .i64 x.2.1, .int .i64 x.2.2.1, .int .i64 x.2.2.2]
theorem qcs_get : ∀ {l : List (Int × Int × Int × Int)} {i : Nat} {x : Int × Int × Int × Int} {j : Nat} {v : Value}, l[i]? = some x → [Value.int .i64 x.1, Value.int .i64 x.2.1, Value.int .i64 x.2.2.1, Value.int .i64 x.2.2.2][j]? = some v → (qcs l)[i * 4 + j]? = some v
  | [], i, p, j, v, h, _ => by simp at h
  | q :: ps, 0, p, j, v, h, hj => by
    simp at h
    subst h
    have : j < [Value.int .i64 q.1, Value.int .i64 q.2.1, Value.int .i64 q.2.2.1, Value.int .i64 q.2.2.2].length := (List.getElem?_eq_some_iff.1 hj).1
    simp only [qcs, List.flatMap_cons]
    rw [Nat.zero_mul, Nat.zero_add, List.getElem?_append_left this, hj]
  | q :: ps, i + 1, p, j, v, h, hj => by
    have := qcs_get (l := ps) (i := i) (by simpa using h) hj
    simp only [qcs, List.flatMap_cons] at this ⊢
    have hl : [Value.int .i64 q.1, Value.int .i64 q.2.1, Value.int .i64 q.2.2.1, Value.int .i64 q.2.2.2].length = 4 := rfl
    rw [List.getElem?_append_right (by rw [hl]; omega), hl, show (i + 1) * 4 + j - 4 = i * 4 + j by omega, this]
theorem begin_no {s v n d : Int} (h : ¬ MayR s v n d) : beginR s v n d = (⟨0, 0, 0, 0, []⟩, 130) := by unfold beginR; rw [if_neg h]
theorem begin_right {s v d : Int} {n : Nat} (h : MayR s v n d) : RightR ⟨s, v, d, 1, List.replicate n 0⟩ := by
  have h2 := h.2.2
  refine ⟨?_, ?_, ?_⟩
  · simp only [List.length_replicate]; exact h
  · intro m hm
    have := List.eq_of_mem_replicate hm
    omega
  · show PhOk d 1 (List.replicate n 0)
    unfold PhOk
    left
    simp only [cnt_replicate, List.length_replicate]
    simp
    omega
/-- 255 noughts -/
def N255 : List Int := List.replicate 255 0
theorem n255 : N255.length = 255 := List.length_replicate
theorem nb0 : beginR 1099511627776 1099511627776 255 255 = (⟨1099511627776, 1099511627776, 255, 1, N255⟩, 0) := by unfold beginR; rw [if_pos (by decide)]; rfl
theorem nb1 : beginR 0 1 2 1 = (⟨0, 1, 1, 1, [0, 0]⟩, 0) := by kernel_rfl
theorem nr0 : decide (RightR ⟨1099511627776, 1099511627776, 255, 1, N255⟩) = true := decide_eq_true (begin_right (n := 255) (by decide))
theorem nz0 : decide (RightR ⟨0, 0, 0, 0, []⟩) = false := by kernel_rfl
theorem np1 : Rn.publish ⟨0, 1, 1, 1, [0, 0]⟩ = (⟨0, 1, 1, 1, [0, 0]⟩, 80) := by kernel_rfl
theorem np2 : Rn.publish ⟨0, 0, 0, 0, []⟩ = (⟨0, 0, 0, 0, []⟩, 130) := by kernel_rfl
theorem np3 : Rn.give ⟨0, 0, 0, 0, []⟩ = (⟨0, 0, 0, 0, []⟩, 130) := by kernel_rfl
theorem nt1 : Rn.told ⟨0, 1, 1, 1, [0, 0]⟩ 2 1 0 = (⟨0, 1, 1, 1, [0, 0]⟩, 130) := by kernel_rfl
theorem nt2 : Rn.told ⟨0, 1, 1, 1, [0, 0]⟩ (-1) 1 0 = (⟨0, 1, 1, 1, [0, 0]⟩, 130) := by kernel_rfl
abbrev NS : Rn := ⟨0, 1, 1, 1, [0, 0]⟩
abbrev NR : Rn := ⟨0, 1, 1, 2, [1, 0]⟩
abbrev NP : Rn := ⟨0, 1, 1, 3, [1, 0]⟩
abbrev NG : Rn := ⟨0, 1, 1, 5, [1, 0]⟩
abbrev NL : Rn := ⟨0, 1, 1, 4, [2, 2]⟩
abbrev NE : Rn := ⟨0, 1, 1, 6, [4, 4]⟩
theorem nl1 : toldL NS [(0, 1, 0)] = NR := by kernel_rfl
theorem nl2 : toldL NP [(0, 2, 60), (0, 1, 61), (1, 1, 62), (1, 1, 0), (1, 2, 61)] = NL := by kernel_rfl
theorem nl3 : toldL NG [(0, 3, 0), (0, 1, 0), (1, 3, 61), (0, 3, 0)] = NE := by kernel_rfl
theorem nl4 : toldL NS [(0, 2, 0), (0, 9, 0), (1, 3, 0)] = NS := by kernel_rfl
theorem no1 : OkL NS [(0, 1, 0)] := .cons ⟨by kernel_rfl, by decide, by decide⟩ (.nil _)
theorem no2 : OkL NP [(0, 2, 60), (0, 1, 61), (1, 1, 62), (1, 1, 0), (1, 2, 61)] := .cons ⟨by kernel_rfl, by decide, by decide⟩ (.cons ⟨by kernel_rfl, by decide, by decide⟩ (.cons ⟨by kernel_rfl, by decide, by decide⟩ (.cons ⟨by kernel_rfl, by decide, by decide⟩ (.cons ⟨by kernel_rfl, by decide, by decide⟩ (.nil _)))))
theorem no3 : OkL NG [(0, 3, 0), (0, 1, 0), (1, 3, 61), (0, 3, 0)] := .cons ⟨by kernel_rfl, by decide, by decide⟩ (.cons ⟨by kernel_rfl, by decide, by decide⟩ (.cons ⟨by kernel_rfl, by decide, by decide⟩ (.cons ⟨by kernel_rfl, by decide, by decide⟩ (.nil _))))
theorem no4 : OkL NS [(0, 2, 0), (0, 9, 0), (1, 3, 0)] := .cons ⟨by kernel_rfl, by decide, by decide⟩ (.cons ⟨by kernel_rfl, by decide, by decide⟩ (.cons ⟨by kernel_rfl, by decide, by decide⟩ (.nil _)))
theorem np4 : Rn.publish ⟨0, 1, 1, 2, [1, 0]⟩ = (⟨0, 1, 1, 3, [1, 0]⟩, 0) := by kernel_rfl
theorem np5 : Rn.give ⟨0, 1, 1, 3, [1, 0]⟩ = (⟨0, 1, 1, 3, [1, 0]⟩, 80) := by kernel_rfl
theorem np6 : Rn.publish ⟨0, 1, 1, 3, [1, 0]⟩ = (⟨0, 1, 1, 3, [1, 0]⟩, 80) := by kernel_rfl
theorem np7 : Rn.give ⟨0, 1, 1, 2, [1, 0]⟩ = (⟨0, 1, 1, 5, [1, 0]⟩, 0) := by kernel_rfl
theorem np8 : Rn.publish ⟨0, 1, 1, 5, [1, 0]⟩ = (⟨0, 1, 1, 5, [1, 0]⟩, 80) := by kernel_rfl
theorem ne1 : Rn.lose ⟨0, 1, 1, 2, [1, 0]⟩ 0 = (⟨0, 1, 1, 1, [0, 0]⟩, 0) := by kernel_rfl
theorem ne2 : Rn.lose ⟨0, 1, 1, 3, [1, 0]⟩ 1 = (⟨0, 1, 1, 3, [1, 0]⟩, 0) := by kernel_rfl
theorem ne3 : Rn.lose ⟨0, 1, 1, 1, [0, 0]⟩ 2 = (⟨0, 1, 1, 1, [0, 0]⟩, 130) := by kernel_rfl
theorem nw1 : decide (Rn.wants ⟨0, 1, 1, 1, [0, 0]⟩ = [(0, 1), (1, 1)]) = true := by kernel_rfl
theorem nw2 : Rn.wants ⟨0, 0, 0, 0, [0]⟩ = [] := by kernel_rfl
theorem ns1 : decide (SameR ⟨0, 1, 1, 1, [0, 0]⟩ ⟨0, 1, 1, 1, [0, 0]⟩) = true := by kernel_rfl
section
variable (w : World)
set_option maxHeartbeats 16000000 in
theorem numbers_law : Calls Try.prog 3 #[] w (Told w true) := by
  obtain ⟨w1, hw1⟩ : ∃ z, w.alloc (.cells (qcs X9).toArray 22) = z := ⟨_, rfl⟩
  obtain ⟨hb1, hx1⟩ := box_new hw1
  have HW := Lib.hid hw1
  obtain ⟨z, hz⟩ : ∃ z, w.heap.size = z := ⟨_, rfl⟩
  rw [hz] at hx1
  have HE := Lib.hid (And.intro hb1 hx1)
  have hz' := Lib.hid hz
  clear hb1 hx1 hw1 hz
  go_enter Try.func3, Try.ntmps3
  go_wp2
  change Code.wp Try.prog _ _ _ (w.alloc (.cells (qcs X9).toArray 22))
  rw [HW.out]
  (try rw [hz'.out])
  go_loopg [1, 2, 3, 4, 55] 9 (fun kx _ _ _ _ s55 wr => ∃ i : Nat, i ≤ 9 ∧ 9 - i ≤ kx ∧ s55 = .int .i64 i ∧ Hid (Below w.heap.size w wr ∧ wr.heap[z]? = some (.cells (qcs X9).toArray 22 (0, 0))))
  case atStart => exact ⟨0, by omega, by omega, rfl, HE⟩
  case round =>
    clear HE HW
    obtain ⟨i, hi, hk, rfl, HR⟩ := hrel
    by_cases hlt : i < 9
    · obtain ⟨x, hx⟩ : ∃ x, X9[i]? = some x := ⟨_, List.getElem?_eq_getElem (by simpa using hlt)⟩
      have hno := Lib.hid (begin_no (x9_no x (mem_at hx)))
      have c0 : wr.cell? ⟨z, i * 4, none⟩ = some (.int .i64 x.1) := by
        rw [cell_of_row wr z _ _ 22 (0, 0) HR.out.2, List.getElem?_toArray]
        exact qcs_get (j := 0) hx rfl
      have c1 : wr.cell? ⟨z, i * 4 + 1, none⟩ = some (.int .i64 x.2.1) := by
        rw [cell_of_row wr z _ _ 22 (0, 0) HR.out.2, List.getElem?_toArray]
        exact qcs_get (j := 1) hx rfl
      have c2 : wr.cell? ⟨z, i * 4 + 2, none⟩ = some (.int .i64 x.2.2.1) := by
        rw [cell_of_row wr z _ _ 22 (0, 0) HR.out.2, List.getElem?_toArray]
        exact qcs_get (j := 2) hx rfl
      have c3 : wr.cell? ⟨z, i * 4 + 3, none⟩ = some (.int .i64 x.2.2.2) := by
        rw [cell_of_row wr z _ _ 22 (0, 0) HR.out.2, List.getElem?_toArray]
        exact qcs_get (j := 3) hx rfl
      obtain ⟨xa, xb, xc, xd⟩ := x
      simp only at c0 c1 c2 c3 hno
      have hi1 : (0 : Int) ≤ (i : Int) := by omega
      have hi2 : (i : Int) < 9 := by omega
      have hi0 : decide ((i : Int) < 0) = false := decide_eq_false (by omega)
      have hw1 : IntKind.i64.wrap ((i : Int) + 1) = (i : Int) + 1 := IntWalk.i64_in _ (by omega)
      clear hx
      go_wp2_with fail
      refine (begin_is _ xa xb xc xd).mono ?_
      rintro e w2 ⟨A2, c2', he, hr2, hA2, hb2⟩
      subst he
      rw [hno.out] at hr2 ⊢
      simp only [RVal, List.length_nil] at hr2 ⊢
      have hBa : Below wr.heap.size wr w2 := ((Below.refl _ _).alloc (Nat.le_refl _) _ : Below wr.heap.size wr _).trans (hb2.mono (by simp))
      clear hb2 hA2 c0 c1 c2 c3
      obtain ⟨w3, hw3⟩ : ∃ z, w2.alloc (.cells #[.int .i64 0, .int .i64 0, .int .i64 0, .int .i64 0, .slice A2 0 c2'] 26) = z := ⟨_, rfl⟩
      obtain ⟨hb3, hx3⟩ := box_new hw3
      obtain ⟨⟨f0, f1, f2, f3, f4⟩, fbl⟩ := five26 hx3
      have HR3 := Lib.hid (hr2.below hb3 (Nat.le_refl _))
      have HB3 := Lib.hid (HR.out.1.trans ((hBa.trans (hb3.mono hBa.size)).mono HR.out.1.size))
      have HZ3 := Lib.hid ((hb3.block _ (by have := lt_of_block HR.out.2; have := hBa.size; omega)).trans ((hBa.block _ (lt_of_block HR.out.2)).trans HR.out.2))
      clear hr2 hBa hb3 hx3
      go_wp2_with fail
      (try rw [hw3])
      refine (right_is _ 0 0 0 0 HR3.out (by omega) nz0).mono ?_
      rintro e w4 ⟨rfl, hb4⟩
      have HB4 := Lib.hid (And.intro (HB3.out.trans (hb4.mono HB3.out.size)) ((hb4.block _ (lt_of_block HZ3.out)).trans HZ3.out))
      clear hb4 hw3 f0 f1 f2 f3 f4
      go_wp2
      go_roundg (9 - (i + 1))
      case measure => omega
      case rel => exact ⟨i + 1, by omega, by omega, by go_num, HB4⟩
    · obtain rfl : i = 9 := by omega
      have HF := Lib.hid HR.out.1
      clear HR hlt
      have HB := HF
      clear HF
      go_wp2_with fail
      refine (begin_is _ 1099511627776 1099511627776 255 255).mono ?_
      rintro e y1 ⟨A5, c5, he, hr5, hA5, hb5⟩
      subst he
      rw [nb0] at hr5 ⊢
      simp only [RVal, List.length_cons, List.length_nil, Nat.zero_add, Nat.reduceAdd, n255] at hr5 ⊢
      have hW : Below wr.heap.size wr y1 := hb5
      replace HB := Lib.hid (HB.out.trans (hW.mono HB.out.size))
      clear hW
      have HR5 := Lib.hid (hr5)
      clear hr5 hA5 hb5
      obtain ⟨g_y2, h_y2⟩ : ∃ g, y1.heap.size = g := ⟨_, rfl⟩
      obtain ⟨y2, e⟩ : ∃ x, y1.alloc (.cells #[.int .i64 1099511627776, .int .i64 1099511627776, .int .i64 255, .int .i64 1, .slice A5 255 c5] 26) = x := ⟨_, rfl⟩
      obtain ⟨hW, hx⟩ := box_new e
      rw [h_y2] at hx
      have Ey2 := Lib.hid e
      have Sy2 := size_of_alloc e
      clear e
      replace hx := Lib.hid (show Row y2 _ #[.int .i64 1099511627776, .int .i64 1099511627776, .int .i64 255, .int .i64 1, .slice A5 255 c5] 26 from hx)
      replace HR5 := Lib.hid (HR5.out.below hW (Nat.le_refl _))
      replace HB := Lib.hid (HB.out.trans (hW.mono HB.out.size))
      clear hW
      have B5 := hx
      clear hx
      go_wp2_with fail
      rw [Ey2.out]
      clear Ey2
      refine (begin_is _ 0 1 2 1).mono ?_
      rintro e y3 ⟨A7, c7, he, hr7, hA7, hb7⟩
      subst he
      rw [nb1] at hr7 ⊢
      simp only [RVal, List.length_cons, List.length_nil, Nat.zero_add, Nat.reduceAdd, n255] at hr7 ⊢
      have hW : Below y2.heap.size y2 y3 := hb7
      replace HR5 := Lib.hid (HR5.out.below hW (Nat.le_refl _))
      replace B5 := Lib.hid (B5.out.below hW (Nat.le_refl _))
      replace HB := Lib.hid (HB.out.trans (hW.mono HB.out.size))
      clear hW
      have HR7 := Lib.hid (hr7)
      clear hr7 hA7 hb7
      obtain ⟨g_y4, h_y4⟩ : ∃ g, y3.heap.size = g := ⟨_, rfl⟩
      obtain ⟨y4, e⟩ : ∃ x, y3.alloc (.cells #[.int .i64 0, .int .i64 1, .int .i64 1, .int .i64 1, .slice A7 2 c7] 26) = x := ⟨_, rfl⟩
      obtain ⟨hW, hx⟩ := box_new e
      rw [h_y4] at hx
      have Ey4 := Lib.hid e
      have Sy4 := size_of_alloc e
      clear e
      replace hx := Lib.hid (show Row y4 _ #[.int .i64 0, .int .i64 1, .int .i64 1, .int .i64 1, .slice A7 2 c7] 26 from hx)
      replace HR5 := Lib.hid (HR5.out.below hW (Nat.le_refl _))
      replace B5 := Lib.hid (B5.out.below hW (Nat.le_refl _))
      replace HR7 := Lib.hid (HR7.out.below hW (Nat.le_refl _))
      replace HB := Lib.hid (HB.out.trans (hW.mono HB.out.size))
      clear hW
      have B7 := hx
      clear hx
      obtain ⟨f0, f1, f2, f3, f4⟩ := arr5 (w := (World.alloc y3 (.cells #[.int .i64 0, .int .i64 1, .int .i64 1, .int .i64 1, .slice A7 2 c7] 26))) (by rw [Ey4.out]; exact B7.out)
      go_wp2_with fail
      rw [Ey4.out]
      clear Ey4
      refine (publish_is _ 0 1 1 1 HR7.out (by omega) np1).mono ?_
      rintro e y5 ⟨A9, c9, he, hr9, hA9, hb9⟩
      subst he
      simp only [RVal, List.length_cons, List.length_nil, Nat.zero_add, Nat.reduceAdd, n255] at hr9 ⊢
      have hW : Below y4.heap.size y4 y5 := hb9
      replace HR5 := Lib.hid (HR5.out.below hW (Nat.le_refl _))
      replace B5 := Lib.hid (B5.out.below hW (Nat.le_refl _))
      replace HR7 := Lib.hid (HR7.out.below hW (Nat.le_refl _))
      replace B7 := Lib.hid (B7.out.below hW (Nat.le_refl _))
      replace HB := Lib.hid (HB.out.trans (hW.mono HB.out.size))
      clear hW
      have HR9 := Lib.hid (hr9)
      clear hr9 hA9 hb9 f0 f1 f2 f3 f4
      obtain ⟨g_y6, h_y6⟩ : ∃ g, y5.heap.size = g := ⟨_, rfl⟩
      obtain ⟨y6, e⟩ : ∃ x, y5.alloc (.cells #[.int .i64 0, .int .i64 1, .int .i64 1, .int .i64 1, .slice A9 2 c9] 26) = x := ⟨_, rfl⟩
      obtain ⟨hW, hx⟩ := box_new e
      rw [h_y6] at hx
      have Ey6 := Lib.hid e
      have Sy6 := size_of_alloc e
      clear e
      replace hx := Lib.hid (show Row y6 _ #[.int .i64 0, .int .i64 1, .int .i64 1, .int .i64 1, .slice A9 2 c9] 26 from hx)
      replace HR5 := Lib.hid (HR5.out.below hW (Nat.le_refl _))
      replace B5 := Lib.hid (B5.out.below hW (Nat.le_refl _))
      replace HR7 := Lib.hid (HR7.out.below hW (Nat.le_refl _))
      replace B7 := Lib.hid (B7.out.below hW (Nat.le_refl _))
      replace HR9 := Lib.hid (HR9.out.below hW (Nat.le_refl _))
      replace HB := Lib.hid (HB.out.trans (hW.mono HB.out.size))
      clear hW
      have B9 := hx
      clear hx
      go_wp2_with fail
      rw [Ey6.out]
      clear Ey6
      refine (publish_is _ 0 0 0 0 (RdV.nil _ none) (by omega) np2).mono ?_
      rintro e y7 ⟨A11, c11, he, hr11, hA11, hb11⟩
      subst he
      simp only [RVal, List.length_cons, List.length_nil, Nat.zero_add, Nat.reduceAdd, n255] at hr11 ⊢
      have hW : Below y6.heap.size y6 y7 := hb11
      replace HR5 := Lib.hid (HR5.out.below hW (Nat.le_refl _))
      replace B5 := Lib.hid (B5.out.below hW (Nat.le_refl _))
      replace HR7 := Lib.hid (HR7.out.below hW (Nat.le_refl _))
      replace B7 := Lib.hid (B7.out.below hW (Nat.le_refl _))
      replace HR9 := Lib.hid (HR9.out.below hW (Nat.le_refl _))
      replace B9 := Lib.hid (B9.out.below hW (Nat.le_refl _))
      replace HB := Lib.hid (HB.out.trans (hW.mono HB.out.size))
      clear hW
      have HR11 := Lib.hid (hr11)
      clear hr11 hA11 hb11
      obtain ⟨g_y8, h_y8⟩ : ∃ g, y7.heap.size = g := ⟨_, rfl⟩
      obtain ⟨y8, e⟩ : ∃ x, y7.alloc (.cells #[.int .i64 0, .int .i64 0, .int .i64 0, .int .i64 0, .slice A11 0 c11] 26) = x := ⟨_, rfl⟩
      obtain ⟨hW, hx⟩ := box_new e
      rw [h_y8] at hx
      have Ey8 := Lib.hid e
      have Sy8 := size_of_alloc e
      clear e
      replace hx := Lib.hid (show Row y8 _ #[.int .i64 0, .int .i64 0, .int .i64 0, .int .i64 0, .slice A11 0 c11] 26 from hx)
      replace HR5 := Lib.hid (HR5.out.below hW (Nat.le_refl _))
      replace B5 := Lib.hid (B5.out.below hW (Nat.le_refl _))
      replace HR7 := Lib.hid (HR7.out.below hW (Nat.le_refl _))
      replace B7 := Lib.hid (B7.out.below hW (Nat.le_refl _))
      replace HR9 := Lib.hid (HR9.out.below hW (Nat.le_refl _))
      replace B9 := Lib.hid (B9.out.below hW (Nat.le_refl _))
      replace HR11 := Lib.hid (HR11.out.below hW (Nat.le_refl _))
      replace HB := Lib.hid (HB.out.trans (hW.mono HB.out.size))
      clear hW
      have B11 := hx
      clear hx
      go_wp2_with fail
      rw [Ey8.out]
      clear Ey8
      refine (give_is _ 0 0 0 0 (RdV.nil _ none) (by omega) np3).mono ?_
      rintro e y9 ⟨A13, c13, he, hr13, hA13, hb13⟩
      subst he
      simp only [RVal, List.length_cons, List.length_nil, Nat.zero_add, Nat.reduceAdd, n255] at hr13 ⊢
      have hW : Below y8.heap.size y8 y9 := hb13
      replace HR5 := Lib.hid (HR5.out.below hW (Nat.le_refl _))
      replace B5 := Lib.hid (B5.out.below hW (Nat.le_refl _))
      replace HR7 := Lib.hid (HR7.out.below hW (Nat.le_refl _))
      replace B7 := Lib.hid (B7.out.below hW (Nat.le_refl _))
      replace HR9 := Lib.hid (HR9.out.below hW (Nat.le_refl _))
      replace B9 := Lib.hid (B9.out.below hW (Nat.le_refl _))
      replace HR11 := Lib.hid (HR11.out.below hW (Nat.le_refl _))
      replace B11 := Lib.hid (B11.out.below hW (Nat.le_refl _))
      replace HB := Lib.hid (HB.out.trans (hW.mono HB.out.size))
      clear hW
      have HR13 := Lib.hid (hr13)
      clear hr13 hA13 hb13
      obtain ⟨g_y10, h_y10⟩ : ∃ g, y9.heap.size = g := ⟨_, rfl⟩
      obtain ⟨y10, e⟩ : ∃ x, y9.alloc (.cells #[.int .i64 0, .int .i64 0, .int .i64 0, .int .i64 0, .slice A13 0 c13] 26) = x := ⟨_, rfl⟩
      obtain ⟨hW, hx⟩ := box_new e
      rw [h_y10] at hx
      have Ey10 := Lib.hid e
      have Sy10 := size_of_alloc e
      clear e
      replace hx := Lib.hid (show Row y10 _ #[.int .i64 0, .int .i64 0, .int .i64 0, .int .i64 0, .slice A13 0 c13] 26 from hx)
      replace HR5 := Lib.hid (HR5.out.below hW (Nat.le_refl _))
      replace B5 := Lib.hid (B5.out.below hW (Nat.le_refl _))
      replace HR7 := Lib.hid (HR7.out.below hW (Nat.le_refl _))
      replace B7 := Lib.hid (B7.out.below hW (Nat.le_refl _))
      replace HR9 := Lib.hid (HR9.out.below hW (Nat.le_refl _))
      replace B9 := Lib.hid (B9.out.below hW (Nat.le_refl _))
      replace HR11 := Lib.hid (HR11.out.below hW (Nat.le_refl _))
      replace B11 := Lib.hid (B11.out.below hW (Nat.le_refl _))
      replace HR13 := Lib.hid (HR13.out.below hW (Nat.le_refl _))
      replace HB := Lib.hid (HB.out.trans (hW.mono HB.out.size))
      clear hW
      have B13 := hx
      clear hx
      obtain ⟨f0, f1, f2, f3, f4⟩ := arr5 (w := (World.alloc y9 (.cells #[.int .i64 0, .int .i64 0, .int .i64 0, .int .i64 0, .slice A13 0 c13] 26))) (by rw [Ey10.out]; exact B7.out)
      go_wp2_with fail
      rw [Ey10.out]
      clear Ey10
      refine (told_is _ 0 1 1 1 2 1 0 HR7.out (by omega) nt1).mono ?_
      rintro e y11 ⟨A15, c15, he, hr15, hA15, hb15⟩
      subst he
      simp only [RVal, List.length_cons, List.length_nil, Nat.zero_add, Nat.reduceAdd, n255] at hr15 ⊢
      have hW : Below y10.heap.size y10 y11 := hb15
      replace HR5 := Lib.hid (HR5.out.below hW (Nat.le_refl _))
      replace B5 := Lib.hid (B5.out.below hW (Nat.le_refl _))
      replace HR7 := Lib.hid (HR7.out.below hW (Nat.le_refl _))
      replace B7 := Lib.hid (B7.out.below hW (Nat.le_refl _))
      replace HR9 := Lib.hid (HR9.out.below hW (Nat.le_refl _))
      replace B9 := Lib.hid (B9.out.below hW (Nat.le_refl _))
      replace HR11 := Lib.hid (HR11.out.below hW (Nat.le_refl _))
      replace B11 := Lib.hid (B11.out.below hW (Nat.le_refl _))
      replace HR13 := Lib.hid (HR13.out.below hW (Nat.le_refl _))
      replace B13 := Lib.hid (B13.out.below hW (Nat.le_refl _))
      replace HB := Lib.hid (HB.out.trans (hW.mono HB.out.size))
      clear hW
      have HR15 := Lib.hid (hr15)
      clear hr15 hA15 hb15 f0 f1 f2 f3 f4
      obtain ⟨g_y12, h_y12⟩ : ∃ g, y11.heap.size = g := ⟨_, rfl⟩
      obtain ⟨y12, e⟩ : ∃ x, y11.alloc (.cells #[.int .i64 0, .int .i64 1, .int .i64 1, .int .i64 1, .slice A15 2 c15] 26) = x := ⟨_, rfl⟩
      obtain ⟨hW, hx⟩ := box_new e
      rw [h_y12] at hx
      have Ey12 := Lib.hid e
      have Sy12 := size_of_alloc e
      clear e
      replace hx := Lib.hid (show Row y12 _ #[.int .i64 0, .int .i64 1, .int .i64 1, .int .i64 1, .slice A15 2 c15] 26 from hx)
      replace HR5 := Lib.hid (HR5.out.below hW (Nat.le_refl _))
      replace B5 := Lib.hid (B5.out.below hW (Nat.le_refl _))
      replace HR7 := Lib.hid (HR7.out.below hW (Nat.le_refl _))
      replace B7 := Lib.hid (B7.out.below hW (Nat.le_refl _))
      replace HR9 := Lib.hid (HR9.out.below hW (Nat.le_refl _))
      replace B9 := Lib.hid (B9.out.below hW (Nat.le_refl _))
      replace HR11 := Lib.hid (HR11.out.below hW (Nat.le_refl _))
      replace B11 := Lib.hid (B11.out.below hW (Nat.le_refl _))
      replace HR13 := Lib.hid (HR13.out.below hW (Nat.le_refl _))
      replace B13 := Lib.hid (B13.out.below hW (Nat.le_refl _))
      replace HR15 := Lib.hid (HR15.out.below hW (Nat.le_refl _))
      replace HB := Lib.hid (HB.out.trans (hW.mono HB.out.size))
      clear hW
      have B15 := hx
      clear hx
      obtain ⟨f0, f1, f2, f3, f4⟩ := arr5 (w := (World.alloc y11 (.cells #[.int .i64 0, .int .i64 1, .int .i64 1, .int .i64 1, .slice A15 2 c15] 26))) (by rw [Ey12.out]; exact B7.out)
      go_wp2_with fail
      rw [Ey12.out]
      clear Ey12
      refine (told_is _ 0 1 1 1 (-1) 1 0 HR7.out (by omega) nt2).mono ?_
      rintro e y13 ⟨A17, c17, he, hr17, hA17, hb17⟩
      subst he
      simp only [RVal, List.length_cons, List.length_nil, Nat.zero_add, Nat.reduceAdd, n255] at hr17 ⊢
      have hW : Below y12.heap.size y12 y13 := hb17
      replace HR5 := Lib.hid (HR5.out.below hW (Nat.le_refl _))
      replace B5 := Lib.hid (B5.out.below hW (Nat.le_refl _))
      replace HR7 := Lib.hid (HR7.out.below hW (Nat.le_refl _))
      replace B7 := Lib.hid (B7.out.below hW (Nat.le_refl _))
      replace HR9 := Lib.hid (HR9.out.below hW (Nat.le_refl _))
      replace B9 := Lib.hid (B9.out.below hW (Nat.le_refl _))
      replace HR11 := Lib.hid (HR11.out.below hW (Nat.le_refl _))
      replace B11 := Lib.hid (B11.out.below hW (Nat.le_refl _))
      replace HR13 := Lib.hid (HR13.out.below hW (Nat.le_refl _))
      replace B13 := Lib.hid (B13.out.below hW (Nat.le_refl _))
      replace HR15 := Lib.hid (HR15.out.below hW (Nat.le_refl _))
      replace B15 := Lib.hid (B15.out.below hW (Nat.le_refl _))
      replace HB := Lib.hid (HB.out.trans (hW.mono HB.out.size))
      clear hW
      have HR17 := Lib.hid (hr17)
      clear hr17 hA17 hb17 f0 f1 f2 f3 f4
      obtain ⟨g_y14, h_y14⟩ : ∃ g, y13.heap.size = g := ⟨_, rfl⟩
      obtain ⟨y14, e⟩ : ∃ x, y13.alloc (.cells #[.int .i64 0, .int .i64 1, .int .i64 1, .int .i64 1, .slice A17 2 c17] 26) = x := ⟨_, rfl⟩
      obtain ⟨hW, hx⟩ := box_new e
      rw [h_y14] at hx
      have Ey14 := Lib.hid e
      have Sy14 := size_of_alloc e
      clear e
      replace hx := Lib.hid (show Row y14 _ #[.int .i64 0, .int .i64 1, .int .i64 1, .int .i64 1, .slice A17 2 c17] 26 from hx)
      replace HR5 := Lib.hid (HR5.out.below hW (Nat.le_refl _))
      replace B5 := Lib.hid (B5.out.below hW (Nat.le_refl _))
      replace HR7 := Lib.hid (HR7.out.below hW (Nat.le_refl _))
      replace B7 := Lib.hid (B7.out.below hW (Nat.le_refl _))
      replace HR9 := Lib.hid (HR9.out.below hW (Nat.le_refl _))
      replace B9 := Lib.hid (B9.out.below hW (Nat.le_refl _))
      replace HR11 := Lib.hid (HR11.out.below hW (Nat.le_refl _))
      replace B11 := Lib.hid (B11.out.below hW (Nat.le_refl _))
      replace HR13 := Lib.hid (HR13.out.below hW (Nat.le_refl _))
      replace B13 := Lib.hid (B13.out.below hW (Nat.le_refl _))
      replace HR15 := Lib.hid (HR15.out.below hW (Nat.le_refl _))
      replace B15 := Lib.hid (B15.out.below hW (Nat.le_refl _))
      replace HR17 := Lib.hid (HR17.out.below hW (Nat.le_refl _))
      replace HB := Lib.hid (HB.out.trans (hW.mono HB.out.size))
      clear hW
      have B17 := hx
      clear hx
      clear B9 HR9
      clear B11 HR11
      clear B13 HR13
      clear B15 HR15
      clear B17 HR17
      obtain ⟨f0, f1, f2, f3, f4⟩ := arr5 (w := (World.alloc y13 (.cells #[.int .i64 0, .int .i64 1, .int .i64 1, .int .i64 1, .slice A17 2 c17] 26))) (by rw [Ey14.out]; exact B7.out)
      have sy15 : y14.heap.size = g_y14 + 1 := by rw [Sy14, h_y14]
      obtain ⟨y15, e⟩ : ∃ x, y14.alloc (.cells #[.int .i64 0, .int .i64 1, .int .i64 0] 36) = x := ⟨_, rfl⟩
      obtain ⟨hW, hx⟩ := box_new e
      have hl := rd_lit (vs := tcs [(0, 1, 0)]) (by rfl) e
      rw [sy15] at hl
      have Ey15 := Lib.hid e
      clear e hx
      replace HR5 := Lib.hid (HR5.out.below hW (Nat.le_refl _))
      replace B5 := Lib.hid (B5.out.below hW (Nat.le_refl _))
      replace HR7 := Lib.hid (HR7.out.below hW (Nat.le_refl _))
      replace B7 := Lib.hid (B7.out.below hW (Nat.le_refl _))
      replace HB := Lib.hid (HB.out.trans (hW.mono HB.out.size))
      clear hW
      have HL := Lib.hid ((show RdV y15 (some ⟨(g_y14 + 1), 0, none⟩) (1 * 3) (tcs [(0, 1, 0)]) from hl))
      clear hl
      go_wp2_with fail
      rw [Ey14.out]
      rw [Ey15.out]
      clear Ey14 Ey15
      refine (ltold_is _ NS HR7.out (by omega) HL.out rfl (by omega) no1 rfl).mono ?_
      rintro e y16 ⟨A19, c19, he, hr19, hb19⟩
      subst he
      rw [nl1] at hr19 ⊢
      simp only [RVal, List.length_cons, List.length_nil, Nat.zero_add, Nat.reduceAdd, n255] at hr19 ⊢
      have hW : Below y15.heap.size y15 y16 := hb19
      replace HR5 := Lib.hid (HR5.out.below hW (Nat.le_refl _))
      replace B5 := Lib.hid (B5.out.below hW (Nat.le_refl _))
      replace HR7 := Lib.hid (HR7.out.below hW (Nat.le_refl _))
      replace B7 := Lib.hid (B7.out.below hW (Nat.le_refl _))
      replace HL := Lib.hid (HL.out.below hW (Nat.le_refl _))
      replace HB := Lib.hid (HB.out.trans (hW.mono HB.out.size))
      clear hW
      clear HL
      have HR19 := Lib.hid (hr19)
      clear hr19 hb19 f0 f1 f2 f3 f4
      obtain ⟨g_y17, h_y17⟩ : ∃ g, y16.heap.size = g := ⟨_, rfl⟩
      obtain ⟨y17, e⟩ : ∃ x, y16.alloc (.cells #[.int .i64 0, .int .i64 1, .int .i64 1, .int .i64 2, .slice A19 2 c19] 26) = x := ⟨_, rfl⟩
      obtain ⟨hW, hx⟩ := box_new e
      rw [h_y17] at hx
      have Ey17 := Lib.hid e
      have Sy17 := size_of_alloc e
      clear e
      replace hx := Lib.hid (show Row y17 _ #[.int .i64 0, .int .i64 1, .int .i64 1, .int .i64 2, .slice A19 2 c19] 26 from hx)
      replace HR5 := Lib.hid (HR5.out.below hW (Nat.le_refl _))
      replace B5 := Lib.hid (B5.out.below hW (Nat.le_refl _))
      replace HR7 := Lib.hid (HR7.out.below hW (Nat.le_refl _))
      replace B7 := Lib.hid (B7.out.below hW (Nat.le_refl _))
      replace HR19 := Lib.hid (HR19.out.below hW (Nat.le_refl _))
      replace HB := Lib.hid (HB.out.trans (hW.mono HB.out.size))
      clear hW
      have B19 := hx
      clear hx
      obtain ⟨f0, f1, f2, f3, f4⟩ := arr5 (w := (World.alloc y16 (.cells #[.int .i64 0, .int .i64 1, .int .i64 1, .int .i64 2, .slice A19 2 c19] 26))) (by rw [Ey17.out]; exact B19.out)
      go_wp2_with fail
      rw [Ey17.out]
      clear Ey17
      refine (publish_is _ 0 1 1 2 HR19.out (by omega) np4).mono ?_
      rintro e y18 ⟨A21, c21, he, hr21, hA21, hb21⟩
      subst he
      simp only [RVal, List.length_cons, List.length_nil, Nat.zero_add, Nat.reduceAdd, n255] at hr21 ⊢
      have hW : Below y17.heap.size y17 y18 := hb21
      replace HR5 := Lib.hid (HR5.out.below hW (Nat.le_refl _))
      replace B5 := Lib.hid (B5.out.below hW (Nat.le_refl _))
      replace HR7 := Lib.hid (HR7.out.below hW (Nat.le_refl _))
      replace B7 := Lib.hid (B7.out.below hW (Nat.le_refl _))
      replace HR19 := Lib.hid (HR19.out.below hW (Nat.le_refl _))
      replace B19 := Lib.hid (B19.out.below hW (Nat.le_refl _))
      replace HB := Lib.hid (HB.out.trans (hW.mono HB.out.size))
      clear hW
      have HR21 := Lib.hid (hr21)
      clear hr21 hA21 hb21 f0 f1 f2 f3 f4
      obtain ⟨g_y19, h_y19⟩ : ∃ g, y18.heap.size = g := ⟨_, rfl⟩
      obtain ⟨y19, e⟩ : ∃ x, y18.alloc (.cells #[.int .i64 0, .int .i64 1, .int .i64 1, .int .i64 3, .slice A21 2 c21] 26) = x := ⟨_, rfl⟩
      obtain ⟨hW, hx⟩ := box_new e
      rw [h_y19] at hx
      have Ey19 := Lib.hid e
      have Sy19 := size_of_alloc e
      clear e
      replace hx := Lib.hid (show Row y19 _ #[.int .i64 0, .int .i64 1, .int .i64 1, .int .i64 3, .slice A21 2 c21] 26 from hx)
      replace HR5 := Lib.hid (HR5.out.below hW (Nat.le_refl _))
      replace B5 := Lib.hid (B5.out.below hW (Nat.le_refl _))
      replace HR7 := Lib.hid (HR7.out.below hW (Nat.le_refl _))
      replace B7 := Lib.hid (B7.out.below hW (Nat.le_refl _))
      replace HR19 := Lib.hid (HR19.out.below hW (Nat.le_refl _))
      replace B19 := Lib.hid (B19.out.below hW (Nat.le_refl _))
      replace HR21 := Lib.hid (HR21.out.below hW (Nat.le_refl _))
      replace HB := Lib.hid (HB.out.trans (hW.mono HB.out.size))
      clear hW
      have B21 := hx
      clear hx
      obtain ⟨f0, f1, f2, f3, f4⟩ := arr5 (w := (World.alloc y18 (.cells #[.int .i64 0, .int .i64 1, .int .i64 1, .int .i64 3, .slice A21 2 c21] 26))) (by rw [Ey19.out]; exact B21.out)
      go_wp2_with fail
      rw [Ey19.out]
      clear Ey19
      refine (give_is _ 0 1 1 3 HR21.out (by omega) np5).mono ?_
      rintro e y20 ⟨A23, c23, he, hr23, hA23, hb23⟩
      subst he
      simp only [RVal, List.length_cons, List.length_nil, Nat.zero_add, Nat.reduceAdd, n255] at hr23 ⊢
      have hW : Below y19.heap.size y19 y20 := hb23
      replace HR5 := Lib.hid (HR5.out.below hW (Nat.le_refl _))
      replace B5 := Lib.hid (B5.out.below hW (Nat.le_refl _))
      replace HR7 := Lib.hid (HR7.out.below hW (Nat.le_refl _))
      replace B7 := Lib.hid (B7.out.below hW (Nat.le_refl _))
      replace HR19 := Lib.hid (HR19.out.below hW (Nat.le_refl _))
      replace B19 := Lib.hid (B19.out.below hW (Nat.le_refl _))
      replace HR21 := Lib.hid (HR21.out.below hW (Nat.le_refl _))
      replace B21 := Lib.hid (B21.out.below hW (Nat.le_refl _))
      replace HB := Lib.hid (HB.out.trans (hW.mono HB.out.size))
      clear hW
      have HR23 := Lib.hid (hr23)
      clear hr23 hA23 hb23 f0 f1 f2 f3 f4
      obtain ⟨g_y21, h_y21⟩ : ∃ g, y20.heap.size = g := ⟨_, rfl⟩
      obtain ⟨y21, e⟩ : ∃ x, y20.alloc (.cells #[.int .i64 0, .int .i64 1, .int .i64 1, .int .i64 3, .slice A23 2 c23] 26) = x := ⟨_, rfl⟩
      obtain ⟨hW, hx⟩ := box_new e
      rw [h_y21] at hx
      have Ey21 := Lib.hid e
      have Sy21 := size_of_alloc e
      clear e
      replace hx := Lib.hid (show Row y21 _ #[.int .i64 0, .int .i64 1, .int .i64 1, .int .i64 3, .slice A23 2 c23] 26 from hx)
      replace HR5 := Lib.hid (HR5.out.below hW (Nat.le_refl _))
      replace B5 := Lib.hid (B5.out.below hW (Nat.le_refl _))
      replace HR7 := Lib.hid (HR7.out.below hW (Nat.le_refl _))
      replace B7 := Lib.hid (B7.out.below hW (Nat.le_refl _))
      replace HR19 := Lib.hid (HR19.out.below hW (Nat.le_refl _))
      replace B19 := Lib.hid (B19.out.below hW (Nat.le_refl _))
      replace HR21 := Lib.hid (HR21.out.below hW (Nat.le_refl _))
      replace B21 := Lib.hid (B21.out.below hW (Nat.le_refl _))
      replace HR23 := Lib.hid (HR23.out.below hW (Nat.le_refl _))
      replace HB := Lib.hid (HB.out.trans (hW.mono HB.out.size))
      clear hW
      have B23 := hx
      clear hx
      obtain ⟨f0, f1, f2, f3, f4⟩ := arr5 (w := (World.alloc y20 (.cells #[.int .i64 0, .int .i64 1, .int .i64 1, .int .i64 3, .slice A23 2 c23] 26))) (by rw [Ey21.out]; exact B21.out)
      go_wp2_with fail
      rw [Ey21.out]
      clear Ey21
      refine (publish_is _ 0 1 1 3 HR21.out (by omega) np6).mono ?_
      rintro e y22 ⟨A25, c25, he, hr25, hA25, hb25⟩
      subst he
      simp only [RVal, List.length_cons, List.length_nil, Nat.zero_add, Nat.reduceAdd, n255] at hr25 ⊢
      have hW : Below y21.heap.size y21 y22 := hb25
      replace HR5 := Lib.hid (HR5.out.below hW (Nat.le_refl _))
      replace B5 := Lib.hid (B5.out.below hW (Nat.le_refl _))
      replace HR7 := Lib.hid (HR7.out.below hW (Nat.le_refl _))
      replace B7 := Lib.hid (B7.out.below hW (Nat.le_refl _))
      replace HR19 := Lib.hid (HR19.out.below hW (Nat.le_refl _))
      replace B19 := Lib.hid (B19.out.below hW (Nat.le_refl _))
      replace HR21 := Lib.hid (HR21.out.below hW (Nat.le_refl _))
      replace B21 := Lib.hid (B21.out.below hW (Nat.le_refl _))
      replace HR23 := Lib.hid (HR23.out.below hW (Nat.le_refl _))
      replace B23 := Lib.hid (B23.out.below hW (Nat.le_refl _))
      replace HB := Lib.hid (HB.out.trans (hW.mono HB.out.size))
      clear hW
      have HR25 := Lib.hid (hr25)
      clear hr25 hA25 hb25 f0 f1 f2 f3 f4
      obtain ⟨g_y23, h_y23⟩ : ∃ g, y22.heap.size = g := ⟨_, rfl⟩
      obtain ⟨y23, e⟩ : ∃ x, y22.alloc (.cells #[.int .i64 0, .int .i64 1, .int .i64 1, .int .i64 3, .slice A25 2 c25] 26) = x := ⟨_, rfl⟩
      obtain ⟨hW, hx⟩ := box_new e
      rw [h_y23] at hx
      have Ey23 := Lib.hid e
      have Sy23 := size_of_alloc e
      clear e
      replace hx := Lib.hid (show Row y23 _ #[.int .i64 0, .int .i64 1, .int .i64 1, .int .i64 3, .slice A25 2 c25] 26 from hx)
      replace HR5 := Lib.hid (HR5.out.below hW (Nat.le_refl _))
      replace B5 := Lib.hid (B5.out.below hW (Nat.le_refl _))
      replace HR7 := Lib.hid (HR7.out.below hW (Nat.le_refl _))
      replace B7 := Lib.hid (B7.out.below hW (Nat.le_refl _))
      replace HR19 := Lib.hid (HR19.out.below hW (Nat.le_refl _))
      replace B19 := Lib.hid (B19.out.below hW (Nat.le_refl _))
      replace HR21 := Lib.hid (HR21.out.below hW (Nat.le_refl _))
      replace B21 := Lib.hid (B21.out.below hW (Nat.le_refl _))
      replace HR23 := Lib.hid (HR23.out.below hW (Nat.le_refl _))
      replace B23 := Lib.hid (B23.out.below hW (Nat.le_refl _))
      replace HR25 := Lib.hid (HR25.out.below hW (Nat.le_refl _))
      replace HB := Lib.hid (HB.out.trans (hW.mono HB.out.size))
      clear hW
      have B25 := hx
      clear hx
      obtain ⟨f0, f1, f2, f3, f4⟩ := arr5 (w := (World.alloc y22 (.cells #[.int .i64 0, .int .i64 1, .int .i64 1, .int .i64 3, .slice A25 2 c25] 26))) (by rw [Ey23.out]; exact B19.out)
      go_wp2_with fail
      rw [Ey23.out]
      clear Ey23
      refine (give_is _ 0 1 1 2 HR19.out (by omega) np7).mono ?_
      rintro e y24 ⟨A27, c27, he, hr27, hA27, hb27⟩
      subst he
      simp only [RVal, List.length_cons, List.length_nil, Nat.zero_add, Nat.reduceAdd, n255] at hr27 ⊢
      have hW : Below y23.heap.size y23 y24 := hb27
      replace HR5 := Lib.hid (HR5.out.below hW (Nat.le_refl _))
      replace B5 := Lib.hid (B5.out.below hW (Nat.le_refl _))
      replace HR7 := Lib.hid (HR7.out.below hW (Nat.le_refl _))
      replace B7 := Lib.hid (B7.out.below hW (Nat.le_refl _))
      replace HR19 := Lib.hid (HR19.out.below hW (Nat.le_refl _))
      replace B19 := Lib.hid (B19.out.below hW (Nat.le_refl _))
      replace HR21 := Lib.hid (HR21.out.below hW (Nat.le_refl _))
      replace B21 := Lib.hid (B21.out.below hW (Nat.le_refl _))
      replace HR23 := Lib.hid (HR23.out.below hW (Nat.le_refl _))
      replace B23 := Lib.hid (B23.out.below hW (Nat.le_refl _))
      replace HR25 := Lib.hid (HR25.out.below hW (Nat.le_refl _))
      replace B25 := Lib.hid (B25.out.below hW (Nat.le_refl _))
      replace HB := Lib.hid (HB.out.trans (hW.mono HB.out.size))
      clear hW
      have HR27 := Lib.hid (hr27)
      clear hr27 hA27 hb27 f0 f1 f2 f3 f4
      obtain ⟨g_y25, h_y25⟩ : ∃ g, y24.heap.size = g := ⟨_, rfl⟩
      obtain ⟨y25, e⟩ : ∃ x, y24.alloc (.cells #[.int .i64 0, .int .i64 1, .int .i64 1, .int .i64 5, .slice A27 2 c27] 26) = x := ⟨_, rfl⟩
      obtain ⟨hW, hx⟩ := box_new e
      rw [h_y25] at hx
      have Ey25 := Lib.hid e
      have Sy25 := size_of_alloc e
      clear e
      replace hx := Lib.hid (show Row y25 _ #[.int .i64 0, .int .i64 1, .int .i64 1, .int .i64 5, .slice A27 2 c27] 26 from hx)
      replace HR5 := Lib.hid (HR5.out.below hW (Nat.le_refl _))
      replace B5 := Lib.hid (B5.out.below hW (Nat.le_refl _))
      replace HR7 := Lib.hid (HR7.out.below hW (Nat.le_refl _))
      replace B7 := Lib.hid (B7.out.below hW (Nat.le_refl _))
      replace HR19 := Lib.hid (HR19.out.below hW (Nat.le_refl _))
      replace B19 := Lib.hid (B19.out.below hW (Nat.le_refl _))
      replace HR21 := Lib.hid (HR21.out.below hW (Nat.le_refl _))
      replace B21 := Lib.hid (B21.out.below hW (Nat.le_refl _))
      replace HR23 := Lib.hid (HR23.out.below hW (Nat.le_refl _))
      replace B23 := Lib.hid (B23.out.below hW (Nat.le_refl _))
      replace HR25 := Lib.hid (HR25.out.below hW (Nat.le_refl _))
      replace B25 := Lib.hid (B25.out.below hW (Nat.le_refl _))
      replace HR27 := Lib.hid (HR27.out.below hW (Nat.le_refl _))
      replace HB := Lib.hid (HB.out.trans (hW.mono HB.out.size))
      clear hW
      have B27 := hx
      clear hx
      obtain ⟨f0, f1, f2, f3, f4⟩ := arr5 (w := (World.alloc y24 (.cells #[.int .i64 0, .int .i64 1, .int .i64 1, .int .i64 5, .slice A27 2 c27] 26))) (by rw [Ey25.out]; exact B27.out)
      go_wp2_with fail
      rw [Ey25.out]
      clear Ey25
      refine (publish_is _ 0 1 1 5 HR27.out (by omega) np8).mono ?_
      rintro e y26 ⟨A29, c29, he, hr29, hA29, hb29⟩
      subst he
      simp only [RVal, List.length_cons, List.length_nil, Nat.zero_add, Nat.reduceAdd, n255] at hr29 ⊢
      have hW : Below y25.heap.size y25 y26 := hb29
      replace HR5 := Lib.hid (HR5.out.below hW (Nat.le_refl _))
      replace B5 := Lib.hid (B5.out.below hW (Nat.le_refl _))
      replace HR7 := Lib.hid (HR7.out.below hW (Nat.le_refl _))
      replace B7 := Lib.hid (B7.out.below hW (Nat.le_refl _))
      replace HR19 := Lib.hid (HR19.out.below hW (Nat.le_refl _))
      replace B19 := Lib.hid (B19.out.below hW (Nat.le_refl _))
      replace HR21 := Lib.hid (HR21.out.below hW (Nat.le_refl _))
      replace B21 := Lib.hid (B21.out.below hW (Nat.le_refl _))
      replace HR23 := Lib.hid (HR23.out.below hW (Nat.le_refl _))
      replace B23 := Lib.hid (B23.out.below hW (Nat.le_refl _))
      replace HR25 := Lib.hid (HR25.out.below hW (Nat.le_refl _))
      replace B25 := Lib.hid (B25.out.below hW (Nat.le_refl _))
      replace HR27 := Lib.hid (HR27.out.below hW (Nat.le_refl _))
      replace B27 := Lib.hid (B27.out.below hW (Nat.le_refl _))
      replace HB := Lib.hid (HB.out.trans (hW.mono HB.out.size))
      clear hW
      have HR29 := Lib.hid (hr29)
      clear hr29 hA29 hb29 f0 f1 f2 f3 f4
      obtain ⟨g_y27, h_y27⟩ : ∃ g, y26.heap.size = g := ⟨_, rfl⟩
      obtain ⟨y27, e⟩ : ∃ x, y26.alloc (.cells #[.int .i64 0, .int .i64 1, .int .i64 1, .int .i64 5, .slice A29 2 c29] 26) = x := ⟨_, rfl⟩
      obtain ⟨hW, hx⟩ := box_new e
      rw [h_y27] at hx
      have Ey27 := Lib.hid e
      have Sy27 := size_of_alloc e
      clear e
      replace hx := Lib.hid (show Row y27 _ #[.int .i64 0, .int .i64 1, .int .i64 1, .int .i64 5, .slice A29 2 c29] 26 from hx)
      replace HR5 := Lib.hid (HR5.out.below hW (Nat.le_refl _))
      replace B5 := Lib.hid (B5.out.below hW (Nat.le_refl _))
      replace HR7 := Lib.hid (HR7.out.below hW (Nat.le_refl _))
      replace B7 := Lib.hid (B7.out.below hW (Nat.le_refl _))
      replace HR19 := Lib.hid (HR19.out.below hW (Nat.le_refl _))
      replace B19 := Lib.hid (B19.out.below hW (Nat.le_refl _))
      replace HR21 := Lib.hid (HR21.out.below hW (Nat.le_refl _))
      replace B21 := Lib.hid (B21.out.below hW (Nat.le_refl _))
      replace HR23 := Lib.hid (HR23.out.below hW (Nat.le_refl _))
      replace B23 := Lib.hid (B23.out.below hW (Nat.le_refl _))
      replace HR25 := Lib.hid (HR25.out.below hW (Nat.le_refl _))
      replace B25 := Lib.hid (B25.out.below hW (Nat.le_refl _))
      replace HR27 := Lib.hid (HR27.out.below hW (Nat.le_refl _))
      replace B27 := Lib.hid (B27.out.below hW (Nat.le_refl _))
      replace HR29 := Lib.hid (HR29.out.below hW (Nat.le_refl _))
      replace HB := Lib.hid (HB.out.trans (hW.mono HB.out.size))
      clear hW
      have B29 := hx
      clear hx
      clear B23 HR23
      clear B25 HR25
      clear B29 HR29
      obtain ⟨f0, f1, f2, f3, f4⟩ := arr5 (w := (World.alloc y26 (.cells #[.int .i64 0, .int .i64 1, .int .i64 1, .int .i64 5, .slice A29 2 c29] 26))) (by rw [Ey27.out]; exact B21.out)
      have sy28 : y27.heap.size = g_y27 + 1 := by rw [Sy27, h_y27]
      obtain ⟨y28, e⟩ : ∃ x, y27.alloc (.cells #[.int .i64 0, .int .i64 2, .int .i64 60, .int .i64 0, .int .i64 1, .int .i64 61, .int .i64 1, .int .i64 1, .int .i64 62, .int .i64 1, .int .i64 1, .int .i64 0, .int .i64 1, .int .i64 2, .int .i64 61] 36) = x := ⟨_, rfl⟩
      obtain ⟨hW, hx⟩ := box_new e
      have hl := rd_lit (vs := tcs [(0, 2, 60), (0, 1, 61), (1, 1, 62), (1, 1, 0), (1, 2, 61)]) (by rfl) e
      rw [sy28] at hl
      have Ey28 := Lib.hid e
      clear e hx
      replace HR5 := Lib.hid (HR5.out.below hW (Nat.le_refl _))
      replace B5 := Lib.hid (B5.out.below hW (Nat.le_refl _))
      replace HR7 := Lib.hid (HR7.out.below hW (Nat.le_refl _))
      replace B7 := Lib.hid (B7.out.below hW (Nat.le_refl _))
      replace HR19 := Lib.hid (HR19.out.below hW (Nat.le_refl _))
      replace B19 := Lib.hid (B19.out.below hW (Nat.le_refl _))
      replace HR21 := Lib.hid (HR21.out.below hW (Nat.le_refl _))
      replace B21 := Lib.hid (B21.out.below hW (Nat.le_refl _))
      replace HR27 := Lib.hid (HR27.out.below hW (Nat.le_refl _))
      replace B27 := Lib.hid (B27.out.below hW (Nat.le_refl _))
      replace HB := Lib.hid (HB.out.trans (hW.mono HB.out.size))
      clear hW
      have HL := Lib.hid ((show RdV y28 (some ⟨(g_y27 + 1), 0, none⟩) (5 * 3) (tcs [(0, 2, 60), (0, 1, 61), (1, 1, 62), (1, 1, 0), (1, 2, 61)]) from hl))
      clear hl
      go_wp2_with fail
      rw [Ey27.out]
      rw [Ey28.out]
      clear Ey27 Ey28
      refine (ltold_is _ NP HR21.out (by omega) HL.out rfl (by omega) no2 rfl).mono ?_
      rintro e y29 ⟨A31, c31, he, hr31, hb31⟩
      subst he
      rw [nl2] at hr31 ⊢
      simp only [RVal, List.length_cons, List.length_nil, Nat.zero_add, Nat.reduceAdd, n255] at hr31 ⊢
      have hW : Below y28.heap.size y28 y29 := hb31
      replace HR5 := Lib.hid (HR5.out.below hW (Nat.le_refl _))
      replace B5 := Lib.hid (B5.out.below hW (Nat.le_refl _))
      replace HR7 := Lib.hid (HR7.out.below hW (Nat.le_refl _))
      replace B7 := Lib.hid (B7.out.below hW (Nat.le_refl _))
      replace HR19 := Lib.hid (HR19.out.below hW (Nat.le_refl _))
      replace B19 := Lib.hid (B19.out.below hW (Nat.le_refl _))
      replace HR21 := Lib.hid (HR21.out.below hW (Nat.le_refl _))
      replace B21 := Lib.hid (B21.out.below hW (Nat.le_refl _))
      replace HR27 := Lib.hid (HR27.out.below hW (Nat.le_refl _))
      replace B27 := Lib.hid (B27.out.below hW (Nat.le_refl _))
      replace HL := Lib.hid (HL.out.below hW (Nat.le_refl _))
      replace HB := Lib.hid (HB.out.trans (hW.mono HB.out.size))
      clear hW
      clear HL
      have HR31 := Lib.hid (hr31)
      clear hr31 hb31 f0 f1 f2 f3 f4
      obtain ⟨g_y30, h_y30⟩ : ∃ g, y29.heap.size = g := ⟨_, rfl⟩
      obtain ⟨y30, e⟩ : ∃ x, y29.alloc (.cells #[.int .i64 0, .int .i64 1, .int .i64 1, .int .i64 4, .slice A31 2 c31] 26) = x := ⟨_, rfl⟩
      obtain ⟨hW, hx⟩ := box_new e
      rw [h_y30] at hx
      have Ey30 := Lib.hid e
      have Sy30 := size_of_alloc e
      clear e
      replace hx := Lib.hid (show Row y30 _ #[.int .i64 0, .int .i64 1, .int .i64 1, .int .i64 4, .slice A31 2 c31] 26 from hx)
      replace HR5 := Lib.hid (HR5.out.below hW (Nat.le_refl _))
      replace B5 := Lib.hid (B5.out.below hW (Nat.le_refl _))
      replace HR7 := Lib.hid (HR7.out.below hW (Nat.le_refl _))
      replace B7 := Lib.hid (B7.out.below hW (Nat.le_refl _))
      replace HR19 := Lib.hid (HR19.out.below hW (Nat.le_refl _))
      replace B19 := Lib.hid (B19.out.below hW (Nat.le_refl _))
      replace HR21 := Lib.hid (HR21.out.below hW (Nat.le_refl _))
      replace B21 := Lib.hid (B21.out.below hW (Nat.le_refl _))
      replace HR27 := Lib.hid (HR27.out.below hW (Nat.le_refl _))
      replace B27 := Lib.hid (B27.out.below hW (Nat.le_refl _))
      replace HR31 := Lib.hid (HR31.out.below hW (Nat.le_refl _))
      replace HB := Lib.hid (HB.out.trans (hW.mono HB.out.size))
      clear hW
      have B31 := hx
      clear hx
      obtain ⟨f0, f1, f2, f3, f4⟩ := arr5 (w := (World.alloc y29 (.cells #[.int .i64 0, .int .i64 1, .int .i64 1, .int .i64 4, .slice A31 2 c31] 26))) (by rw [Ey30.out]; exact B27.out)
      have sy31 : y30.heap.size = g_y30 + 1 := by rw [Sy30, h_y30]
      obtain ⟨y31, e⟩ : ∃ x, y30.alloc (.cells #[.int .i64 0, .int .i64 3, .int .i64 0, .int .i64 0, .int .i64 1, .int .i64 0, .int .i64 1, .int .i64 3, .int .i64 61, .int .i64 0, .int .i64 3, .int .i64 0] 36) = x := ⟨_, rfl⟩
      obtain ⟨hW, hx⟩ := box_new e
      have hl := rd_lit (vs := tcs [(0, 3, 0), (0, 1, 0), (1, 3, 61), (0, 3, 0)]) (by rfl) e
      rw [sy31] at hl
      have Ey31 := Lib.hid e
      clear e hx
      replace HR5 := Lib.hid (HR5.out.below hW (Nat.le_refl _))
      replace B5 := Lib.hid (B5.out.below hW (Nat.le_refl _))
      replace HR7 := Lib.hid (HR7.out.below hW (Nat.le_refl _))
      replace B7 := Lib.hid (B7.out.below hW (Nat.le_refl _))
      replace HR19 := Lib.hid (HR19.out.below hW (Nat.le_refl _))
      replace B19 := Lib.hid (B19.out.below hW (Nat.le_refl _))
      replace HR21 := Lib.hid (HR21.out.below hW (Nat.le_refl _))
      replace B21 := Lib.hid (B21.out.below hW (Nat.le_refl _))
      replace HR27 := Lib.hid (HR27.out.below hW (Nat.le_refl _))
      replace B27 := Lib.hid (B27.out.below hW (Nat.le_refl _))
      replace HR31 := Lib.hid (HR31.out.below hW (Nat.le_refl _))
      replace B31 := Lib.hid (B31.out.below hW (Nat.le_refl _))
      replace HB := Lib.hid (HB.out.trans (hW.mono HB.out.size))
      clear hW
      have HL := Lib.hid ((show RdV y31 (some ⟨(g_y30 + 1), 0, none⟩) (4 * 3) (tcs [(0, 3, 0), (0, 1, 0), (1, 3, 61), (0, 3, 0)]) from hl))
      clear hl
      go_wp2_with fail
      rw [Ey30.out]
      rw [Ey31.out]
      clear Ey30 Ey31
      refine (ltold_is _ NG HR27.out (by omega) HL.out rfl (by omega) no3 rfl).mono ?_
      rintro e y32 ⟨A33, c33, he, hr33, hb33⟩
      subst he
      rw [nl3] at hr33 ⊢
      simp only [RVal, List.length_cons, List.length_nil, Nat.zero_add, Nat.reduceAdd, n255] at hr33 ⊢
      have hW : Below y31.heap.size y31 y32 := hb33
      replace HR5 := Lib.hid (HR5.out.below hW (Nat.le_refl _))
      replace B5 := Lib.hid (B5.out.below hW (Nat.le_refl _))
      replace HR7 := Lib.hid (HR7.out.below hW (Nat.le_refl _))
      replace B7 := Lib.hid (B7.out.below hW (Nat.le_refl _))
      replace HR19 := Lib.hid (HR19.out.below hW (Nat.le_refl _))
      replace B19 := Lib.hid (B19.out.below hW (Nat.le_refl _))
      replace HR21 := Lib.hid (HR21.out.below hW (Nat.le_refl _))
      replace B21 := Lib.hid (B21.out.below hW (Nat.le_refl _))
      replace HR27 := Lib.hid (HR27.out.below hW (Nat.le_refl _))
      replace B27 := Lib.hid (B27.out.below hW (Nat.le_refl _))
      replace HR31 := Lib.hid (HR31.out.below hW (Nat.le_refl _))
      replace B31 := Lib.hid (B31.out.below hW (Nat.le_refl _))
      replace HL := Lib.hid (HL.out.below hW (Nat.le_refl _))
      replace HB := Lib.hid (HB.out.trans (hW.mono HB.out.size))
      clear hW
      clear HL
      have HR33 := Lib.hid (hr33)
      clear hr33 hb33 f0 f1 f2 f3 f4
      obtain ⟨g_y33, h_y33⟩ : ∃ g, y32.heap.size = g := ⟨_, rfl⟩
      obtain ⟨y33, e⟩ : ∃ x, y32.alloc (.cells #[.int .i64 0, .int .i64 1, .int .i64 1, .int .i64 6, .slice A33 2 c33] 26) = x := ⟨_, rfl⟩
      obtain ⟨hW, hx⟩ := box_new e
      rw [h_y33] at hx
      have Ey33 := Lib.hid e
      have Sy33 := size_of_alloc e
      clear e
      replace hx := Lib.hid (show Row y33 _ #[.int .i64 0, .int .i64 1, .int .i64 1, .int .i64 6, .slice A33 2 c33] 26 from hx)
      replace HR5 := Lib.hid (HR5.out.below hW (Nat.le_refl _))
      replace B5 := Lib.hid (B5.out.below hW (Nat.le_refl _))
      replace HR7 := Lib.hid (HR7.out.below hW (Nat.le_refl _))
      replace B7 := Lib.hid (B7.out.below hW (Nat.le_refl _))
      replace HR19 := Lib.hid (HR19.out.below hW (Nat.le_refl _))
      replace B19 := Lib.hid (B19.out.below hW (Nat.le_refl _))
      replace HR21 := Lib.hid (HR21.out.below hW (Nat.le_refl _))
      replace B21 := Lib.hid (B21.out.below hW (Nat.le_refl _))
      replace HR27 := Lib.hid (HR27.out.below hW (Nat.le_refl _))
      replace B27 := Lib.hid (B27.out.below hW (Nat.le_refl _))
      replace HR31 := Lib.hid (HR31.out.below hW (Nat.le_refl _))
      replace B31 := Lib.hid (B31.out.below hW (Nat.le_refl _))
      replace HR33 := Lib.hid (HR33.out.below hW (Nat.le_refl _))
      replace HB := Lib.hid (HB.out.trans (hW.mono HB.out.size))
      clear hW
      have B33 := hx
      clear hx
      obtain ⟨f0, f1, f2, f3, f4⟩ := arr5 (w := (World.alloc y32 (.cells #[.int .i64 0, .int .i64 1, .int .i64 1, .int .i64 6, .slice A33 2 c33] 26))) (by rw [Ey33.out]; exact B7.out)
      have sy34 : y33.heap.size = g_y33 + 1 := by rw [Sy33, h_y33]
      obtain ⟨y34, e⟩ : ∃ x, y33.alloc (.cells #[.int .i64 0, .int .i64 2, .int .i64 0, .int .i64 0, .int .i64 9, .int .i64 0, .int .i64 1, .int .i64 3, .int .i64 0] 36) = x := ⟨_, rfl⟩
      obtain ⟨hW, hx⟩ := box_new e
      have hl := rd_lit (vs := tcs [(0, 2, 0), (0, 9, 0), (1, 3, 0)]) (by rfl) e
      rw [sy34] at hl
      have Ey34 := Lib.hid e
      clear e hx
      replace HR5 := Lib.hid (HR5.out.below hW (Nat.le_refl _))
      replace B5 := Lib.hid (B5.out.below hW (Nat.le_refl _))
      replace HR7 := Lib.hid (HR7.out.below hW (Nat.le_refl _))
      replace B7 := Lib.hid (B7.out.below hW (Nat.le_refl _))
      replace HR19 := Lib.hid (HR19.out.below hW (Nat.le_refl _))
      replace B19 := Lib.hid (B19.out.below hW (Nat.le_refl _))
      replace HR21 := Lib.hid (HR21.out.below hW (Nat.le_refl _))
      replace B21 := Lib.hid (B21.out.below hW (Nat.le_refl _))
      replace HR27 := Lib.hid (HR27.out.below hW (Nat.le_refl _))
      replace B27 := Lib.hid (B27.out.below hW (Nat.le_refl _))
      replace HR31 := Lib.hid (HR31.out.below hW (Nat.le_refl _))
      replace B31 := Lib.hid (B31.out.below hW (Nat.le_refl _))
      replace HR33 := Lib.hid (HR33.out.below hW (Nat.le_refl _))
      replace B33 := Lib.hid (B33.out.below hW (Nat.le_refl _))
      replace HB := Lib.hid (HB.out.trans (hW.mono HB.out.size))
      clear hW
      have HL := Lib.hid ((show RdV y34 (some ⟨(g_y33 + 1), 0, none⟩) (3 * 3) (tcs [(0, 2, 0), (0, 9, 0), (1, 3, 0)]) from hl))
      clear hl
      go_wp2_with fail
      rw [Ey33.out]
      rw [Ey34.out]
      clear Ey33 Ey34
      refine (ltold_is _ NS HR7.out (by omega) HL.out rfl (by omega) no4 rfl).mono ?_
      rintro e y35 ⟨A35, c35, he, hr35, hb35⟩
      subst he
      rw [nl4] at hr35 ⊢
      simp only [RVal, List.length_cons, List.length_nil, Nat.zero_add, Nat.reduceAdd, n255] at hr35 ⊢
      have hW : Below y34.heap.size y34 y35 := hb35
      replace HR5 := Lib.hid (HR5.out.below hW (Nat.le_refl _))
      replace B5 := Lib.hid (B5.out.below hW (Nat.le_refl _))
      replace HR7 := Lib.hid (HR7.out.below hW (Nat.le_refl _))
      replace B7 := Lib.hid (B7.out.below hW (Nat.le_refl _))
      replace HR19 := Lib.hid (HR19.out.below hW (Nat.le_refl _))
      replace B19 := Lib.hid (B19.out.below hW (Nat.le_refl _))
      replace HR21 := Lib.hid (HR21.out.below hW (Nat.le_refl _))
      replace B21 := Lib.hid (B21.out.below hW (Nat.le_refl _))
      replace HR27 := Lib.hid (HR27.out.below hW (Nat.le_refl _))
      replace B27 := Lib.hid (B27.out.below hW (Nat.le_refl _))
      replace HR31 := Lib.hid (HR31.out.below hW (Nat.le_refl _))
      replace B31 := Lib.hid (B31.out.below hW (Nat.le_refl _))
      replace HR33 := Lib.hid (HR33.out.below hW (Nat.le_refl _))
      replace B33 := Lib.hid (B33.out.below hW (Nat.le_refl _))
      replace HL := Lib.hid (HL.out.below hW (Nat.le_refl _))
      replace HB := Lib.hid (HB.out.trans (hW.mono HB.out.size))
      clear hW
      clear HL
      have HR35 := Lib.hid (hr35)
      clear hr35 hb35 f0 f1 f2 f3 f4
      obtain ⟨g_y36, h_y36⟩ : ∃ g, y35.heap.size = g := ⟨_, rfl⟩
      obtain ⟨y36, e⟩ : ∃ x, y35.alloc (.cells #[.int .i64 0, .int .i64 1, .int .i64 1, .int .i64 1, .slice A35 2 c35] 26) = x := ⟨_, rfl⟩
      obtain ⟨hW, hx⟩ := box_new e
      rw [h_y36] at hx
      have Ey36 := Lib.hid e
      have Sy36 := size_of_alloc e
      clear e
      replace hx := Lib.hid (show Row y36 _ #[.int .i64 0, .int .i64 1, .int .i64 1, .int .i64 1, .slice A35 2 c35] 26 from hx)
      replace HR5 := Lib.hid (HR5.out.below hW (Nat.le_refl _))
      replace B5 := Lib.hid (B5.out.below hW (Nat.le_refl _))
      replace HR7 := Lib.hid (HR7.out.below hW (Nat.le_refl _))
      replace B7 := Lib.hid (B7.out.below hW (Nat.le_refl _))
      replace HR19 := Lib.hid (HR19.out.below hW (Nat.le_refl _))
      replace B19 := Lib.hid (B19.out.below hW (Nat.le_refl _))
      replace HR21 := Lib.hid (HR21.out.below hW (Nat.le_refl _))
      replace B21 := Lib.hid (B21.out.below hW (Nat.le_refl _))
      replace HR27 := Lib.hid (HR27.out.below hW (Nat.le_refl _))
      replace B27 := Lib.hid (B27.out.below hW (Nat.le_refl _))
      replace HR31 := Lib.hid (HR31.out.below hW (Nat.le_refl _))
      replace B31 := Lib.hid (B31.out.below hW (Nat.le_refl _))
      replace HR33 := Lib.hid (HR33.out.below hW (Nat.le_refl _))
      replace B33 := Lib.hid (B33.out.below hW (Nat.le_refl _))
      replace HR35 := Lib.hid (HR35.out.below hW (Nat.le_refl _))
      replace HB := Lib.hid (HB.out.trans (hW.mono HB.out.size))
      clear hW
      have B35 := hx
      clear hx
      obtain ⟨f0, f1, f2, f3, f4⟩ := arr5 (w := (World.alloc y35 (.cells #[.int .i64 0, .int .i64 1, .int .i64 1, .int .i64 1, .slice A35 2 c35] 26))) (by rw [Ey36.out]; exact B19.out)
      go_wp2_with fail
      rw [Ey36.out]
      clear Ey36
      refine (lose_is _ 0 1 1 2 0 HR19.out (by omega) ne1).mono ?_
      rintro e y37 ⟨A37, c37, he, hr37, hA37, hb37⟩
      subst he
      simp only [RVal, List.length_cons, List.length_nil, Nat.zero_add, Nat.reduceAdd, n255] at hr37 ⊢
      have hW : Below y36.heap.size y36 y37 := hb37
      replace HR5 := Lib.hid (HR5.out.below hW (Nat.le_refl _))
      replace B5 := Lib.hid (B5.out.below hW (Nat.le_refl _))
      replace HR7 := Lib.hid (HR7.out.below hW (Nat.le_refl _))
      replace B7 := Lib.hid (B7.out.below hW (Nat.le_refl _))
      replace HR19 := Lib.hid (HR19.out.below hW (Nat.le_refl _))
      replace B19 := Lib.hid (B19.out.below hW (Nat.le_refl _))
      replace HR21 := Lib.hid (HR21.out.below hW (Nat.le_refl _))
      replace B21 := Lib.hid (B21.out.below hW (Nat.le_refl _))
      replace HR27 := Lib.hid (HR27.out.below hW (Nat.le_refl _))
      replace B27 := Lib.hid (B27.out.below hW (Nat.le_refl _))
      replace HR31 := Lib.hid (HR31.out.below hW (Nat.le_refl _))
      replace B31 := Lib.hid (B31.out.below hW (Nat.le_refl _))
      replace HR33 := Lib.hid (HR33.out.below hW (Nat.le_refl _))
      replace B33 := Lib.hid (B33.out.below hW (Nat.le_refl _))
      replace HR35 := Lib.hid (HR35.out.below hW (Nat.le_refl _))
      replace B35 := Lib.hid (B35.out.below hW (Nat.le_refl _))
      replace HB := Lib.hid (HB.out.trans (hW.mono HB.out.size))
      clear hW
      have HR37 := Lib.hid (hr37)
      clear hr37 hA37 hb37 f0 f1 f2 f3 f4
      obtain ⟨g_y38, h_y38⟩ : ∃ g, y37.heap.size = g := ⟨_, rfl⟩
      obtain ⟨y38, e⟩ : ∃ x, y37.alloc (.cells #[.int .i64 0, .int .i64 1, .int .i64 1, .int .i64 1, .slice A37 2 c37] 26) = x := ⟨_, rfl⟩
      obtain ⟨hW, hx⟩ := box_new e
      rw [h_y38] at hx
      have Ey38 := Lib.hid e
      have Sy38 := size_of_alloc e
      clear e
      replace hx := Lib.hid (show Row y38 _ #[.int .i64 0, .int .i64 1, .int .i64 1, .int .i64 1, .slice A37 2 c37] 26 from hx)
      replace HR5 := Lib.hid (HR5.out.below hW (Nat.le_refl _))
      replace B5 := Lib.hid (B5.out.below hW (Nat.le_refl _))
      replace HR7 := Lib.hid (HR7.out.below hW (Nat.le_refl _))
      replace B7 := Lib.hid (B7.out.below hW (Nat.le_refl _))
      replace HR19 := Lib.hid (HR19.out.below hW (Nat.le_refl _))
      replace B19 := Lib.hid (B19.out.below hW (Nat.le_refl _))
      replace HR21 := Lib.hid (HR21.out.below hW (Nat.le_refl _))
      replace B21 := Lib.hid (B21.out.below hW (Nat.le_refl _))
      replace HR27 := Lib.hid (HR27.out.below hW (Nat.le_refl _))
      replace B27 := Lib.hid (B27.out.below hW (Nat.le_refl _))
      replace HR31 := Lib.hid (HR31.out.below hW (Nat.le_refl _))
      replace B31 := Lib.hid (B31.out.below hW (Nat.le_refl _))
      replace HR33 := Lib.hid (HR33.out.below hW (Nat.le_refl _))
      replace B33 := Lib.hid (B33.out.below hW (Nat.le_refl _))
      replace HR35 := Lib.hid (HR35.out.below hW (Nat.le_refl _))
      replace B35 := Lib.hid (B35.out.below hW (Nat.le_refl _))
      replace HR37 := Lib.hid (HR37.out.below hW (Nat.le_refl _))
      replace HB := Lib.hid (HB.out.trans (hW.mono HB.out.size))
      clear hW
      have B37 := hx
      clear hx
      obtain ⟨f0, f1, f2, f3, f4⟩ := arr5 (w := (World.alloc y37 (.cells #[.int .i64 0, .int .i64 1, .int .i64 1, .int .i64 1, .slice A37 2 c37] 26))) (by rw [Ey38.out]; exact B21.out)
      go_wp2_with fail
      rw [Ey38.out]
      clear Ey38
      refine (lose_is _ 0 1 1 3 1 HR21.out (by omega) ne2).mono ?_
      rintro e y39 ⟨A39, c39, he, hr39, hA39, hb39⟩
      subst he
      simp only [RVal, List.length_cons, List.length_nil, Nat.zero_add, Nat.reduceAdd, n255] at hr39 ⊢
      have hW : Below y38.heap.size y38 y39 := hb39
      replace HR5 := Lib.hid (HR5.out.below hW (Nat.le_refl _))
      replace B5 := Lib.hid (B5.out.below hW (Nat.le_refl _))
      replace HR7 := Lib.hid (HR7.out.below hW (Nat.le_refl _))
      replace B7 := Lib.hid (B7.out.below hW (Nat.le_refl _))
      replace HR19 := Lib.hid (HR19.out.below hW (Nat.le_refl _))
      replace B19 := Lib.hid (B19.out.below hW (Nat.le_refl _))
      replace HR21 := Lib.hid (HR21.out.below hW (Nat.le_refl _))
      replace B21 := Lib.hid (B21.out.below hW (Nat.le_refl _))
      replace HR27 := Lib.hid (HR27.out.below hW (Nat.le_refl _))
      replace B27 := Lib.hid (B27.out.below hW (Nat.le_refl _))
      replace HR31 := Lib.hid (HR31.out.below hW (Nat.le_refl _))
      replace B31 := Lib.hid (B31.out.below hW (Nat.le_refl _))
      replace HR33 := Lib.hid (HR33.out.below hW (Nat.le_refl _))
      replace B33 := Lib.hid (B33.out.below hW (Nat.le_refl _))
      replace HR35 := Lib.hid (HR35.out.below hW (Nat.le_refl _))
      replace B35 := Lib.hid (B35.out.below hW (Nat.le_refl _))
      replace HR37 := Lib.hid (HR37.out.below hW (Nat.le_refl _))
      replace B37 := Lib.hid (B37.out.below hW (Nat.le_refl _))
      replace HB := Lib.hid (HB.out.trans (hW.mono HB.out.size))
      clear hW
      have HR39 := Lib.hid (hr39)
      clear hr39 hA39 hb39 f0 f1 f2 f3 f4
      obtain ⟨g_y40, h_y40⟩ : ∃ g, y39.heap.size = g := ⟨_, rfl⟩
      obtain ⟨y40, e⟩ : ∃ x, y39.alloc (.cells #[.int .i64 0, .int .i64 1, .int .i64 1, .int .i64 3, .slice A39 2 c39] 26) = x := ⟨_, rfl⟩
      obtain ⟨hW, hx⟩ := box_new e
      rw [h_y40] at hx
      have Ey40 := Lib.hid e
      have Sy40 := size_of_alloc e
      clear e
      replace hx := Lib.hid (show Row y40 _ #[.int .i64 0, .int .i64 1, .int .i64 1, .int .i64 3, .slice A39 2 c39] 26 from hx)
      replace HR5 := Lib.hid (HR5.out.below hW (Nat.le_refl _))
      replace B5 := Lib.hid (B5.out.below hW (Nat.le_refl _))
      replace HR7 := Lib.hid (HR7.out.below hW (Nat.le_refl _))
      replace B7 := Lib.hid (B7.out.below hW (Nat.le_refl _))
      replace HR19 := Lib.hid (HR19.out.below hW (Nat.le_refl _))
      replace B19 := Lib.hid (B19.out.below hW (Nat.le_refl _))
      replace HR21 := Lib.hid (HR21.out.below hW (Nat.le_refl _))
      replace B21 := Lib.hid (B21.out.below hW (Nat.le_refl _))
      replace HR27 := Lib.hid (HR27.out.below hW (Nat.le_refl _))
      replace B27 := Lib.hid (B27.out.below hW (Nat.le_refl _))
      replace HR31 := Lib.hid (HR31.out.below hW (Nat.le_refl _))
      replace B31 := Lib.hid (B31.out.below hW (Nat.le_refl _))
      replace HR33 := Lib.hid (HR33.out.below hW (Nat.le_refl _))
      replace B33 := Lib.hid (B33.out.below hW (Nat.le_refl _))
      replace HR35 := Lib.hid (HR35.out.below hW (Nat.le_refl _))
      replace B35 := Lib.hid (B35.out.below hW (Nat.le_refl _))
      replace HR37 := Lib.hid (HR37.out.below hW (Nat.le_refl _))
      replace B37 := Lib.hid (B37.out.below hW (Nat.le_refl _))
      replace HR39 := Lib.hid (HR39.out.below hW (Nat.le_refl _))
      replace HB := Lib.hid (HB.out.trans (hW.mono HB.out.size))
      clear hW
      have B39 := hx
      clear hx
      obtain ⟨f0, f1, f2, f3, f4⟩ := arr5 (w := (World.alloc y39 (.cells #[.int .i64 0, .int .i64 1, .int .i64 1, .int .i64 3, .slice A39 2 c39] 26))) (by rw [Ey40.out]; exact B7.out)
      go_wp2_with fail
      rw [Ey40.out]
      clear Ey40
      refine (lose_is _ 0 1 1 1 2 HR7.out (by omega) ne3).mono ?_
      rintro e y41 ⟨A41, c41, he, hr41, hA41, hb41⟩
      subst he
      simp only [RVal, List.length_cons, List.length_nil, Nat.zero_add, Nat.reduceAdd, n255] at hr41 ⊢
      have hW : Below y40.heap.size y40 y41 := hb41
      replace HR5 := Lib.hid (HR5.out.below hW (Nat.le_refl _))
      replace B5 := Lib.hid (B5.out.below hW (Nat.le_refl _))
      replace HR7 := Lib.hid (HR7.out.below hW (Nat.le_refl _))
      replace B7 := Lib.hid (B7.out.below hW (Nat.le_refl _))
      replace HR19 := Lib.hid (HR19.out.below hW (Nat.le_refl _))
      replace B19 := Lib.hid (B19.out.below hW (Nat.le_refl _))
      replace HR21 := Lib.hid (HR21.out.below hW (Nat.le_refl _))
      replace B21 := Lib.hid (B21.out.below hW (Nat.le_refl _))
      replace HR27 := Lib.hid (HR27.out.below hW (Nat.le_refl _))
      replace B27 := Lib.hid (B27.out.below hW (Nat.le_refl _))
      replace HR31 := Lib.hid (HR31.out.below hW (Nat.le_refl _))
      replace B31 := Lib.hid (B31.out.below hW (Nat.le_refl _))
      replace HR33 := Lib.hid (HR33.out.below hW (Nat.le_refl _))
      replace B33 := Lib.hid (B33.out.below hW (Nat.le_refl _))
      replace HR35 := Lib.hid (HR35.out.below hW (Nat.le_refl _))
      replace B35 := Lib.hid (B35.out.below hW (Nat.le_refl _))
      replace HR37 := Lib.hid (HR37.out.below hW (Nat.le_refl _))
      replace B37 := Lib.hid (B37.out.below hW (Nat.le_refl _))
      replace HR39 := Lib.hid (HR39.out.below hW (Nat.le_refl _))
      replace B39 := Lib.hid (B39.out.below hW (Nat.le_refl _))
      replace HB := Lib.hid (HB.out.trans (hW.mono HB.out.size))
      clear hW
      have HR41 := Lib.hid (hr41)
      clear hr41 hA41 hb41 f0 f1 f2 f3 f4
      obtain ⟨g_y42, h_y42⟩ : ∃ g, y41.heap.size = g := ⟨_, rfl⟩
      obtain ⟨y42, e⟩ : ∃ x, y41.alloc (.cells #[.int .i64 0, .int .i64 1, .int .i64 1, .int .i64 1, .slice A41 2 c41] 26) = x := ⟨_, rfl⟩
      obtain ⟨hW, hx⟩ := box_new e
      rw [h_y42] at hx
      have Ey42 := Lib.hid e
      have Sy42 := size_of_alloc e
      clear e
      replace hx := Lib.hid (show Row y42 _ #[.int .i64 0, .int .i64 1, .int .i64 1, .int .i64 1, .slice A41 2 c41] 26 from hx)
      replace HR5 := Lib.hid (HR5.out.below hW (Nat.le_refl _))
      replace B5 := Lib.hid (B5.out.below hW (Nat.le_refl _))
      replace HR7 := Lib.hid (HR7.out.below hW (Nat.le_refl _))
      replace B7 := Lib.hid (B7.out.below hW (Nat.le_refl _))
      replace HR19 := Lib.hid (HR19.out.below hW (Nat.le_refl _))
      replace B19 := Lib.hid (B19.out.below hW (Nat.le_refl _))
      replace HR21 := Lib.hid (HR21.out.below hW (Nat.le_refl _))
      replace B21 := Lib.hid (B21.out.below hW (Nat.le_refl _))
      replace HR27 := Lib.hid (HR27.out.below hW (Nat.le_refl _))
      replace B27 := Lib.hid (B27.out.below hW (Nat.le_refl _))
      replace HR31 := Lib.hid (HR31.out.below hW (Nat.le_refl _))
      replace B31 := Lib.hid (B31.out.below hW (Nat.le_refl _))
      replace HR33 := Lib.hid (HR33.out.below hW (Nat.le_refl _))
      replace B33 := Lib.hid (B33.out.below hW (Nat.le_refl _))
      replace HR35 := Lib.hid (HR35.out.below hW (Nat.le_refl _))
      replace B35 := Lib.hid (B35.out.below hW (Nat.le_refl _))
      replace HR37 := Lib.hid (HR37.out.below hW (Nat.le_refl _))
      replace B37 := Lib.hid (B37.out.below hW (Nat.le_refl _))
      replace HR39 := Lib.hid (HR39.out.below hW (Nat.le_refl _))
      replace B39 := Lib.hid (B39.out.below hW (Nat.le_refl _))
      replace HR41 := Lib.hid (HR41.out.below hW (Nat.le_refl _))
      replace HB := Lib.hid (HB.out.trans (hW.mono HB.out.size))
      clear hW
      have B41 := hx
      clear hx
      obtain ⟨f0, f1, f2, f3, f4⟩ := arr5 (w := (World.alloc y41 (.cells #[.int .i64 0, .int .i64 1, .int .i64 1, .int .i64 1, .slice A41 2 c41] 26))) (by rw [Ey42.out]; exact B37.out)
      obtain ⟨x0, x1, x2, x3, x4⟩ := arr5 (w := (World.alloc y41 (.cells #[.int .i64 0, .int .i64 1, .int .i64 1, .int .i64 1, .slice A41 2 c41] 26))) (by rw [Ey42.out]; exact B39.out)
      have sy43 : y42.heap.size = g_y42 + 1 := by rw [Sy42, h_y42]
      obtain ⟨y43, e⟩ : ∃ x, y42.alloc (.cells #[.int .i64 0, .int .i64 1, .int .i64 1, .int .i64 1] 39) = x := ⟨_, rfl⟩
      obtain ⟨hW, hx⟩ := box_new e
      have hl := rd_lit (vs := dcs [(0, 1), (1, 1)]) (by rfl) e
      rw [sy43] at hl
      have Ey43 := Lib.hid e
      clear e hx
      replace HR5 := Lib.hid (HR5.out.below hW (Nat.le_refl _))
      replace B5 := Lib.hid (B5.out.below hW (Nat.le_refl _))
      replace HR7 := Lib.hid (HR7.out.below hW (Nat.le_refl _))
      replace B7 := Lib.hid (B7.out.below hW (Nat.le_refl _))
      replace HR19 := Lib.hid (HR19.out.below hW (Nat.le_refl _))
      replace B19 := Lib.hid (B19.out.below hW (Nat.le_refl _))
      replace HR21 := Lib.hid (HR21.out.below hW (Nat.le_refl _))
      replace B21 := Lib.hid (B21.out.below hW (Nat.le_refl _))
      replace HR27 := Lib.hid (HR27.out.below hW (Nat.le_refl _))
      replace B27 := Lib.hid (B27.out.below hW (Nat.le_refl _))
      replace HR31 := Lib.hid (HR31.out.below hW (Nat.le_refl _))
      replace B31 := Lib.hid (B31.out.below hW (Nat.le_refl _))
      replace HR33 := Lib.hid (HR33.out.below hW (Nat.le_refl _))
      replace B33 := Lib.hid (B33.out.below hW (Nat.le_refl _))
      replace HR35 := Lib.hid (HR35.out.below hW (Nat.le_refl _))
      replace B35 := Lib.hid (B35.out.below hW (Nat.le_refl _))
      replace HR37 := Lib.hid (HR37.out.below hW (Nat.le_refl _))
      replace B37 := Lib.hid (B37.out.below hW (Nat.le_refl _))
      replace HR39 := Lib.hid (HR39.out.below hW (Nat.le_refl _))
      replace B39 := Lib.hid (B39.out.below hW (Nat.le_refl _))
      replace HR41 := Lib.hid (HR41.out.below hW (Nat.le_refl _))
      replace B41 := Lib.hid (B41.out.below hW (Nat.le_refl _))
      replace HB := Lib.hid (HB.out.trans (hW.mono HB.out.size))
      clear hW
      have HL := Lib.hid ((show RdV y43 (some ⟨(g_y42 + 1), 0, none⟩) (2 * 2) (dcs [(0, 1), (1, 1)]) from hl))
      clear hl
      go_wp2_with fail
      rw [Ey42.out]
      rw [Ey43.out]
      clear Ey42 Ey43
      refine (lwants_is _ 0 1 1 1 HR37.out (by omega) HL.out rfl (by omega) (by decide) nw1).mono ?_
      rintro e y44 ⟨rfl, hb⟩
      have hW : Below y43.heap.size y43 y44 := hb
      replace HR5 := Lib.hid (HR5.out.below hW (Nat.le_refl _))
      replace B5 := Lib.hid (B5.out.below hW (Nat.le_refl _))
      replace HR7 := Lib.hid (HR7.out.below hW (Nat.le_refl _))
      replace B7 := Lib.hid (B7.out.below hW (Nat.le_refl _))
      replace HR19 := Lib.hid (HR19.out.below hW (Nat.le_refl _))
      replace B19 := Lib.hid (B19.out.below hW (Nat.le_refl _))
      replace HR21 := Lib.hid (HR21.out.below hW (Nat.le_refl _))
      replace B21 := Lib.hid (B21.out.below hW (Nat.le_refl _))
      replace HR27 := Lib.hid (HR27.out.below hW (Nat.le_refl _))
      replace B27 := Lib.hid (B27.out.below hW (Nat.le_refl _))
      replace HR31 := Lib.hid (HR31.out.below hW (Nat.le_refl _))
      replace B31 := Lib.hid (B31.out.below hW (Nat.le_refl _))
      replace HR33 := Lib.hid (HR33.out.below hW (Nat.le_refl _))
      replace B33 := Lib.hid (B33.out.below hW (Nat.le_refl _))
      replace HR35 := Lib.hid (HR35.out.below hW (Nat.le_refl _))
      replace B35 := Lib.hid (B35.out.below hW (Nat.le_refl _))
      replace HR37 := Lib.hid (HR37.out.below hW (Nat.le_refl _))
      replace B37 := Lib.hid (B37.out.below hW (Nat.le_refl _))
      replace HR39 := Lib.hid (HR39.out.below hW (Nat.le_refl _))
      replace B39 := Lib.hid (B39.out.below hW (Nat.le_refl _))
      replace HR41 := Lib.hid (HR41.out.below hW (Nat.le_refl _))
      replace B41 := Lib.hid (B41.out.below hW (Nat.le_refl _))
      replace HL := Lib.hid (HL.out.below hW (Nat.le_refl _))
      replace HB := Lib.hid (HB.out.trans (hW.mono HB.out.size))
      clear hW
      clear hb f0 f1 f2 f3 f4 x0 x1 x2 x3 x4
      clear HL
      obtain ⟨x0, x1, x2, x3, x4⟩ := arr5 (w := y44) (by exact B39.out)
      obtain ⟨f0, f1, f2, f3, f4⟩ := arr5 (w := y44) (by exact B5.out)
      go_wp2_with fail
      refine (right_is _ 1099511627776 1099511627776 255 1 HR5.out (by omega) nr0).mono ?_
      rintro e y45 ⟨rfl, hb⟩
      have hW : Below y44.heap.size y44 y45 := hb
      replace HR5 := Lib.hid (HR5.out.below hW (Nat.le_refl _))
      replace B5 := Lib.hid (B5.out.below hW (Nat.le_refl _))
      replace HR7 := Lib.hid (HR7.out.below hW (Nat.le_refl _))
      replace B7 := Lib.hid (B7.out.below hW (Nat.le_refl _))
      replace HR19 := Lib.hid (HR19.out.below hW (Nat.le_refl _))
      replace B19 := Lib.hid (B19.out.below hW (Nat.le_refl _))
      replace HR21 := Lib.hid (HR21.out.below hW (Nat.le_refl _))
      replace B21 := Lib.hid (B21.out.below hW (Nat.le_refl _))
      replace HR27 := Lib.hid (HR27.out.below hW (Nat.le_refl _))
      replace B27 := Lib.hid (B27.out.below hW (Nat.le_refl _))
      replace HR31 := Lib.hid (HR31.out.below hW (Nat.le_refl _))
      replace B31 := Lib.hid (B31.out.below hW (Nat.le_refl _))
      replace HR33 := Lib.hid (HR33.out.below hW (Nat.le_refl _))
      replace B33 := Lib.hid (B33.out.below hW (Nat.le_refl _))
      replace HR35 := Lib.hid (HR35.out.below hW (Nat.le_refl _))
      replace B35 := Lib.hid (B35.out.below hW (Nat.le_refl _))
      replace HR37 := Lib.hid (HR37.out.below hW (Nat.le_refl _))
      replace B37 := Lib.hid (B37.out.below hW (Nat.le_refl _))
      replace HR39 := Lib.hid (HR39.out.below hW (Nat.le_refl _))
      replace B39 := Lib.hid (B39.out.below hW (Nat.le_refl _))
      replace HR41 := Lib.hid (HR41.out.below hW (Nat.le_refl _))
      replace B41 := Lib.hid (B41.out.below hW (Nat.le_refl _))
      replace HB := Lib.hid (HB.out.trans (hW.mono HB.out.size))
      clear hW
      clear hb f0 f1 f2 f3 f4 x0 x1 x2 x3 x4
      obtain ⟨f0, f1, f2, f3, f4⟩ := arr5 (w := y45) (by exact B31.out)
      obtain ⟨x0, x1, x2, x3, x4⟩ := arr5 (w := y45) (by exact B33.out)
      obtain ⟨v0, v1, v2, v3, v4⟩ := arr5 (w := y45) (by exact B35.out)
      obtain ⟨t0, t1, t2, t3, t4⟩ := arr5 (w := y45) (by exact B7.out)
      go_wp2_with fail
      refine (sameR_is _ 0 1 1 1 0 1 1 1 HR35.out HR7.out (by omega) ns1).mono ?_
      rintro e y46 ⟨rfl, hb⟩
      have hW : Below y45.heap.size y45 y46 := hb
      replace HR5 := Lib.hid (HR5.out.below hW (Nat.le_refl _))
      replace B5 := Lib.hid (B5.out.below hW (Nat.le_refl _))
      replace HR7 := Lib.hid (HR7.out.below hW (Nat.le_refl _))
      replace B7 := Lib.hid (B7.out.below hW (Nat.le_refl _))
      replace HR19 := Lib.hid (HR19.out.below hW (Nat.le_refl _))
      replace B19 := Lib.hid (B19.out.below hW (Nat.le_refl _))
      replace HR21 := Lib.hid (HR21.out.below hW (Nat.le_refl _))
      replace B21 := Lib.hid (B21.out.below hW (Nat.le_refl _))
      replace HR27 := Lib.hid (HR27.out.below hW (Nat.le_refl _))
      replace B27 := Lib.hid (B27.out.below hW (Nat.le_refl _))
      replace HR31 := Lib.hid (HR31.out.below hW (Nat.le_refl _))
      replace B31 := Lib.hid (B31.out.below hW (Nat.le_refl _))
      replace HR33 := Lib.hid (HR33.out.below hW (Nat.le_refl _))
      replace B33 := Lib.hid (B33.out.below hW (Nat.le_refl _))
      replace HR35 := Lib.hid (HR35.out.below hW (Nat.le_refl _))
      replace B35 := Lib.hid (B35.out.below hW (Nat.le_refl _))
      replace HR37 := Lib.hid (HR37.out.below hW (Nat.le_refl _))
      replace B37 := Lib.hid (B37.out.below hW (Nat.le_refl _))
      replace HR39 := Lib.hid (HR39.out.below hW (Nat.le_refl _))
      replace B39 := Lib.hid (B39.out.below hW (Nat.le_refl _))
      replace HR41 := Lib.hid (HR41.out.below hW (Nat.le_refl _))
      replace B41 := Lib.hid (B41.out.below hW (Nat.le_refl _))
      replace HB := Lib.hid (HB.out.trans (hW.mono HB.out.size))
      clear hW
      clear hb f0 f1 f2 f3 f4 x0 x1 x2 x3 x4 v0 v1 v2 v3 v4 t0 t1 t2 t3 t4
      obtain ⟨g_y47, h_y47⟩ : ∃ g, y46.heap.size = g := ⟨_, rfl⟩
      obtain ⟨y47, e⟩ : ∃ x, y46.alloc (.cells #[.int .i64 0] 3) = x := ⟨_, rfl⟩
      obtain ⟨hl, hW⟩ := lit_ints y46 [0] rfl e
      rw [h_y47] at hl
      have Ey47 := Lib.hid e
      clear e
      replace HR5 := Lib.hid (HR5.out.below hW (Nat.le_refl _))
      replace B5 := Lib.hid (B5.out.below hW (Nat.le_refl _))
      replace HR7 := Lib.hid (HR7.out.below hW (Nat.le_refl _))
      replace B7 := Lib.hid (B7.out.below hW (Nat.le_refl _))
      replace HR19 := Lib.hid (HR19.out.below hW (Nat.le_refl _))
      replace B19 := Lib.hid (B19.out.below hW (Nat.le_refl _))
      replace HR21 := Lib.hid (HR21.out.below hW (Nat.le_refl _))
      replace B21 := Lib.hid (B21.out.below hW (Nat.le_refl _))
      replace HR27 := Lib.hid (HR27.out.below hW (Nat.le_refl _))
      replace B27 := Lib.hid (B27.out.below hW (Nat.le_refl _))
      replace HR31 := Lib.hid (HR31.out.below hW (Nat.le_refl _))
      replace B31 := Lib.hid (B31.out.below hW (Nat.le_refl _))
      replace HR33 := Lib.hid (HR33.out.below hW (Nat.le_refl _))
      replace B33 := Lib.hid (B33.out.below hW (Nat.le_refl _))
      replace HR35 := Lib.hid (HR35.out.below hW (Nat.le_refl _))
      replace B35 := Lib.hid (B35.out.below hW (Nat.le_refl _))
      replace HR37 := Lib.hid (HR37.out.below hW (Nat.le_refl _))
      replace B37 := Lib.hid (B37.out.below hW (Nat.le_refl _))
      replace HR39 := Lib.hid (HR39.out.below hW (Nat.le_refl _))
      replace B39 := Lib.hid (B39.out.below hW (Nat.le_refl _))
      replace HR41 := Lib.hid (HR41.out.below hW (Nat.le_refl _))
      replace B41 := Lib.hid (B41.out.below hW (Nat.le_refl _))
      replace HB := Lib.hid (HB.out.trans (hW.mono HB.out.size))
      clear hW
      have HL := Lib.hid ((show RdV y47 (some ⟨g_y47, 0, none⟩) 1 ([0].map IV) from hl))
      clear hl
      go_wp2_with fail
      rw [Ey47.out]
      clear Ey47
      refine (wants_is _ 0 0 0 0 HL.out (by omega) nw2).mono ?_
      rintro e y48 ⟨A50, c50, rfl, ho50, hb⟩
      simp only [List.length_nil]
      have hW : Below y47.heap.size y47 y48 := hb
      replace HR5 := Lib.hid (HR5.out.below hW (Nat.le_refl _))
      replace B5 := Lib.hid (B5.out.below hW (Nat.le_refl _))
      replace HR7 := Lib.hid (HR7.out.below hW (Nat.le_refl _))
      replace B7 := Lib.hid (B7.out.below hW (Nat.le_refl _))
      replace HR19 := Lib.hid (HR19.out.below hW (Nat.le_refl _))
      replace B19 := Lib.hid (B19.out.below hW (Nat.le_refl _))
      replace HR21 := Lib.hid (HR21.out.below hW (Nat.le_refl _))
      replace B21 := Lib.hid (B21.out.below hW (Nat.le_refl _))
      replace HR27 := Lib.hid (HR27.out.below hW (Nat.le_refl _))
      replace B27 := Lib.hid (B27.out.below hW (Nat.le_refl _))
      replace HR31 := Lib.hid (HR31.out.below hW (Nat.le_refl _))
      replace B31 := Lib.hid (B31.out.below hW (Nat.le_refl _))
      replace HR33 := Lib.hid (HR33.out.below hW (Nat.le_refl _))
      replace B33 := Lib.hid (B33.out.below hW (Nat.le_refl _))
      replace HR35 := Lib.hid (HR35.out.below hW (Nat.le_refl _))
      replace B35 := Lib.hid (B35.out.below hW (Nat.le_refl _))
      replace HR37 := Lib.hid (HR37.out.below hW (Nat.le_refl _))
      replace B37 := Lib.hid (B37.out.below hW (Nat.le_refl _))
      replace HR39 := Lib.hid (HR39.out.below hW (Nat.le_refl _))
      replace B39 := Lib.hid (B39.out.below hW (Nat.le_refl _))
      replace HR41 := Lib.hid (HR41.out.below hW (Nat.le_refl _))
      replace B41 := Lib.hid (B41.out.below hW (Nat.le_refl _))
      replace HL := Lib.hid (HL.out.below hW (Nat.le_refl _))
      replace HB := Lib.hid (HB.out.trans (hW.mono HB.out.size))
      clear hW
      clear hb ho50
      go_wp2_with fail
      refine (awake_is _).mono ?_
      rintro e y49 ⟨rfl, hb⟩
      have hW : Below y48.heap.size y48 y49 := hb
      replace HR5 := Lib.hid (HR5.out.below hW (Nat.le_refl _))
      replace B5 := Lib.hid (B5.out.below hW (Nat.le_refl _))
      replace HR7 := Lib.hid (HR7.out.below hW (Nat.le_refl _))
      replace B7 := Lib.hid (B7.out.below hW (Nat.le_refl _))
      replace HR19 := Lib.hid (HR19.out.below hW (Nat.le_refl _))
      replace B19 := Lib.hid (B19.out.below hW (Nat.le_refl _))
      replace HR21 := Lib.hid (HR21.out.below hW (Nat.le_refl _))
      replace B21 := Lib.hid (B21.out.below hW (Nat.le_refl _))
      replace HR27 := Lib.hid (HR27.out.below hW (Nat.le_refl _))
      replace B27 := Lib.hid (B27.out.below hW (Nat.le_refl _))
      replace HR31 := Lib.hid (HR31.out.below hW (Nat.le_refl _))
      replace B31 := Lib.hid (B31.out.below hW (Nat.le_refl _))
      replace HR33 := Lib.hid (HR33.out.below hW (Nat.le_refl _))
      replace B33 := Lib.hid (B33.out.below hW (Nat.le_refl _))
      replace HR35 := Lib.hid (HR35.out.below hW (Nat.le_refl _))
      replace B35 := Lib.hid (B35.out.below hW (Nat.le_refl _))
      replace HR37 := Lib.hid (HR37.out.below hW (Nat.le_refl _))
      replace B37 := Lib.hid (B37.out.below hW (Nat.le_refl _))
      replace HR39 := Lib.hid (HR39.out.below hW (Nat.le_refl _))
      replace B39 := Lib.hid (B39.out.below hW (Nat.le_refl _))
      replace HR41 := Lib.hid (HR41.out.below hW (Nat.le_refl _))
      replace B41 := Lib.hid (B41.out.below hW (Nat.le_refl _))
      replace HL := Lib.hid (HL.out.below hW (Nat.le_refl _))
      replace HB := Lib.hid (HB.out.trans (hW.mono HB.out.size))
      clear hW
      clear hb
      go_wp2
      go_ret
      exact told_mk rfl HB.out
end
end Go.Proofs.Ytciihebaameccaa
