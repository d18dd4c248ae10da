/- awake. -/
import Derived.Test.YtciihebaameccaaRndJ
namespace Go.Proofs.Ytciihebaameccaa
open Go.RowKit Go.Coop
set_option maxRecDepth 100000
/-- a block holds that -/
def Row (w : World) (g : Nat) (cs : Array Value) (T : TypeId) : Prop := w.heap[g]? = some (.cells cs T (0, 0))
theorem Row.below {B : Nat} {w w' : World} {g : Nat} {cs : Array Value} {T : TypeId} (h : Row w g cs T) (hb : Below B w w') (hB : w.heap.size ≤ B) : Row w' g cs T := (hb.block g (by have := lt_of_block h; omega)).trans h
theorem arr5 {w : World} {b : Nat} {x0 x1 x2 x3 x4 : Value} {T : TypeId} (h : Row w b #[x0, x1, x2, x3, x4] T) : w.cell? ⟨b, 0, none⟩ = some x0 ∧ w.cell? ⟨b, 1, none⟩ = some x1 ∧ w.cell? ⟨b, 2, none⟩ = some x2 ∧ w.cell? ⟨b, 3, none⟩ = some x3 ∧ w.cell? ⟨b, 4, none⟩ = some x4 := (five26 h).1
theorem size_of_alloc {w w1 : World} {o : Obj} (h : w.alloc o = w1) : w1.heap.size = w.heap.size + 1 := by rw [← h]; simp
/-- a literal, as it is read -/
theorem rd_lit {w w1 : World} {xs : Array Value} {vs : List Value} {T : TypeId} (hx : xs = vs.toArray) (hw : w.alloc (.cells xs T) = w1) : RdV w1 (some ⟨w.heap.size, 0, none⟩) vs.length vs := by
  subst hw hx
  exact RdV.new w vs T (0, 0)
theorem OkL.nil (r : Rn) : OkL r [] := fun j x h => by simp at h
theorem OkL.cons {r : Rn} {x : Int × Int × Int} {l : List (Int × Int × Int)} (h : (r.told x.1 x.2.1 x.2.2).2 = 0 ∧ 0 ≤ x.2.1 ∧ x.2.1 ≤ 255) (t : OkL (r.told x.1 x.2.1 x.2.2).1 l) : OkL r (x :: l) := by
  intro j y hy
  cases j with
  | zero =>
    simp at hy
    subst hy
    exact h
  | succ j => exact t j y (by simpa using hy)
abbrev R0 : Rn := ⟨7, 1, 2, 1, [0, 0, 0]⟩
abbrev Ra : Rn := ⟨7, 1, 2, 1, [1, 0, 3]⟩
abbrev Rb : Rn := ⟨7, 1, 2, 2, [1, 1, 3]⟩
abbrev Rp : Rn := ⟨7, 1, 2, 3, [1, 1, 3]⟩
abbrev Rd_ : Rn := ⟨7, 1, 2, 4, [2, 2, 2]⟩
abbrev Rg : Rn := ⟨7, 1, 2, 5, [3, 3, 0]⟩
theorem aw0 : beginR 7 1 3 2 = (R0, 0) := by kernel_rfl
theorem aw1 : toldL R0 [(0, 1, 0), (2, 1, 62)] = Ra := by kernel_rfl
theorem aw2 : toldL Ra [(1, 1, 0)] = Rb := by kernel_rfl
theorem aw3 : Rn.publish ⟨7, 1, 2, 2, [1, 1, 3]⟩ = (Rp, 0) := by kernel_rfl
theorem aw4 : toldL Rp [(0, 2, 0), (1, 2, 0), (2, 1, 0), (2, 2, 0)] = Rd_ := by kernel_rfl
theorem aw5 : toldL R0 [(0, 1, 62), (1, 1, 61)] = Rg := by kernel_rfl
theorem ok1 : OkL R0 [(0, 1, 0), (2, 1, 62)] := .cons ⟨by kernel_rfl, by decide, by decide⟩ (.cons ⟨by kernel_rfl, by decide, by decide⟩ (.nil _))
theorem ok2 : OkL Ra [(1, 1, 0)] := .cons ⟨by kernel_rfl, by decide, by decide⟩ (.nil _)
theorem ok4 : OkL Rp [(0, 2, 0), (1, 2, 0), (2, 1, 0), (2, 2, 0)] := .cons ⟨by kernel_rfl, by decide, by decide⟩ (.cons ⟨by kernel_rfl, by decide, by decide⟩ (.cons ⟨by kernel_rfl, by decide, by decide⟩ (.cons ⟨by kernel_rfl, by decide, by decide⟩ (.nil _))))
theorem ok5 : OkL R0 [(0, 1, 62), (1, 1, 61)] := .cons ⟨by kernel_rfl, by decide, by decide⟩ (.cons ⟨by kernel_rfl, by decide, by decide⟩ (.nil _))
theorem wa0 : decide (Rn.wants ⟨7, 1, 2, 1, [0, 0, 0]⟩ = [(0, 1), (1, 1), (2, 1)]) = true := by kernel_rfl
theorem wa1 : decide (Rn.wants ⟨7, 1, 2, 3, [1, 1, 3]⟩ = [(0, 2), (1, 2), (2, 1)]) = true := by kernel_rfl
theorem wa2 : decide (Rn.wants ⟨7, 1, 2, 5, [3, 3, 0]⟩ = [(0, 3), (1, 3), (2, 3)]) = true := by kernel_rfl
section
variable (w : World)
set_option maxHeartbeats 1000000 in
theorem awake_is : Calls Try.prog 20 #[] w (Told w true) := by
  go_enter Try.func20, Try.ntmps20
  go_wp2_with fail
  refine (begin_is _ 7 1 3 2).mono ?_
  rintro e w1 ⟨A0, c0, he, hr0, hA0, hb0⟩
  subst he
  rw [aw0] at hr0 ⊢
  simp only [RVal, List.length_cons, List.length_nil, Nat.zero_add, Nat.reduceAdd] at hr0 ⊢
  have hW : Below w.heap.size w w1 := hb0
  have HB := Lib.hid hW
  clear hW
  have HR0 := Lib.hid (hr0)
  clear hr0 hA0 hb0
  obtain ⟨g_w2, h_w2⟩ : ∃ g, w1.heap.size = g := ⟨_, rfl⟩
  obtain ⟨w2, e⟩ : ∃ x, w1.alloc (.cells #[.int .i64 7, .int .i64 1, .int .i64 2, .int .i64 1, .slice A0 3 c0] 26) = x := ⟨_, rfl⟩
  obtain ⟨hW, hx⟩ := box_new e
  rw [h_w2] at hx
  have Ew2 := Lib.hid e
  have Sw2 := size_of_alloc e
  clear e
  replace hx := Lib.hid (show Row w2 _ #[.int .i64 7, .int .i64 1, .int .i64 2, .int .i64 1, .slice A0 3 c0] 26 from hx)
  replace HR0 := Lib.hid (HR0.out.below hW (Nat.le_refl _))
  replace HB := Lib.hid (HB.out.trans (hW.mono HB.out.size))
  clear hW
  have B0 := hx
  clear hx
  have sw3 : w2.heap.size = g_w2 + 1 := by rw [Sw2, h_w2]
  obtain ⟨w3, e⟩ : ∃ x, w2.alloc (.cells #[.int .i64 0, .int .i64 1, .int .i64 1, .int .i64 1, .int .i64 2, .int .i64 1] 39) = x := ⟨_, rfl⟩
  obtain ⟨hW, hx⟩ := box_new e
  have hl := rd_lit (vs := dcs [(0, 1), (1, 1), (2, 1)]) (by rfl) e
  rw [sw3] at hl
  have Ew3 := Lib.hid e
  clear e hx
  replace HR0 := Lib.hid (HR0.out.below hW (Nat.le_refl _))
  replace B0 := Lib.hid (B0.out.below hW (Nat.le_refl _))
  replace HB := Lib.hid (HB.out.trans (hW.mono HB.out.size))
  clear hW
  have HL := Lib.hid ((show RdV w3 (some ⟨(g_w2 + 1), 0, none⟩) (3 * 2) (dcs [(0, 1), (1, 1), (2, 1)]) from hl))
  clear hl
  go_wp2_with fail
  rw [Ew2.out]
  rw [Ew3.out]
  clear Ew2 Ew3
  refine (lwants_is _ 7 1 2 1 HR0.out (by omega) HL.out rfl (by omega) (by decide) wa0).mono ?_
  rintro e w4 ⟨rfl, hb⟩
  have hW : Below w3.heap.size w3 w4 := hb
  replace HR0 := Lib.hid (HR0.out.below hW (Nat.le_refl _))
  replace B0 := Lib.hid (B0.out.below hW (Nat.le_refl _))
  replace HL := Lib.hid (HL.out.below hW (Nat.le_refl _))
  replace HB := Lib.hid (HB.out.trans (hW.mono HB.out.size))
  clear hW
  clear hb
  clear HL
  obtain ⟨f0, f1, f2, f3, f4⟩ := arr5 (w := w4) (by exact B0.out)
  obtain ⟨g_w5l, h_w5l⟩ : ∃ g, w4.heap.size = g := ⟨_, rfl⟩
  obtain ⟨w5l, e⟩ : ∃ x, w4.alloc (.cells #[.int .i64 0, .int .i64 1, .int .i64 0, .int .i64 2, .int .i64 1, .int .i64 62] 36) = x := ⟨_, rfl⟩
  obtain ⟨hW, hx⟩ := box_new e
  have hl := rd_lit (vs := tcs [(0, 1, 0), (2, 1, 62)]) (by rfl) e
  rw [h_w5l] at hl
  have Ew5l := Lib.hid e
  clear e hx
  replace HR0 := Lib.hid (HR0.out.below hW (Nat.le_refl _))
  replace B0 := Lib.hid (B0.out.below hW (Nat.le_refl _))
  replace HB := Lib.hid (HB.out.trans (hW.mono HB.out.size))
  clear hW
  have HL := Lib.hid ((show RdV w5l (some ⟨g_w5l, 0, none⟩) (2 * 3) (tcs [(0, 1, 0), (2, 1, 62)]) from hl))
  clear hl
  go_wp2_with fail
  rw [Ew5l.out]
  clear Ew5l
  refine (ltold_is _ R0 HR0.out (by omega) HL.out rfl (by omega) ok1 rfl).mono ?_
  rintro e w5 ⟨A1, c1, he, hr1, hb1⟩
  subst he
  rw [aw1] at hr1 ⊢
  simp only [RVal, List.length_cons, List.length_nil, Nat.zero_add, Nat.reduceAdd] at hr1 ⊢
  have hW : Below w5l.heap.size w5l w5 := hb1
  replace HR0 := Lib.hid (HR0.out.below hW (Nat.le_refl _))
  replace B0 := Lib.hid (B0.out.below hW (Nat.le_refl _))
  replace HL := Lib.hid (HL.out.below hW (Nat.le_refl _))
  replace HB := Lib.hid (HB.out.trans (hW.mono HB.out.size))
  clear hW
  clear HL
  have HR1 := Lib.hid (hr1)
  clear hr1 hb1 f0 f1 f2 f3 f4
  obtain ⟨g_w6, h_w6⟩ : ∃ g, w5.heap.size = g := ⟨_, rfl⟩
  obtain ⟨w6, e⟩ : ∃ x, w5.alloc (.cells #[.int .i64 7, .int .i64 1, .int .i64 2, .int .i64 1, .slice A1 3 c1] 26) = x := ⟨_, rfl⟩
  obtain ⟨hW, hx⟩ := box_new e
  rw [h_w6] at hx
  have Ew6 := Lib.hid e
  have Sw6 := size_of_alloc e
  clear e
  replace hx := Lib.hid (show Row w6 _ #[.int .i64 7, .int .i64 1, .int .i64 2, .int .i64 1, .slice A1 3 c1] 26 from hx)
  replace HR0 := Lib.hid (HR0.out.below hW (Nat.le_refl _))
  replace B0 := Lib.hid (B0.out.below hW (Nat.le_refl _))
  replace HR1 := Lib.hid (HR1.out.below hW (Nat.le_refl _))
  replace HB := Lib.hid (HB.out.trans (hW.mono HB.out.size))
  clear hW
  have B1 := hx
  clear hx
  obtain ⟨f0, f1, f2, f3, f4⟩ := arr5 (w := (World.alloc w5 (.cells #[.int .i64 7, .int .i64 1, .int .i64 2, .int .i64 1, .slice A1 3 c1] 26))) (by rw [Ew6.out]; exact B1.out)
  have sw7l : w6.heap.size = g_w6 + 1 := by rw [Sw6, h_w6]
  obtain ⟨w7l, e⟩ : ∃ x, w6.alloc (.cells #[.int .i64 1, .int .i64 1, .int .i64 0] 36) = x := ⟨_, rfl⟩
  obtain ⟨hW, hx⟩ := box_new e
  have hl := rd_lit (vs := tcs [(1, 1, 0)]) (by rfl) e
  rw [sw7l] at hl
  have Ew7l := Lib.hid e
  clear e hx
  replace HR0 := Lib.hid (HR0.out.below hW (Nat.le_refl _))
  replace B0 := Lib.hid (B0.out.below hW (Nat.le_refl _))
  replace HR1 := Lib.hid (HR1.out.below hW (Nat.le_refl _))
  replace B1 := Lib.hid (B1.out.below hW (Nat.le_refl _))
  replace HB := Lib.hid (HB.out.trans (hW.mono HB.out.size))
  clear hW
  have HL := Lib.hid ((show RdV w7l (some ⟨(g_w6 + 1), 0, none⟩) (1 * 3) (tcs [(1, 1, 0)]) from hl))
  clear hl
  go_wp2_with fail
  rw [Ew6.out]
  rw [Ew7l.out]
  clear Ew6 Ew7l
  refine (ltold_is _ Ra HR1.out (by omega) HL.out rfl (by omega) ok2 rfl).mono ?_
  rintro e w7 ⟨A2, c2, he, hr2, hb2⟩
  subst he
  rw [aw2] at hr2 ⊢
  simp only [RVal, List.length_cons, List.length_nil, Nat.zero_add, Nat.reduceAdd] at hr2 ⊢
  have hW : Below w7l.heap.size w7l w7 := hb2
  replace HR0 := Lib.hid (HR0.out.below hW (Nat.le_refl _))
  replace B0 := Lib.hid (B0.out.below hW (Nat.le_refl _))
  replace HR1 := Lib.hid (HR1.out.below hW (Nat.le_refl _))
  replace B1 := Lib.hid (B1.out.below hW (Nat.le_refl _))
  replace HL := Lib.hid (HL.out.below hW (Nat.le_refl _))
  replace HB := Lib.hid (HB.out.trans (hW.mono HB.out.size))
  clear hW
  clear HL
  have HR2 := Lib.hid (hr2)
  clear hr2 hb2 f0 f1 f2 f3 f4
  obtain ⟨g_w8, h_w8⟩ : ∃ g, w7.heap.size = g := ⟨_, rfl⟩
  obtain ⟨w8, e⟩ : ∃ x, w7.alloc (.cells #[.int .i64 7, .int .i64 1, .int .i64 2, .int .i64 2, .slice A2 3 c2] 26) = x := ⟨_, rfl⟩
  obtain ⟨hW, hx⟩ := box_new e
  rw [h_w8] at hx
  have Ew8 := Lib.hid e
  have Sw8 := size_of_alloc e
  clear e
  replace hx := Lib.hid (show Row w8 _ #[.int .i64 7, .int .i64 1, .int .i64 2, .int .i64 2, .slice A2 3 c2] 26 from hx)
  replace HR0 := Lib.hid (HR0.out.below hW (Nat.le_refl _))
  replace B0 := Lib.hid (B0.out.below hW (Nat.le_refl _))
  replace HR1 := Lib.hid (HR1.out.below hW (Nat.le_refl _))
  replace B1 := Lib.hid (B1.out.below hW (Nat.le_refl _))
  replace HR2 := Lib.hid (HR2.out.below hW (Nat.le_refl _))
  replace HB := Lib.hid (HB.out.trans (hW.mono HB.out.size))
  clear hW
  have B2 := hx
  clear hx
  obtain ⟨f0, f1, f2, f3, f4⟩ := arr5 (w := (World.alloc w7 (.cells #[.int .i64 7, .int .i64 1, .int .i64 2, .int .i64 2, .slice A2 3 c2] 26))) (by rw [Ew8.out]; exact B2.out)
  go_wp2_with fail
  rw [Ew8.out]
  clear Ew8
  refine (publish_is _ 7 1 2 2 HR2.out (by omega) aw3).mono ?_
  rintro e w9 ⟨A3, c3, he, hr3, hA3, hb3⟩
  subst he
  simp only [RVal, List.length_cons, List.length_nil, Nat.zero_add, Nat.reduceAdd] at hr3 ⊢
  have hW : Below w8.heap.size w8 w9 := hb3
  replace HR0 := Lib.hid (HR0.out.below hW (Nat.le_refl _))
  replace B0 := Lib.hid (B0.out.below hW (Nat.le_refl _))
  replace HR1 := Lib.hid (HR1.out.below hW (Nat.le_refl _))
  replace B1 := Lib.hid (B1.out.below hW (Nat.le_refl _))
  replace HR2 := Lib.hid (HR2.out.below hW (Nat.le_refl _))
  replace B2 := Lib.hid (B2.out.below hW (Nat.le_refl _))
  replace HB := Lib.hid (HB.out.trans (hW.mono HB.out.size))
  clear hW
  have HR3 := Lib.hid (hr3)
  clear hr3 hA3 hb3 f0 f1 f2 f3 f4
  obtain ⟨g_w10, h_w10⟩ : ∃ g, w9.heap.size = g := ⟨_, rfl⟩
  obtain ⟨w10, e⟩ : ∃ x, w9.alloc (.cells #[.int .i64 7, .int .i64 1, .int .i64 2, .int .i64 3, .slice A3 3 c3] 26) = x := ⟨_, rfl⟩
  obtain ⟨hW, hx⟩ := box_new e
  rw [h_w10] at hx
  have Ew10 := Lib.hid e
  have Sw10 := size_of_alloc e
  clear e
  replace hx := Lib.hid (show Row w10 _ #[.int .i64 7, .int .i64 1, .int .i64 2, .int .i64 3, .slice A3 3 c3] 26 from hx)
  replace HR0 := Lib.hid (HR0.out.below hW (Nat.le_refl _))
  replace B0 := Lib.hid (B0.out.below hW (Nat.le_refl _))
  replace HR1 := Lib.hid (HR1.out.below hW (Nat.le_refl _))
  replace B1 := Lib.hid (B1.out.below hW (Nat.le_refl _))
  replace HR2 := Lib.hid (HR2.out.below hW (Nat.le_refl _))
  replace B2 := Lib.hid (B2.out.below hW (Nat.le_refl _))
  replace HR3 := Lib.hid (HR3.out.below hW (Nat.le_refl _))
  replace HB := Lib.hid (HB.out.trans (hW.mono HB.out.size))
  clear hW
  have B3 := hx
  clear hx
  obtain ⟨f0, f1, f2, f3, f4⟩ := arr5 (w := (World.alloc w9 (.cells #[.int .i64 7, .int .i64 1, .int .i64 2, .int .i64 3, .slice A3 3 c3] 26))) (by rw [Ew10.out]; exact B3.out)
  obtain ⟨x0, x1, x2, x3, x4⟩ := arr5 (w := (World.alloc w9 (.cells #[.int .i64 7, .int .i64 1, .int .i64 2, .int .i64 3, .slice A3 3 c3] 26))) (by rw [Ew10.out]; exact B1.out)
  obtain ⟨y0, y1, y2, y3, y4⟩ := arr5 (w := (World.alloc w9 (.cells #[.int .i64 7, .int .i64 1, .int .i64 2, .int .i64 3, .slice A3 3 c3] 26))) (by rw [Ew10.out]; exact B2.out)
  have sw11 : w10.heap.size = g_w10 + 1 := by rw [Sw10, h_w10]
  obtain ⟨w11, e⟩ : ∃ x, w10.alloc (.cells #[.int .i64 0, .int .i64 2, .int .i64 1, .int .i64 2, .int .i64 2, .int .i64 1] 39) = x := ⟨_, rfl⟩
  obtain ⟨hW, hx⟩ := box_new e
  have hl := rd_lit (vs := dcs [(0, 2), (1, 2), (2, 1)]) (by rfl) e
  rw [sw11] at hl
  have Ew11 := Lib.hid e
  clear e hx
  replace HR0 := Lib.hid (HR0.out.below hW (Nat.le_refl _))
  replace B0 := Lib.hid (B0.out.below hW (Nat.le_refl _))
  replace HR1 := Lib.hid (HR1.out.below hW (Nat.le_refl _))
  replace B1 := Lib.hid (B1.out.below hW (Nat.le_refl _))
  replace HR2 := Lib.hid (HR2.out.below hW (Nat.le_refl _))
  replace B2 := Lib.hid (B2.out.below hW (Nat.le_refl _))
  replace HR3 := Lib.hid (HR3.out.below hW (Nat.le_refl _))
  replace B3 := Lib.hid (B3.out.below hW (Nat.le_refl _))
  replace HB := Lib.hid (HB.out.trans (hW.mono HB.out.size))
  clear hW
  have HL := Lib.hid ((show RdV w11 (some ⟨(g_w10 + 1), 0, none⟩) (3 * 2) (dcs [(0, 2), (1, 2), (2, 1)]) from hl))
  clear hl
  go_wp2_with fail
  rw [Ew10.out]
  rw [Ew11.out]
  clear Ew10 Ew11
  refine (lwants_is _ 7 1 2 3 HR3.out (by omega) HL.out rfl (by omega) (by decide) wa1).mono ?_
  rintro e w12 ⟨rfl, hb⟩
  clear f0 f1 f2 f3 f4 x0 x1 x2 x3 x4 y0 y1 y2 y3 y4
  have hW : Below w11.heap.size w11 w12 := hb
  replace HR0 := Lib.hid (HR0.out.below hW (Nat.le_refl _))
  replace B0 := Lib.hid (B0.out.below hW (Nat.le_refl _))
  replace HR1 := Lib.hid (HR1.out.below hW (Nat.le_refl _))
  replace B1 := Lib.hid (B1.out.below hW (Nat.le_refl _))
  replace HR2 := Lib.hid (HR2.out.below hW (Nat.le_refl _))
  replace B2 := Lib.hid (B2.out.below hW (Nat.le_refl _))
  replace HR3 := Lib.hid (HR3.out.below hW (Nat.le_refl _))
  replace B3 := Lib.hid (B3.out.below hW (Nat.le_refl _))
  replace HL := Lib.hid (HL.out.below hW (Nat.le_refl _))
  replace HB := Lib.hid (HB.out.trans (hW.mono HB.out.size))
  clear hW
  clear hb
  clear HL
  obtain ⟨f0, f1, f2, f3, f4⟩ := arr5 (w := w12) (by exact B3.out)
  obtain ⟨g_w13l, h_w13l⟩ : ∃ g, w12.heap.size = g := ⟨_, rfl⟩
  obtain ⟨w13l, e⟩ : ∃ x, w12.alloc (.cells #[.int .i64 0, .int .i64 2, .int .i64 0, .int .i64 1, .int .i64 2, .int .i64 0, .int .i64 2, .int .i64 1, .int .i64 0, .int .i64 2, .int .i64 2, .int .i64 0] 36) = x := ⟨_, rfl⟩
  obtain ⟨hW, hx⟩ := box_new e
  have hl := rd_lit (vs := tcs [(0, 2, 0), (1, 2, 0), (2, 1, 0), (2, 2, 0)]) (by rfl) e
  rw [h_w13l] at hl
  have Ew13l := Lib.hid e
  clear e hx
  replace HR0 := Lib.hid (HR0.out.below hW (Nat.le_refl _))
  replace B0 := Lib.hid (B0.out.below hW (Nat.le_refl _))
  replace HR1 := Lib.hid (HR1.out.below hW (Nat.le_refl _))
  replace B1 := Lib.hid (B1.out.below hW (Nat.le_refl _))
  replace HR2 := Lib.hid (HR2.out.below hW (Nat.le_refl _))
  replace B2 := Lib.hid (B2.out.below hW (Nat.le_refl _))
  replace HR3 := Lib.hid (HR3.out.below hW (Nat.le_refl _))
  replace B3 := Lib.hid (B3.out.below hW (Nat.le_refl _))
  replace HB := Lib.hid (HB.out.trans (hW.mono HB.out.size))
  clear hW
  have HL := Lib.hid ((show RdV w13l (some ⟨g_w13l, 0, none⟩) (4 * 3) (tcs [(0, 2, 0), (1, 2, 0), (2, 1, 0), (2, 2, 0)]) from hl))
  clear hl
  go_wp2_with fail
  rw [Ew13l.out]
  clear Ew13l
  refine (ltold_is _ Rp HR3.out (by omega) HL.out rfl (by omega) ok4 rfl).mono ?_
  rintro e w13 ⟨A4, c4, he, hr4, hb4⟩
  subst he
  rw [aw4] at hr4 ⊢
  simp only [RVal, List.length_cons, List.length_nil, Nat.zero_add, Nat.reduceAdd] at hr4 ⊢
  have hW : Below w13l.heap.size w13l w13 := hb4
  replace HR0 := Lib.hid (HR0.out.below hW (Nat.le_refl _))
  replace B0 := Lib.hid (B0.out.below hW (Nat.le_refl _))
  replace HR1 := Lib.hid (HR1.out.below hW (Nat.le_refl _))
  replace B1 := Lib.hid (B1.out.below hW (Nat.le_refl _))
  replace HR2 := Lib.hid (HR2.out.below hW (Nat.le_refl _))
  replace B2 := Lib.hid (B2.out.below hW (Nat.le_refl _))
  replace HR3 := Lib.hid (HR3.out.below hW (Nat.le_refl _))
  replace B3 := Lib.hid (B3.out.below hW (Nat.le_refl _))
  replace HL := Lib.hid (HL.out.below hW (Nat.le_refl _))
  replace HB := Lib.hid (HB.out.trans (hW.mono HB.out.size))
  clear hW
  clear HL
  have HR4 := Lib.hid (hr4)
  clear hr4 hb4 f0 f1 f2 f3 f4
  obtain ⟨g_w14, h_w14⟩ : ∃ g, w13.heap.size = g := ⟨_, rfl⟩
  obtain ⟨w14, e⟩ : ∃ x, w13.alloc (.cells #[.int .i64 7, .int .i64 1, .int .i64 2, .int .i64 4, .slice A4 3 c4] 26) = x := ⟨_, rfl⟩
  obtain ⟨hW, hx⟩ := box_new e
  rw [h_w14] at hx
  have Ew14 := Lib.hid e
  have Sw14 := size_of_alloc e
  clear e
  replace hx := Lib.hid (show Row w14 _ #[.int .i64 7, .int .i64 1, .int .i64 2, .int .i64 4, .slice A4 3 c4] 26 from hx)
  replace HR0 := Lib.hid (HR0.out.below hW (Nat.le_refl _))
  replace B0 := Lib.hid (B0.out.below hW (Nat.le_refl _))
  replace HR1 := Lib.hid (HR1.out.below hW (Nat.le_refl _))
  replace B1 := Lib.hid (B1.out.below hW (Nat.le_refl _))
  replace HR2 := Lib.hid (HR2.out.below hW (Nat.le_refl _))
  replace B2 := Lib.hid (B2.out.below hW (Nat.le_refl _))
  replace HR3 := Lib.hid (HR3.out.below hW (Nat.le_refl _))
  replace B3 := Lib.hid (B3.out.below hW (Nat.le_refl _))
  replace HR4 := Lib.hid (HR4.out.below hW (Nat.le_refl _))
  replace HB := Lib.hid (HB.out.trans (hW.mono HB.out.size))
  clear hW
  have B4 := hx
  clear hx
  obtain ⟨f0, f1, f2, f3, f4⟩ := arr5 (w := (World.alloc w13 (.cells #[.int .i64 7, .int .i64 1, .int .i64 2, .int .i64 4, .slice A4 3 c4] 26))) (by rw [Ew14.out]; exact B0.out)
  have sw15l : w14.heap.size = g_w14 + 1 := by rw [Sw14, h_w14]
  obtain ⟨w15l, e⟩ : ∃ x, w14.alloc (.cells #[.int .i64 0, .int .i64 1, .int .i64 62, .int .i64 1, .int .i64 1, .int .i64 61] 36) = x := ⟨_, rfl⟩
  obtain ⟨hW, hx⟩ := box_new e
  have hl := rd_lit (vs := tcs [(0, 1, 62), (1, 1, 61)]) (by rfl) e
  rw [sw15l] at hl
  have Ew15l := Lib.hid e
  clear e hx
  replace HR0 := Lib.hid (HR0.out.below hW (Nat.le_refl _))
  replace B0 := Lib.hid (B0.out.below hW (Nat.le_refl _))
  replace HR1 := Lib.hid (HR1.out.below hW (Nat.le_refl _))
  replace B1 := Lib.hid (B1.out.below hW (Nat.le_refl _))
  replace HR2 := Lib.hid (HR2.out.below hW (Nat.le_refl _))
  replace B2 := Lib.hid (B2.out.below hW (Nat.le_refl _))
  replace HR3 := Lib.hid (HR3.out.below hW (Nat.le_refl _))
  replace B3 := Lib.hid (B3.out.below hW (Nat.le_refl _))
  replace HR4 := Lib.hid (HR4.out.below hW (Nat.le_refl _))
  replace B4 := Lib.hid (B4.out.below hW (Nat.le_refl _))
  replace HB := Lib.hid (HB.out.trans (hW.mono HB.out.size))
  clear hW
  have HL := Lib.hid ((show RdV w15l (some ⟨(g_w14 + 1), 0, none⟩) (2 * 3) (tcs [(0, 1, 62), (1, 1, 61)]) from hl))
  clear hl
  go_wp2_with fail
  rw [Ew14.out]
  rw [Ew15l.out]
  clear Ew14 Ew15l
  refine (ltold_is _ R0 HR0.out (by omega) HL.out rfl (by omega) ok5 rfl).mono ?_
  rintro e w15 ⟨A5, c5, he, hr5, hb5⟩
  subst he
  rw [aw5] at hr5 ⊢
  simp only [RVal, List.length_cons, List.length_nil, Nat.zero_add, Nat.reduceAdd] at hr5 ⊢
  have hW : Below w15l.heap.size w15l w15 := hb5
  replace HR0 := Lib.hid (HR0.out.below hW (Nat.le_refl _))
  replace B0 := Lib.hid (B0.out.below hW (Nat.le_refl _))
  replace HR1 := Lib.hid (HR1.out.below hW (Nat.le_refl _))
  replace B1 := Lib.hid (B1.out.below hW (Nat.le_refl _))
  replace HR2 := Lib.hid (HR2.out.below hW (Nat.le_refl _))
  replace B2 := Lib.hid (B2.out.below hW (Nat.le_refl _))
  replace HR3 := Lib.hid (HR3.out.below hW (Nat.le_refl _))
  replace B3 := Lib.hid (B3.out.below hW (Nat.le_refl _))
  replace HR4 := Lib.hid (HR4.out.below hW (Nat.le_refl _))
  replace B4 := Lib.hid (B4.out.below hW (Nat.le_refl _))
  replace HL := Lib.hid (HL.out.below hW (Nat.le_refl _))
  replace HB := Lib.hid (HB.out.trans (hW.mono HB.out.size))
  clear hW
  clear HL
  have HR5 := Lib.hid (hr5)
  clear hr5 hb5 f0 f1 f2 f3 f4
  obtain ⟨g_w16, h_w16⟩ : ∃ g, w15.heap.size = g := ⟨_, rfl⟩
  obtain ⟨w16, e⟩ : ∃ x, w15.alloc (.cells #[.int .i64 7, .int .i64 1, .int .i64 2, .int .i64 5, .slice A5 3 c5] 26) = x := ⟨_, rfl⟩
  obtain ⟨hW, hx⟩ := box_new e
  rw [h_w16] at hx
  have Ew16 := Lib.hid e
  have Sw16 := size_of_alloc e
  clear e
  replace hx := Lib.hid (show Row w16 _ #[.int .i64 7, .int .i64 1, .int .i64 2, .int .i64 5, .slice A5 3 c5] 26 from hx)
  replace HR0 := Lib.hid (HR0.out.below hW (Nat.le_refl _))
  replace B0 := Lib.hid (B0.out.below hW (Nat.le_refl _))
  replace HR1 := Lib.hid (HR1.out.below hW (Nat.le_refl _))
  replace B1 := Lib.hid (B1.out.below hW (Nat.le_refl _))
  replace HR2 := Lib.hid (HR2.out.below hW (Nat.le_refl _))
  replace B2 := Lib.hid (B2.out.below hW (Nat.le_refl _))
  replace HR3 := Lib.hid (HR3.out.below hW (Nat.le_refl _))
  replace B3 := Lib.hid (B3.out.below hW (Nat.le_refl _))
  replace HR4 := Lib.hid (HR4.out.below hW (Nat.le_refl _))
  replace B4 := Lib.hid (B4.out.below hW (Nat.le_refl _))
  replace HR5 := Lib.hid (HR5.out.below hW (Nat.le_refl _))
  replace HB := Lib.hid (HB.out.trans (hW.mono HB.out.size))
  clear hW
  have B5 := hx
  clear hx
  obtain ⟨f0, f1, f2, f3, f4⟩ := arr5 (w := (World.alloc w15 (.cells #[.int .i64 7, .int .i64 1, .int .i64 2, .int .i64 5, .slice A5 3 c5] 26))) (by rw [Ew16.out]; exact B5.out)
  obtain ⟨x0, x1, x2, x3, x4⟩ := arr5 (w := (World.alloc w15 (.cells #[.int .i64 7, .int .i64 1, .int .i64 2, .int .i64 5, .slice A5 3 c5] 26))) (by rw [Ew16.out]; exact B4.out)
  have sw17 : w16.heap.size = g_w16 + 1 := by rw [Sw16, h_w16]
  obtain ⟨w17, e⟩ : ∃ x, w16.alloc (.cells #[.int .i64 0, .int .i64 3, .int .i64 1, .int .i64 3, .int .i64 2, .int .i64 3] 39) = x := ⟨_, rfl⟩
  obtain ⟨hW, hx⟩ := box_new e
  have hl := rd_lit (vs := dcs [(0, 3), (1, 3), (2, 3)]) (by rfl) e
  rw [sw17] at hl
  have Ew17 := Lib.hid e
  clear e hx
  replace HR0 := Lib.hid (HR0.out.below hW (Nat.le_refl _))
  replace B0 := Lib.hid (B0.out.below hW (Nat.le_refl _))
  replace HR1 := Lib.hid (HR1.out.below hW (Nat.le_refl _))
  replace B1 := Lib.hid (B1.out.below hW (Nat.le_refl _))
  replace HR2 := Lib.hid (HR2.out.below hW (Nat.le_refl _))
  replace B2 := Lib.hid (B2.out.below hW (Nat.le_refl _))
  replace HR3 := Lib.hid (HR3.out.below hW (Nat.le_refl _))
  replace B3 := Lib.hid (B3.out.below hW (Nat.le_refl _))
  replace HR4 := Lib.hid (HR4.out.below hW (Nat.le_refl _))
  replace B4 := Lib.hid (B4.out.below hW (Nat.le_refl _))
  replace HR5 := Lib.hid (HR5.out.below hW (Nat.le_refl _))
  replace B5 := Lib.hid (B5.out.below hW (Nat.le_refl _))
  replace HB := Lib.hid (HB.out.trans (hW.mono HB.out.size))
  clear hW
  have HL := Lib.hid ((show RdV w17 (some ⟨(g_w16 + 1), 0, none⟩) (3 * 2) (dcs [(0, 3), (1, 3), (2, 3)]) from hl))
  clear hl
  go_wp2_with fail
  rw [Ew16.out]
  rw [Ew17.out]
  clear Ew16 Ew17
  refine (lwants_is _ 7 1 2 5 HR5.out (by omega) HL.out rfl (by omega) (by decide) wa2).mono ?_
  rintro e w18 ⟨rfl, hb⟩
  have hW : Below w17.heap.size w17 w18 := hb
  replace HR0 := Lib.hid (HR0.out.below hW (Nat.le_refl _))
  replace B0 := Lib.hid (B0.out.below hW (Nat.le_refl _))
  replace HR1 := Lib.hid (HR1.out.below hW (Nat.le_refl _))
  replace B1 := Lib.hid (B1.out.below hW (Nat.le_refl _))
  replace HR2 := Lib.hid (HR2.out.below hW (Nat.le_refl _))
  replace B2 := Lib.hid (B2.out.below hW (Nat.le_refl _))
  replace HR3 := Lib.hid (HR3.out.below hW (Nat.le_refl _))
  replace B3 := Lib.hid (B3.out.below hW (Nat.le_refl _))
  replace HR4 := Lib.hid (HR4.out.below hW (Nat.le_refl _))
  replace B4 := Lib.hid (B4.out.below hW (Nat.le_refl _))
  replace HR5 := Lib.hid (HR5.out.below hW (Nat.le_refl _))
  replace B5 := Lib.hid (B5.out.below hW (Nat.le_refl _))
  replace HL := Lib.hid (HL.out.below hW (Nat.le_refl _))
  replace HB := Lib.hid (HB.out.trans (hW.mono HB.out.size))
  clear hW
  clear hb
  go_wp2
  go_ret
  exact told_mk rfl HB.out
end
end Go.Proofs.Ytciihebaameccaa
