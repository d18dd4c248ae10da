/- WireKinds' walk. -/
import Derived.Test.YtmiapegecoaccaaWirL
import Derived.Deep.CutBlock
import Derived.Deep.CutRange
import Derived.Deep.RegionHeld3
import Derived.BigRegion
import Derived.RegionTactic
namespace Go.Proofs.Ytmiapegecoaccaa
open Go.RowKit Go.Coop
set_option maxRecDepth 100000
theorem right_none {l s o st i v : Int} {bs : List UInt8} (h : RightA ⟨l, s, o, st, i, v, bs⟩) : decide (RightA ⟨l, s, o, st, i, 0, bs⟩) = decide (o = 4 ∨ o = 5) := by
  refine decide_eq_decide.2 ?_
  obtain ⟨h1, ⟨h2, h3, h4, h5⟩, h6⟩ := h
  simp only at *
  unfold RightA NumOk leastV
  simp only
  constructor
  · rintro ⟨_, ⟨_, _, h, _⟩, _⟩
    split at h
    · assumption
    · omega
  · intro h
    rw [if_pos h]
    exact ⟨h1, ⟨h2, h3, by omega, by omega⟩, h6⟩
theorem right_more {l s o st i v : Int} {bs : List UInt8} {x : UInt8} (h : RightA ⟨l, s, o, st, i, v, bs⟩) (hb : bs.length ≤ 500) : decide (RightA ⟨l, s, o, st, i, v, bs ++ [x]⟩) = (o == 1) := by
  obtain ⟨h1, h2, h6⟩ := h
  simp only at *
  by_cases ho : o = 1
  · subst ho
    refine decide_eq_true ⟨h1, h2, ?_⟩
    unfold mostB
    simp
    omega
  · rw [beq_eq_false_iff_ne.2 ho]
    refine decide_eq_false fun h => ?_
    have := h.2.2
    unfold mostB at this
    rw [if_neg ho] at this
    simp at this
    omega
theorem right_late {l s st i v : Int} {bs : List UInt8} : decide (RightA ⟨l, s, 7, st, i, v, bs⟩) = false := decide_eq_false fun h => by
  have := h.1.2.2
  simp only at this
  omega
theorem right_one {l s o st i v : Int} {bs : List UInt8} (h : RightA ⟨l, s, o, st, i, v, bs⟩) : decide (RightA ⟨l, s, o, st, i, 1, bs⟩) = true := by
  obtain ⟨h1, ⟨h2, h3, h4, h5⟩, h6⟩ := h
  refine decide_eq_true ⟨h1, ⟨h2, h3, ?_, by simp⟩, h6⟩
  unfold leastV
  simp only
  split <;> omega
theorem three_below (w : World) (o1 o2 o3 : Obj) : Below w.heap.size w (((w.alloc o1).alloc o2).alloc o3).drew :=
  ((((Below.refl _ _).alloc (Nat.le_refl _) _).alloc (by simp) _).alloc (by simp; omega) _).drew
theorem three_rows (w : World) (g : Nat) (cs : Array Value) {w0 : World} (h0 : w0.heap.size ≤ w.heap.size) (hg : w0.heap.size = g) : Row (((w.alloc (.cells cs 25)).alloc (.cells cs 25)).alloc (.cells cs 25)).drew w.heap.size cs 25 ∧ Row (((w.alloc (.cells cs 25)).alloc (.cells cs 25)).alloc (.cells cs 25)).drew (w.heap.size + 1) cs 25 ∧ Row (((w.alloc (.cells cs 25)).alloc (.cells cs 25)).alloc (.cells cs 25)).drew (w.heap.size + 1 + 1) cs 25 ∧ g ≤ w.heap.size ∧ Below w.heap.size w (((w.alloc (.cells cs 25)).alloc (.cells cs 25)).alloc (.cells cs 25)).drew := by
  refine ⟨?_, ?_, ?_, by omega, three_below _ _ _ _⟩
  · have h : Row (w.alloc (.cells cs 25)) w.heap.size cs 25 := heap_alloc_new _ _
    exact h.below (((((Below.refl _ _).alloc (Nat.le_refl _) _).alloc (by simp) _).drew) : Below (w.alloc (.cells cs 25)).heap.size _ _) (Nat.le_refl _)
  · have h : Row ((w.alloc (.cells cs 25)).alloc (.cells cs 25)) (w.alloc (.cells cs 25)).heap.size cs 25 := heap_alloc_new _ _
    rw [size_alloc] at h
    exact h.below (((((Below.refl _ _).alloc (Nat.le_refl _) _).drew)) : Below ((w.alloc (.cells cs 25)).alloc (.cells cs 25)).heap.size _ _) (Nat.le_refl _)
  · have h : Row (((w.alloc (.cells cs 25)).alloc (.cells cs 25)).alloc (.cells cs 25)) ((w.alloc (.cells cs 25)).alloc (.cells cs 25)).heap.size cs 25 := heap_alloc_new _ _
    rw [size_alloc, size_alloc] at h
    exact h
def askC (l s o st i v : Int) (A : Option Addr) (n c : Nat) : Array Value := #[.int .i64 l, .int .i64 s, .int .u8 o, .int .i64 st, .int .i64 i, .int .i64 v, .slice A n c]
theorem mem9 {w w4 w7 : World} {g p3 p4 p5 : Nat} {X3 : Array Value} {l s o st i v : Int} {A A7 : Option Addr} {n c m c7 : Nat} (h3 : Row w4 p3 X3 25) (h4 : Row w4 p4 #[.int .i64 l, .int .i64 s, .int .u8 o, .int .i64 st, .int .i64 i, .int .i64 v, .slice A n c] 25) (h5 : Row w4 p5 #[.int .i64 l, .int .i64 s, .int .u8 o, .int .i64 st, .int .i64 i, .int .i64 v, .slice A n c] 25) (hg : Row w4 g #[.int .i64 l, .int .i64 s, .int .u8 o, .int .i64 st, .int .i64 i, .int .i64 v, .slice A n c] 25) (hB : Below w.heap.size w w4) (hb7 : Below w4.heap.size w4 w7)
    (hn : p3 ≠ p4 ∧ p3 ≠ p5 ∧ p4 ≠ p5) (hl : g < p3 ∧ g < p4 ∧ g < p5 ∧ w.heap.size ≤ g) :
    w7.cell? ⟨p4, 6, none⟩ = some (.slice A n c) ∧ w7.frozen? ⟨p4, 6, none⟩ = false ∧ ∀ w8, w7.setCell ⟨p4, 6, none⟩ (.slice A7 m c7) = w8 → w8.cell? ⟨p5, 2, none⟩ = some (.int .u8 o) ∧ w8.frozen? ⟨p5, 2, none⟩ = false ∧ ∀ w9, w8.setCell ⟨p5, 2, none⟩ (.int .u8 7) = w9 →
      Row w9 p3 X3 25 ∧ Row w9 p4 #[.int .i64 l, .int .i64 s, .int .u8 o, .int .i64 st, .int .i64 i, .int .i64 v, .slice A7 m c7] 25 ∧ Row w9 p5 #[.int .i64 l, .int .i64 s, .int .u8 7, .int .i64 st, .int .i64 i, .int .i64 v, .slice A n c] 25 ∧ Row w9 g #[.int .i64 l, .int .i64 s, .int .u8 o, .int .i64 st, .int .i64 i, .int .i64 v, .slice A n c] 25 ∧ Below w.heap.size w w9 := by
  have t3 := h3.below hb7 (Nat.le_refl _)
  have t4 := h4.below hb7 (Nat.le_refl _)
  have t5 := h5.below hb7 (Nat.le_refl _)
  have tg := hg.below hb7 (Nat.le_refl _)
  have hB7 := hB.trans (hb7.mono hB.size)
  refine ⟨cell_of_row w7 p4 6 _ 25 (0, 0) t4, frozen_of_row w7 p4 6 _ 25 t4, ?_⟩
  rintro w8 rfl
  have b8 : But [p4] w7 (w7.setCell ⟨p4, 6, none⟩ (.slice A7 m c7)) := (But.refl _ _).setCell (by simp) _
  have u3 : Row (w7.setCell ⟨p4, 6, none⟩ (.slice A7 m c7)) p3 X3 25 := b8.cells t3 (by simp; omega)
  have u4 : Row (w7.setCell ⟨p4, 6, none⟩ (.slice A7 m c7)) p4 #[.int .i64 l, .int .i64 s, .int .u8 o, .int .i64 st, .int .i64 i, .int .i64 v, .slice A7 m c7] 25 := set7 t4 _ rfl
  have u5 : Row (w7.setCell ⟨p4, 6, none⟩ (.slice A7 m c7)) p5 #[.int .i64 l, .int .i64 s, .int .u8 o, .int .i64 st, .int .i64 i, .int .i64 v, .slice A n c] 25 := b8.cells t5 (by simp; omega)
  have ug : Row (w7.setCell ⟨p4, 6, none⟩ (.slice A7 m c7)) g #[.int .i64 l, .int .i64 s, .int .u8 o, .int .i64 st, .int .i64 i, .int .i64 v, .slice A n c] 25 := b8.cells tg (by simp; omega)
  have hB8 := hB7.trans (b8.below hB7.size (by simp; omega))
  refine ⟨cell_of_row _ p5 2 _ 25 (0, 0) u5, frozen_of_row _ p5 2 _ 25 u5, ?_⟩
  rintro w9 rfl
  have b9 := (But.refl [p5] (w7.setCell ⟨p4, 6, none⟩ (.slice A7 m c7))).setCell (p := ⟨p5, 2, none⟩) (by simp) (.int .u8 7)
  exact ⟨b9.cells u3 (by simp; omega), b9.cells u4 (by simp; omega), set7 u5 _ rfl, b9.cells ug (by simp; omega), hB8.trans (b9.below hB8.size (by simp; omega))⟩
structure Five (u : World) (p3 p4 p5 g p7 : Nat) (X3 X4 X5 Xg X7 : Array Value) : Prop where
  r3 : Row u p3 X3 25
  r4 : Row u p4 X4 25
  r5 : Row u p5 X5 25
  rg : Row u g Xg 25
  r7 : Row u p7 X7 25
theorem Five.below {B : Nat} {u u' : World} {p3 p4 p5 g p7 : Nat} {X3 X4 X5 Xg X7 : Array Value} (h : Five u p3 p4 p5 g p7 X3 X4 X5 Xg X7) (hb : Below B u u') (hB : u.heap.size ≤ B) : Five u' p3 p4 p5 g p7 X3 X4 X5 Xg X7 :=
  ⟨h.r3.below hb hB, h.r4.below hb hB, h.r5.below hb hB, h.rg.below hb hB, h.r7.below hb hB⟩
section
variable (w : World)
set_option maxHeartbeats 8000000 in
theorem kinds_law (l s o st i v : Int) (bs : List UInt8) {A : Option Addr} {n c : Nat} (hA : Rd w A n bs) :
    Calls Try.prog 9 #[.agg #[.int .i64 l, .int .i64 s, .int .u8 o, .int .i64 st, .int .i64 i, .int .i64 v, .slice A n c]] w (Told w true) := by
  have hlen := hA.len
  have HA0 := Lib.hid hA
  obtain ⟨g, hg⟩ : ∃ g, w.heap.size = g := ⟨_, rfl⟩
  obtain ⟨w1, hw1⟩ : ∃ x, w.alloc (.cells #[.int .i64 l, .int .i64 s, .int .u8 o, .int .i64 st, .int .i64 i, .int .i64 v, .slice A n c] 25) = x := ⟨_, rfl⟩
  obtain ⟨hb1, hx1⟩ := box_new hw1
  rw [hg] at hx1
  have HB := Lib.hid hb1
  have HX := Lib.hid (show Row w1 g #[.int .i64 l, .int .i64 s, .int .u8 o, .int .i64 st, .int .i64 i, .int .i64 v, .slice A n c] 25 from hx1)
  have HA := Lib.hid (hA.below hb1 (Nat.le_refl _))
  obtain ⟨a0, a1, a2, a3, a4, a5, a6⟩ := arr7 hx1
  clear hb1 hx1 hA
  by_cases hs : n ≤ 500
  · have ks := Lib.hid (show decide (n ≤ 500 ∧ 0 ≤ 500 ∧ 0 ≤ 60 ∧ 0 ≤ 1000) = true by simp [hs])
    by_cases hR : RightA ⟨l, s, o, st, i, v, bs⟩
    · have kR := Lib.hid (decide_eq_true hR)
      have HR := Lib.hid hR
      clear hR
      go_enter Try.func9, Try.ntmps9
      go_wp2_with fail
      (try rw [hw1])
      refine (small_is w1 l s o st i v 0 0 0 0 0 ks.out).mono ?_
      rintro e w2 ⟨rfl, hb2⟩
      have hx2 := HX.out.below hb2 (Nat.le_refl _)
      obtain ⟨b0, b1, b2, b3, b4, b5, b6⟩ := arr7 hx2
      clear a0 a1 a2 a3 a4 a5 a6
      go_wp2_with fail
      refine (rightA_is w2 l s o st i v bs A n c hlen kR.out).mono ?_
      rintro e w3 ⟨rfl, hb3⟩
      have hx3 := hx2.below hb3 (Nat.le_refl _)
      have hB3 := (HB.out.trans (hb2.mono HB.out.size)).trans (hb3.mono (HB.out.trans (hb2.mono HB.out.size)).size)
      have H3 := Lib.hid (And.intro hx3 (And.intro hB3 ((HA.out.below hb2 (Nat.le_refl _)).below hb3 (Nat.le_refl _))))
      clear b0 b1 b2 b3 b4 b5 b6 hx2 hb2 hb3 hx3 hB3 hw1 HX HB HA
      obtain ⟨a0, a1, a2, a3, a4, a5, a6⟩ := arr7 H3.out.1
      go_upto_region 3 with (fail)
      go_cut [3, 4, 5] from 18 to 20 (fun x3 x4 x5 wc => ∃ p3 p4 p5 : Nat, x3 = .pointer (some ⟨p3, 0, none⟩) ∧ x4 = .pointer (some ⟨p4, 0, none⟩) ∧ x5 = .pointer (some ⟨p5, 0, none⟩) ∧ Hid (p3 ≠ p4 ∧ p3 ≠ p5 ∧ p4 ≠ p5 ∧ g < p3 ∧ g < p4 ∧ g < p5 ∧ w.heap.size ≤ g ∧ Row wc p3 (askC l s o st i v A n c) 25 ∧ Row wc p4 (askC l s o st i v A n c) 25 ∧ Row wc p5 (askC l s o st i v A n c) 25 ∧ Below w3.heap.size w3 wc))
      case first =>
        refine wp_region_held_drew (S := fun u => Row u g #[.int .i64 l, .int .i64 s, .int .u8 o, .int .i64 st, .int .i64 i, .int .i64 v, .slice A n c] 25) (by kernel_rfl) (H3.out.1) (fun hHeld => ?_)
        refine wpAnyH_take (i := 0) (oi := ⟨some 18, _, _, _, _, _⟩) (v := ?_) rfl (by kernel_rfl) (by kernel_rfl) (by kernel_rfl) (fun _ _ _ h => h) (Or.inl ⟨by rfl, ?_⟩) (by assumption) ?_
        rotate_left
        · intro w hSw
          obtain ⟨l0, l1, l2, l3, l4, l5, l6⟩ := arr7 hSw
          go_simp
          all_goals (with_reducible rfl)
        try simp only [Act.put, List.setIfInBounds_toArray, List.set_cons_zero, List.set_cons_succ]
        refine wpAnyH_take (i := 1) (oi := ⟨some 19, _, _, _, _, _⟩) (v := ?_) rfl (by kernel_rfl) (by kernel_rfl) (by kernel_rfl) (fun _ _ _ h => h) (Or.inl ⟨by rfl, ?_⟩) (by assumption) ?_
        rotate_left
        · intro w hSw
          obtain ⟨l0, l1, l2, l3, l4, l5, l6⟩ := arr7 hSw
          go_simp
          all_goals (with_reducible rfl)
        try simp only [Act.put, List.setIfInBounds_toArray, List.set_cons_zero, List.set_cons_succ]
        refine wpAnyH_take (i := 2) (oi := ⟨some 20, _, _, _, _, _⟩) (v := ?_) rfl (by kernel_rfl) (by kernel_rfl) (by kernel_rfl) (fun _ _ _ h => h) (Or.inl ⟨by rfl, ?_⟩) (by assumption) ?_
        rotate_left
        · intro w hSw
          obtain ⟨l0, l1, l2, l3, l4, l5, l6⟩ := arr7 hSw
          go_simp
          all_goals (with_reducible rfl)
        try simp only [Act.put, List.setIfInBounds_toArray, List.set_cons_zero, List.set_cons_succ]
        refine wpAnyH_ready (rs := [3, 4, 5]) (by kernel_rfl) (by simp) (AllReadyH.cons (o := ⟨some 3, _, _, _, _, _⟩) rfl (fun K hK => ?_) (AllReadyH.cons (o := ⟨some 4, _, _, _, _, _⟩) rfl (fun K hK => ?_) (AllReadyH.cons (o := ⟨some 5, _, _, _, _, _⟩) rfl (fun K hK => ?_) AllReadyH.nil)))
        · go_simp
          have hS2 := hHeld.below ((Below.refl _ _).alloc (Nat.le_refl _) (.cells #[.int .i64 0, .int .i64 0, .int .u8 0, .int .i64 0, .int .i64 0, .int .i64 0, .slice none 0 0] 25)) (Nat.le_refl _)
          refine hK.out _ _ hS2 (fun hHeld => ?_)
          clear hK K hS2
          try simp only [Act.put, List.setIfInBounds_toArray, List.set_cons_zero, List.set_cons_succ]
          refine wpAnyH_ready (rs := [4, 5]) (by kernel_rfl) (by simp) (AllReadyH.cons (o := ⟨some 4, _, _, _, _, _⟩) rfl (fun K hK => ?_) (AllReadyH.cons (o := ⟨some 5, _, _, _, _, _⟩) rfl (fun K hK => ?_) AllReadyH.nil))
          · go_simp
            have hS2 := hHeld.below ((Below.refl _ _).alloc (Nat.le_refl _) (.cells #[.int .i64 0, .int .i64 0, .int .u8 0, .int .i64 0, .int .i64 0, .int .i64 0, .slice none 0 0] 25)) (Nat.le_refl _)
            refine hK.out _ _ hS2 (fun hHeld => ?_)
            clear hK K hS2
            try simp only [Act.put, List.setIfInBounds_toArray, List.set_cons_zero, List.set_cons_succ]
            refine wpAnyH_ready (rs := [5]) (by kernel_rfl) (by simp) (AllReadyH.cons (o := ⟨some 5, _, _, _, _, _⟩) rfl (fun K hK => ?_) AllReadyH.nil)
            go_simp
            have hS2 := hHeld.below ((Below.refl _ _).alloc (Nat.le_refl _) (.cells #[.int .i64 0, .int .i64 0, .int .u8 0, .int .i64 0, .int .i64 0, .int .i64 0, .slice none 0 0] 25)) (Nat.le_refl _)
            refine hK.out _ _ hS2 (fun hHeld => ?_)
            clear hK K hS2
            try simp only [Act.put, List.setIfInBounds_toArray, List.set_cons_zero, List.set_cons_succ]
            refine wpAnyH_ready (rs := [6]) (by kernel_rfl) (by simp) (AllReadyH.cons (o := ⟨none, _, _, _, _, _⟩) rfl (fun K hK => ?_) AllReadyH.nil)
            go_simp
            refine hK.out _ _ (H3.out.1.below (three_below _ _ _ _) (Nat.le_refl _)) (fun hHeld => ?_)
            clear hK K
            try simp only [Act.put, List.setIfInBounds_toArray, List.set_cons_zero, List.set_cons_succ]
            refine wpAnyH_ready (rs := [7]) (by kernel_rfl) (by simp) (AllReadyH.cons (o := ⟨none, _, _, _, _, _⟩) rfl (fun K hK => ?_) AllReadyH.nil)
            go_simp
            refine hK.out _ _ (H3.out.1.below (three_below _ _ _ _) (Nat.le_refl _)) (fun hHeld => ?_)
            clear hK K
            try simp only [Act.put, List.setIfInBounds_toArray, List.set_cons_zero, List.set_cons_succ]
            refine wpAnyH_ready (rs := [8]) (by kernel_rfl) (by simp) (AllReadyH.cons (o := ⟨none, _, _, _, _, _⟩) rfl (fun K hK => ?_) AllReadyH.nil)
            go_simp
            refine hK.out _ _ (H3.out.1.below (three_below _ _ _ _) (Nat.le_refl _)) (fun hHeld => ?_)
            clear hK K
            try simp only [Act.put, List.setIfInBounds_toArray, List.set_cons_zero, List.set_cons_succ]
            refine wpAnyH_done (by kernel_rfl) ?_ _
            go_wp2
            go_meet
            have R := three_rows w3 g (askC l s o st i v A n c) H3.out.2.1.size hg
            exact ⟨_, _, _, rfl, rfl, rfl, (⟨by omega, by omega, by omega, by have := H3.out.1.lt; omega, by have := H3.out.1.lt; omega, by have := H3.out.1.lt; omega, by omega, R.1, R.2.1, R.2.2.1, R.2.2.2.2⟩ : _ ∧ _)⟩
          · go_simp
            have hS2 := hHeld.below ((Below.refl _ _).alloc (Nat.le_refl _) (.cells #[.int .i64 0, .int .i64 0, .int .u8 0, .int .i64 0, .int .i64 0, .int .i64 0, .slice none 0 0] 25)) (Nat.le_refl _)
            refine hK.out _ _ hS2 (fun hHeld => ?_)
            clear hK K hS2
            try simp only [Act.put, List.setIfInBounds_toArray, List.set_cons_zero, List.set_cons_succ]
            refine wpAnyH_ready (rs := [4]) (by kernel_rfl) (by simp) (AllReadyH.cons (o := ⟨some 4, _, _, _, _, _⟩) rfl (fun K hK => ?_) AllReadyH.nil)
            go_simp
            have hS2 := hHeld.below ((Below.refl _ _).alloc (Nat.le_refl _) (.cells #[.int .i64 0, .int .i64 0, .int .u8 0, .int .i64 0, .int .i64 0, .int .i64 0, .slice none 0 0] 25)) (Nat.le_refl _)
            refine hK.out _ _ hS2 (fun hHeld => ?_)
            clear hK K hS2
            try simp only [Act.put, List.setIfInBounds_toArray, List.set_cons_zero, List.set_cons_succ]
            refine wpAnyH_ready (rs := [6]) (by kernel_rfl) (by simp) (AllReadyH.cons (o := ⟨none, _, _, _, _, _⟩) rfl (fun K hK => ?_) AllReadyH.nil)
            go_simp
            refine hK.out _ _ (H3.out.1.below (three_below _ _ _ _) (Nat.le_refl _)) (fun hHeld => ?_)
            clear hK K
            try simp only [Act.put, List.setIfInBounds_toArray, List.set_cons_zero, List.set_cons_succ]
            refine wpAnyH_ready (rs := [7]) (by kernel_rfl) (by simp) (AllReadyH.cons (o := ⟨none, _, _, _, _, _⟩) rfl (fun K hK => ?_) AllReadyH.nil)
            go_simp
            refine hK.out _ _ (H3.out.1.below (three_below _ _ _ _) (Nat.le_refl _)) (fun hHeld => ?_)
            clear hK K
            try simp only [Act.put, List.setIfInBounds_toArray, List.set_cons_zero, List.set_cons_succ]
            refine wpAnyH_ready (rs := [8]) (by kernel_rfl) (by simp) (AllReadyH.cons (o := ⟨none, _, _, _, _, _⟩) rfl (fun K hK => ?_) AllReadyH.nil)
            go_simp
            refine hK.out _ _ (H3.out.1.below (three_below _ _ _ _) (Nat.le_refl _)) (fun hHeld => ?_)
            clear hK K
            try simp only [Act.put, List.setIfInBounds_toArray, List.set_cons_zero, List.set_cons_succ]
            refine wpAnyH_done (by kernel_rfl) ?_ _
            go_wp2
            go_meet
            have R := three_rows w3 g (askC l s o st i v A n c) H3.out.2.1.size hg
            exact ⟨_, _, _, rfl, rfl, rfl, (⟨by omega, by omega, by omega, by have := H3.out.1.lt; omega, by have := H3.out.1.lt; omega, by have := H3.out.1.lt; omega, by omega, R.1, R.2.2.1, R.2.1, R.2.2.2.2⟩ : _ ∧ _)⟩
        · go_simp
          have hS2 := hHeld.below ((Below.refl _ _).alloc (Nat.le_refl _) (.cells #[.int .i64 0, .int .i64 0, .int .u8 0, .int .i64 0, .int .i64 0, .int .i64 0, .slice none 0 0] 25)) (Nat.le_refl _)
          refine hK.out _ _ hS2 (fun hHeld => ?_)
          clear hK K hS2
          try simp only [Act.put, List.setIfInBounds_toArray, List.set_cons_zero, List.set_cons_succ]
          refine wpAnyH_ready (rs := [3, 5]) (by kernel_rfl) (by simp) (AllReadyH.cons (o := ⟨some 3, _, _, _, _, _⟩) rfl (fun K hK => ?_) (AllReadyH.cons (o := ⟨some 5, _, _, _, _, _⟩) rfl (fun K hK => ?_) AllReadyH.nil))
          · go_simp
            have hS2 := hHeld.below ((Below.refl _ _).alloc (Nat.le_refl _) (.cells #[.int .i64 0, .int .i64 0, .int .u8 0, .int .i64 0, .int .i64 0, .int .i64 0, .slice none 0 0] 25)) (Nat.le_refl _)
            refine hK.out _ _ hS2 (fun hHeld => ?_)
            clear hK K hS2
            try simp only [Act.put, List.setIfInBounds_toArray, List.set_cons_zero, List.set_cons_succ]
            refine wpAnyH_ready (rs := [5]) (by kernel_rfl) (by simp) (AllReadyH.cons (o := ⟨some 5, _, _, _, _, _⟩) rfl (fun K hK => ?_) AllReadyH.nil)
            go_simp
            have hS2 := hHeld.below ((Below.refl _ _).alloc (Nat.le_refl _) (.cells #[.int .i64 0, .int .i64 0, .int .u8 0, .int .i64 0, .int .i64 0, .int .i64 0, .slice none 0 0] 25)) (Nat.le_refl _)
            refine hK.out _ _ hS2 (fun hHeld => ?_)
            clear hK K hS2
            try simp only [Act.put, List.setIfInBounds_toArray, List.set_cons_zero, List.set_cons_succ]
            refine wpAnyH_ready (rs := [6]) (by kernel_rfl) (by simp) (AllReadyH.cons (o := ⟨none, _, _, _, _, _⟩) rfl (fun K hK => ?_) AllReadyH.nil)
            go_simp
            refine hK.out _ _ (H3.out.1.below (three_below _ _ _ _) (Nat.le_refl _)) (fun hHeld => ?_)
            clear hK K
            try simp only [Act.put, List.setIfInBounds_toArray, List.set_cons_zero, List.set_cons_succ]
            refine wpAnyH_ready (rs := [7]) (by kernel_rfl) (by simp) (AllReadyH.cons (o := ⟨none, _, _, _, _, _⟩) rfl (fun K hK => ?_) AllReadyH.nil)
            go_simp
            refine hK.out _ _ (H3.out.1.below (three_below _ _ _ _) (Nat.le_refl _)) (fun hHeld => ?_)
            clear hK K
            try simp only [Act.put, List.setIfInBounds_toArray, List.set_cons_zero, List.set_cons_succ]
            refine wpAnyH_ready (rs := [8]) (by kernel_rfl) (by simp) (AllReadyH.cons (o := ⟨none, _, _, _, _, _⟩) rfl (fun K hK => ?_) AllReadyH.nil)
            go_simp
            refine hK.out _ _ (H3.out.1.below (three_below _ _ _ _) (Nat.le_refl _)) (fun hHeld => ?_)
            clear hK K
            try simp only [Act.put, List.setIfInBounds_toArray, List.set_cons_zero, List.set_cons_succ]
            refine wpAnyH_done (by kernel_rfl) ?_ _
            go_wp2
            go_meet
            have R := three_rows w3 g (askC l s o st i v A n c) H3.out.2.1.size hg
            exact ⟨_, _, _, rfl, rfl, rfl, (⟨by omega, by omega, by omega, by have := H3.out.1.lt; omega, by have := H3.out.1.lt; omega, by have := H3.out.1.lt; omega, by omega, R.2.1, R.1, R.2.2.1, R.2.2.2.2⟩ : _ ∧ _)⟩
          · go_simp
            have hS2 := hHeld.below ((Below.refl _ _).alloc (Nat.le_refl _) (.cells #[.int .i64 0, .int .i64 0, .int .u8 0, .int .i64 0, .int .i64 0, .int .i64 0, .slice none 0 0] 25)) (Nat.le_refl _)
            refine hK.out _ _ hS2 (fun hHeld => ?_)
            clear hK K hS2
            try simp only [Act.put, List.setIfInBounds_toArray, List.set_cons_zero, List.set_cons_succ]
            refine wpAnyH_ready (rs := [3]) (by kernel_rfl) (by simp) (AllReadyH.cons (o := ⟨some 3, _, _, _, _, _⟩) rfl (fun K hK => ?_) AllReadyH.nil)
            go_simp
            have hS2 := hHeld.below ((Below.refl _ _).alloc (Nat.le_refl _) (.cells #[.int .i64 0, .int .i64 0, .int .u8 0, .int .i64 0, .int .i64 0, .int .i64 0, .slice none 0 0] 25)) (Nat.le_refl _)
            refine hK.out _ _ hS2 (fun hHeld => ?_)
            clear hK K hS2
            try simp only [Act.put, List.setIfInBounds_toArray, List.set_cons_zero, List.set_cons_succ]
            refine wpAnyH_ready (rs := [6]) (by kernel_rfl) (by simp) (AllReadyH.cons (o := ⟨none, _, _, _, _, _⟩) rfl (fun K hK => ?_) AllReadyH.nil)
            go_simp
            refine hK.out _ _ (H3.out.1.below (three_below _ _ _ _) (Nat.le_refl _)) (fun hHeld => ?_)
            clear hK K
            try simp only [Act.put, List.setIfInBounds_toArray, List.set_cons_zero, List.set_cons_succ]
            refine wpAnyH_ready (rs := [7]) (by kernel_rfl) (by simp) (AllReadyH.cons (o := ⟨none, _, _, _, _, _⟩) rfl (fun K hK => ?_) AllReadyH.nil)
            go_simp
            refine hK.out _ _ (H3.out.1.below (three_below _ _ _ _) (Nat.le_refl _)) (fun hHeld => ?_)
            clear hK K
            try simp only [Act.put, List.setIfInBounds_toArray, List.set_cons_zero, List.set_cons_succ]
            refine wpAnyH_ready (rs := [8]) (by kernel_rfl) (by simp) (AllReadyH.cons (o := ⟨none, _, _, _, _, _⟩) rfl (fun K hK => ?_) AllReadyH.nil)
            go_simp
            refine hK.out _ _ (H3.out.1.below (three_below _ _ _ _) (Nat.le_refl _)) (fun hHeld => ?_)
            clear hK K
            try simp only [Act.put, List.setIfInBounds_toArray, List.set_cons_zero, List.set_cons_succ]
            refine wpAnyH_done (by kernel_rfl) ?_ _
            go_wp2
            go_meet
            have R := three_rows w3 g (askC l s o st i v A n c) H3.out.2.1.size hg
            exact ⟨_, _, _, rfl, rfl, rfl, (⟨by omega, by omega, by omega, by have := H3.out.1.lt; omega, by have := H3.out.1.lt; omega, by have := H3.out.1.lt; omega, by omega, R.2.2.1, R.1, R.2.1, R.2.2.2.2⟩ : _ ∧ _)⟩
        · go_simp
          have hS2 := hHeld.below ((Below.refl _ _).alloc (Nat.le_refl _) (.cells #[.int .i64 0, .int .i64 0, .int .u8 0, .int .i64 0, .int .i64 0, .int .i64 0, .slice none 0 0] 25)) (Nat.le_refl _)
          refine hK.out _ _ hS2 (fun hHeld => ?_)
          clear hK K hS2
          try simp only [Act.put, List.setIfInBounds_toArray, List.set_cons_zero, List.set_cons_succ]
          refine wpAnyH_ready (rs := [3, 4]) (by kernel_rfl) (by simp) (AllReadyH.cons (o := ⟨some 3, _, _, _, _, _⟩) rfl (fun K hK => ?_) (AllReadyH.cons (o := ⟨some 4, _, _, _, _, _⟩) rfl (fun K hK => ?_) AllReadyH.nil))
          · go_simp
            have hS2 := hHeld.below ((Below.refl _ _).alloc (Nat.le_refl _) (.cells #[.int .i64 0, .int .i64 0, .int .u8 0, .int .i64 0, .int .i64 0, .int .i64 0, .slice none 0 0] 25)) (Nat.le_refl _)
            refine hK.out _ _ hS2 (fun hHeld => ?_)
            clear hK K hS2
            try simp only [Act.put, List.setIfInBounds_toArray, List.set_cons_zero, List.set_cons_succ]
            refine wpAnyH_ready (rs := [4]) (by kernel_rfl) (by simp) (AllReadyH.cons (o := ⟨some 4, _, _, _, _, _⟩) rfl (fun K hK => ?_) AllReadyH.nil)
            go_simp
            have hS2 := hHeld.below ((Below.refl _ _).alloc (Nat.le_refl _) (.cells #[.int .i64 0, .int .i64 0, .int .u8 0, .int .i64 0, .int .i64 0, .int .i64 0, .slice none 0 0] 25)) (Nat.le_refl _)
            refine hK.out _ _ hS2 (fun hHeld => ?_)
            clear hK K hS2
            try simp only [Act.put, List.setIfInBounds_toArray, List.set_cons_zero, List.set_cons_succ]
            refine wpAnyH_ready (rs := [6]) (by kernel_rfl) (by simp) (AllReadyH.cons (o := ⟨none, _, _, _, _, _⟩) rfl (fun K hK => ?_) AllReadyH.nil)
            go_simp
            refine hK.out _ _ (H3.out.1.below (three_below _ _ _ _) (Nat.le_refl _)) (fun hHeld => ?_)
            clear hK K
            try simp only [Act.put, List.setIfInBounds_toArray, List.set_cons_zero, List.set_cons_succ]
            refine wpAnyH_ready (rs := [7]) (by kernel_rfl) (by simp) (AllReadyH.cons (o := ⟨none, _, _, _, _, _⟩) rfl (fun K hK => ?_) AllReadyH.nil)
            go_simp
            refine hK.out _ _ (H3.out.1.below (three_below _ _ _ _) (Nat.le_refl _)) (fun hHeld => ?_)
            clear hK K
            try simp only [Act.put, List.setIfInBounds_toArray, List.set_cons_zero, List.set_cons_succ]
            refine wpAnyH_ready (rs := [8]) (by kernel_rfl) (by simp) (AllReadyH.cons (o := ⟨none, _, _, _, _, _⟩) rfl (fun K hK => ?_) AllReadyH.nil)
            go_simp
            refine hK.out _ _ (H3.out.1.below (three_below _ _ _ _) (Nat.le_refl _)) (fun hHeld => ?_)
            clear hK K
            try simp only [Act.put, List.setIfInBounds_toArray, List.set_cons_zero, List.set_cons_succ]
            refine wpAnyH_done (by kernel_rfl) ?_ _
            go_wp2
            go_meet
            have R := three_rows w3 g (askC l s o st i v A n c) H3.out.2.1.size hg
            exact ⟨_, _, _, rfl, rfl, rfl, (⟨by omega, by omega, by omega, by have := H3.out.1.lt; omega, by have := H3.out.1.lt; omega, by have := H3.out.1.lt; omega, by omega, R.2.1, R.2.2.1, R.1, R.2.2.2.2⟩ : _ ∧ _)⟩
          · go_simp
            have hS2 := hHeld.below ((Below.refl _ _).alloc (Nat.le_refl _) (.cells #[.int .i64 0, .int .i64 0, .int .u8 0, .int .i64 0, .int .i64 0, .int .i64 0, .slice none 0 0] 25)) (Nat.le_refl _)
            refine hK.out _ _ hS2 (fun hHeld => ?_)
            clear hK K hS2
            try simp only [Act.put, List.setIfInBounds_toArray, List.set_cons_zero, List.set_cons_succ]
            refine wpAnyH_ready (rs := [3]) (by kernel_rfl) (by simp) (AllReadyH.cons (o := ⟨some 3, _, _, _, _, _⟩) rfl (fun K hK => ?_) AllReadyH.nil)
            go_simp
            have hS2 := hHeld.below ((Below.refl _ _).alloc (Nat.le_refl _) (.cells #[.int .i64 0, .int .i64 0, .int .u8 0, .int .i64 0, .int .i64 0, .int .i64 0, .slice none 0 0] 25)) (Nat.le_refl _)
            refine hK.out _ _ hS2 (fun hHeld => ?_)
            clear hK K hS2
            try simp only [Act.put, List.setIfInBounds_toArray, List.set_cons_zero, List.set_cons_succ]
            refine wpAnyH_ready (rs := [6]) (by kernel_rfl) (by simp) (AllReadyH.cons (o := ⟨none, _, _, _, _, _⟩) rfl (fun K hK => ?_) AllReadyH.nil)
            go_simp
            refine hK.out _ _ (H3.out.1.below (three_below _ _ _ _) (Nat.le_refl _)) (fun hHeld => ?_)
            clear hK K
            try simp only [Act.put, List.setIfInBounds_toArray, List.set_cons_zero, List.set_cons_succ]
            refine wpAnyH_ready (rs := [7]) (by kernel_rfl) (by simp) (AllReadyH.cons (o := ⟨none, _, _, _, _, _⟩) rfl (fun K hK => ?_) AllReadyH.nil)
            go_simp
            refine hK.out _ _ (H3.out.1.below (three_below _ _ _ _) (Nat.le_refl _)) (fun hHeld => ?_)
            clear hK K
            try simp only [Act.put, List.setIfInBounds_toArray, List.set_cons_zero, List.set_cons_succ]
            refine wpAnyH_ready (rs := [8]) (by kernel_rfl) (by simp) (AllReadyH.cons (o := ⟨none, _, _, _, _, _⟩) rfl (fun K hK => ?_) AllReadyH.nil)
            go_simp
            refine hK.out _ _ (H3.out.1.below (three_below _ _ _ _) (Nat.le_refl _)) (fun hHeld => ?_)
            clear hK K
            try simp only [Act.put, List.setIfInBounds_toArray, List.set_cons_zero, List.set_cons_succ]
            refine wpAnyH_done (by kernel_rfl) ?_ _
            go_wp2
            go_meet
            have R := three_rows w3 g (askC l s o st i v A n c) H3.out.2.1.size hg
            exact ⟨_, _, _, rfl, rfl, rfl, (⟨by omega, by omega, by omega, by have := H3.out.1.lt; omega, by have := H3.out.1.lt; omega, by have := H3.out.1.lt; omega, by omega, R.2.2.1, R.2.1, R.1, R.2.2.2.2⟩ : _ ∧ _)⟩
      obtain ⟨p3, p4, p5, rfl, rfl, rfl, HC⟩ := hcut
      obtain ⟨n1, n2, n3, n4, n5, n6, n7, q3, q4, q5, hbc⟩ := HC.out
      have qg : Row wc g #[.int .i64 l, .int .i64 s, .int .u8 o, .int .i64 st, .int .i64 i, .int .i64 v, .slice A n c] 25 := H3.out.1.below hbc (Nat.le_refl _)
      have hBc := H3.out.2.1.trans (hbc.mono H3.out.2.1.size)
      unfold askC at q3 q4 q5
      obtain ⟨w4, hw4⟩ : ∃ x, wc.setCell ⟨p3, 5, none⟩ (.int .i64 0) = x := ⟨_, rfl⟩
      have b4 : But [p3] wc w4 := by rw [← hw4]; exact (But.refl _ _).setCell (by simp) _
      have r3 : Row w4 p3 #[.int .i64 l, .int .i64 s, .int .u8 o, .int .i64 st, .int .i64 i, .int .i64 0, .slice A n c] 25 := by rw [← hw4]; exact set7 q3 _ rfl
      have r4 : Row w4 p4 #[.int .i64 l, .int .i64 s, .int .u8 o, .int .i64 st, .int .i64 i, .int .i64 v, .slice A n c] 25 := b4.cells q4 (by simp; omega)
      have r5 : Row w4 p5 #[.int .i64 l, .int .i64 s, .int .u8 o, .int .i64 st, .int .i64 i, .int .i64 v, .slice A n c] 25 := b4.cells q5 (by simp; omega)
      have rg : Row w4 g #[.int .i64 l, .int .i64 s, .int .u8 o, .int .i64 st, .int .i64 i, .int .i64 v, .slice A n c] 25 := b4.cells qg (by simp; omega)
      have hB4 : Below w.heap.size w w4 := hBc.trans (b4.below hBc.size (by simp; omega))
      have hA4 : Rd w4 A n bs := HA0.out.below hB4 (Nat.le_refl _)
      have e5 := cell_of_row wc p3 5 _ 25 (0, 0) q3
      have f5 := frozen_of_row wc p3 5 _ 25 q3
      have x6 := cell_of_row w4 g 6 _ 25 (0, 0) rg
      have H4 := Lib.hid (And.intro r3 (And.intro r4 (And.intro r5 (And.intro rg (And.intro hB4 hA4)))))
      clear q3 q4 q5 qg hbc hBc b4 r3 r4 r5 rg hB4 hA4 HC
      go_wp2_with fail
      (try rw [hw4])
      refine (copy_any A n c bs w4 H4.out.2.2.2.2.2 (by omega)).mono ?_
      rintro e w5 ⟨A5, c5, rfl, ho5, hb5⟩
      have hs5 := hb5.size
      have HO5 := Lib.hid ho5
      have HB5 := Lib.hid hb5
      clear e5 f5 hw4 x6 hb5 ho5
      by_cases hc4 : o = 4
      · have kN := Lib.hid (show decide (RightA ⟨l, s, o, st, i, 0, bs⟩) = true by rw [right_none HR.out]; simp [hc4])
        have b4 : (o != 4) = false := by simp [hc4]
        clear hc4
        obtain ⟨q2, hq2⟩ : ∃ q, (o == 1) = q := ⟨_, rfl⟩
        have kM := Lib.hid (show decide (RightA ⟨l, s, o, st, i, v, bs ++ [UInt8.ofNat (Int.toNat 1)]⟩) = q2 by rw [right_more HR.out (by omega)]; exact hq2)
        have kO := Lib.hid (right_one HR.out)
        go_wp2_with (at_builtin; refine wpList_app _ rfl (.tmp 24) (.tmp 25) _ rfl w4.heap.size 5 Try.underlying23 info5 rfl (HO5.out.alloc _) rfl (Rd.one w5 1 (by omega) (by omega) 5 (0, 0)) (by omega) (by simp; omega) (n + 1) rfl ?_; intro A7 c7 w7 ho7 hg7 hat7; have hb7 : Below w4.heap.size w4 w7 := (HB5.out.alloc HB5.out.size _).grown hg7 (by simp; omega) (fun q hq => (HO5.out.block q hq).1); obtain ⟨e6, f6, K⟩ := mem9 (A7 := A7) (m := n + 1) (c7 := c7) H4.out.1 H4.out.2.1 H4.out.2.2.1 H4.out.2.2.2.1 H4.out.2.2.2.2.1 hb7 ⟨n1, n2, n3⟩ ⟨n4, n5, n6, n7⟩; obtain ⟨w8, hw8⟩ : ∃ x, w7.setCell ⟨p4, 6, none⟩ (.slice A7 (n + 1) c7) = x := ⟨_, rfl⟩; obtain ⟨e2, f2, K⟩ := K w8 hw8; obtain ⟨w9, hw9⟩ : ∃ x, w8.setCell ⟨p5, 2, none⟩ (.int .u8 7) = x := ⟨_, rfl⟩; have K := K w9 hw9; obtain ⟨y0, y1, y2, y3, y4, y5, y6⟩ := arr7 K.2.2.2.1; have hlm : (bs ++ [UInt8.ofNat (Int.toNat 1)]).length = n + 1 := (by simp [hlen]); have H9 := Lib.hid (And.intro K.1 (And.intro K.2.1 (And.intro K.2.2.1 (And.intro K.2.2.2.1 (And.intro K.2.2.2.2 hlm))))); clear ho7 hg7 hat7 hb7 K hlm)
        obtain ⟨w10, hw10⟩ : ∃ x, w9.alloc (.cells #[.int .i64 l, .int .i64 s, .int .u8 o, .int .i64 st, .int .i64 i, .int .i64 1, .slice A n c] 25) = x := ⟨_, rfl⟩
        obtain ⟨hb10, hx10⟩ := box_new hw10
        obtain ⟨p7, hp7⟩ : ∃ p, w9.heap.size = p := ⟨_, rfl⟩
        rw [hp7] at hx10
        have H10 := Lib.hid (And.intro (H9.out.1.below hb10 (Nat.le_refl _)) (And.intro (H9.out.2.1.below hb10 (Nat.le_refl _)) (And.intro (H9.out.2.2.1.below hb10 (Nat.le_refl _)) (And.intro (H9.out.2.2.2.1.below hb10 (Nat.le_refl _)) (And.intro (show Row w10 p7 #[.int .i64 l, .int .i64 s, .int .u8 o, .int .i64 st, .int .i64 i, .int .i64 1, .slice A n c] 25 from hx10) (H9.out.2.2.2.2.1.trans (hb10.mono H9.out.2.2.2.2.1.size)))))))
        have HW10 := Lib.hid hw10
        clear hb10 hx10 hw10
        (try rw [hp7])
        rw [HW10.out]
        refine wp_region_held_drew (S := fun u => Five u p3 p4 p5 g p7 #[.int .i64 l, .int .i64 s, .int .u8 o, .int .i64 st, .int .i64 i, .int .i64 0, .slice A n c] #[.int .i64 l, .int .i64 s, .int .u8 o, .int .i64 st, .int .i64 i, .int .i64 v, .slice A7 (n + 1) c7] #[.int .i64 l, .int .i64 s, .int .u8 7, .int .i64 st, .int .i64 i, .int .i64 v, .slice A n c] #[.int .i64 l, .int .i64 s, .int .u8 o, .int .i64 st, .int .i64 i, .int .i64 v, .slice A n c] #[.int .i64 l, .int .i64 s, .int .u8 o, .int .i64 st, .int .i64 i, .int .i64 1, .slice A n c]) (by kernel_rfl) (⟨H10.out.1, H10.out.2.1, H10.out.2.2.1, H10.out.2.2.2.1, H10.out.2.2.2.2.1⟩) (fun hHeld => ?_)
        have HB10 : Hid (Below w.heap.size w w10.drew) := Lib.hid H10.out.2.2.2.2.2.drew
        refine wpAnyH_take (i := 0) (oi := ⟨some 39, _, _, _, _, _⟩) (v := ?_) rfl (by kernel_rfl) (by kernel_rfl) (by kernel_rfl) (fun _ _ _ h => h) (Or.inl ⟨by rfl, ?_⟩) (by assumption) ?_
        rotate_left
        · intro w hSw
          obtain ⟨l0, l1, l2, l3, l4, l5, l6⟩ := arr7 hSw.r3
          go_simp
          all_goals (with_reducible rfl)
        try simp only [Act.put, List.setIfInBounds_toArray, List.set_cons_zero, List.set_cons_succ]
        refine wpAnyH_take (i := 2) (oi := ⟨some 41, _, _, _, _, _⟩) (v := ?_) rfl (by kernel_rfl) (by kernel_rfl) (by kernel_rfl) (fun _ _ _ h => h) (Or.inl ⟨by rfl, ?_⟩) (by assumption) ?_
        rotate_left
        · intro w hSw
          (try dsimp only at hSw)
          go_simp
          all_goals (with_reducible rfl)
        try simp only [Act.put, List.setIfInBounds_toArray, List.set_cons_zero, List.set_cons_succ]
        refine wpAnyH_ready (rs := [1]) (by kernel_rfl) (by simp) (AllReadyH.cons (o := ⟨some 40, _, _, _, _, _⟩) rfl (fun K hK => ?_) AllReadyH.nil)
        go_simp
        refine (rightA_is _ l s o st i 0 bs A n c hlen kN.out).mono ?_
        rintro e u1 ⟨rfl, hb⟩
        have hS2 := hHeld.below hb (Nat.le_refl _)
        have HB2 := Lib.hid (HB10.out.trans (hb.mono HB10.out.size))
        clear HB10
        have HB10 := HB2
        clear HB2 hb
        refine hK.out _ _ (hS2) (fun hHeld => ?_)
        clear hK K
        try simp only [Act.put, List.setIfInBounds_toArray, List.set_cons_zero, List.set_cons_succ]
        clear hS2
        refine wpAnyH_take (i := 3) (oi := ⟨some 42, _, _, _, _, _⟩) (v := ?_) rfl (by kernel_rfl) (by kernel_rfl) (by kernel_rfl) (fun _ _ _ h => h) (Or.inl ⟨by rfl, ?_⟩) (by assumption) ?_
        rotate_left
        · intro w hSw
          (try dsimp only at hSw)
          go_simp
          all_goals (with_reducible rfl)
        try simp only [Act.put, List.setIfInBounds_toArray, List.set_cons_zero, List.set_cons_succ]
        refine wpAnyH_take (i := 4) (oi := ⟨some 43, _, _, _, _, _⟩) (v := ?_) rfl (by kernel_rfl) (by kernel_rfl) (by kernel_rfl) (fun _ _ _ h => h) (Or.inl ⟨by rfl, ?_⟩) (by assumption) ?_
        rotate_left
        · intro w hSw
          (try dsimp only at hSw)
          go_simp
          all_goals (with_reducible rfl)
        try simp only [Act.put, List.setIfInBounds_toArray, List.set_cons_zero, List.set_cons_succ]
        refine wpAnyH_take (i := 5) (oi := ⟨some 44, _, _, _, _, _⟩) (v := ?_) rfl (by kernel_rfl) (by kernel_rfl) (by kernel_rfl) (fun _ _ _ h => h) (Or.inl ⟨by rfl, ?_⟩) (by assumption) ?_
        rotate_left
        · intro w hSw
          obtain ⟨l0, l1, l2, l3, l4, l5, l6⟩ := arr7 hSw.r4
          go_simp
          all_goals (with_reducible rfl)
        try simp only [Act.put, List.setIfInBounds_toArray, List.set_cons_zero, List.set_cons_succ]
        refine wpAnyH_take (i := 7) (oi := ⟨some 46, _, _, _, _, _⟩) (v := ?_) rfl (by kernel_rfl) (by kernel_rfl) (by kernel_rfl) (fun _ _ _ h => h) (Or.inl ⟨by rfl, ?_⟩) (by assumption) ?_
        rotate_left
        · intro w hSw
          (try dsimp only at hSw)
          go_simp
          all_goals (with_reducible rfl)
        try simp only [Act.put, List.setIfInBounds_toArray, List.set_cons_zero, List.set_cons_succ]
        refine wpAnyH_take (i := 8) (oi := ⟨some 47, _, _, _, _, _⟩) (v := ?_) rfl (by kernel_rfl) (by kernel_rfl) (by kernel_rfl) (fun _ _ _ h => h) (Or.inl ⟨by rfl, ?_⟩) (by assumption) ?_
        rotate_left
        · intro w hSw
          obtain ⟨l0, l1, l2, l3, l4, l5, l6⟩ := arr7 hSw.rg
          go_simp
          all_goals (with_reducible rfl)
        try simp only [Act.put, List.setIfInBounds_toArray, List.set_cons_zero, List.set_cons_succ]
        refine wpAnyH_take (i := 9) (oi := ⟨some 48, _, _, _, _, _⟩) (v := ?_) rfl (by kernel_rfl) (by kernel_rfl) (by kernel_rfl) (fun _ _ _ h => h) (Or.inl ⟨by rfl, ?_⟩) (by assumption) ?_
        rotate_left
        · intro w hSw
          (try dsimp only at hSw)
          go_simp
          all_goals (with_reducible rfl)
        try simp only [Act.put, List.setIfInBounds_toArray, List.set_cons_zero, List.set_cons_succ]
        refine wpAnyH_ready (rs := [6]) (by kernel_rfl) (by simp) (AllReadyH.cons (o := ⟨some 45, _, _, _, _, _⟩) rfl (fun K hK => ?_) AllReadyH.nil)
        go_simp
        refine (rightA_is _ l s o st i v (bs ++ [UInt8.ofNat (Int.toNat 1)]) A7 (n + 1) c7 H9.out.2.2.2.2.2 kM.out).mono ?_
        rintro e u2 ⟨rfl, hb⟩
        have hS2 := hHeld.below hb (Nat.le_refl _)
        have HB2 := Lib.hid (HB10.out.trans (hb.mono HB10.out.size))
        clear HB10
        have HB10 := HB2
        clear HB2 hb
        refine hK.out _ _ (hS2) (fun hHeld => ?_)
        clear hK K
        try simp only [Act.put, List.setIfInBounds_toArray, List.set_cons_zero, List.set_cons_succ]
        clear hS2
        refine wpAnyH_take (i := 10) (oi := ⟨some 49, _, _, _, _, _⟩) (v := ?_) rfl (by kernel_rfl) (by kernel_rfl) (by kernel_rfl) (fun _ _ _ h => h) (Or.inl ⟨by rfl, ?_⟩) (by assumption) ?_
        rotate_left
        · intro w hSw
          (try dsimp only at hSw)
          go_simp
          all_goals (with_reducible rfl)
        try simp only [Act.put, List.setIfInBounds_toArray, List.set_cons_zero, List.set_cons_succ]
        refine wpAnyH_take (i := 11) (oi := ⟨some 50, _, _, _, _, _⟩) (v := ?_) rfl (by kernel_rfl) (by kernel_rfl) (by kernel_rfl) (fun _ _ _ h => h) (Or.inl ⟨by rfl, ?_⟩) (by assumption) ?_
        rotate_left
        · intro w hSw
          (try dsimp only at hSw)
          go_simp
          all_goals (with_reducible rfl)
        try simp only [Act.put, List.setIfInBounds_toArray, List.set_cons_zero, List.set_cons_succ]
        refine wpAnyH_take (i := 12) (oi := ⟨some 51, _, _, _, _, _⟩) (v := ?_) rfl (by kernel_rfl) (by kernel_rfl) (by kernel_rfl) (fun _ _ _ h => h) (Or.inl ⟨by rfl, ?_⟩) (by assumption) ?_
        rotate_left
        · intro w hSw
          (try dsimp only at hSw)
          go_simp
          all_goals (with_reducible rfl)
        try simp only [Act.put, List.setIfInBounds_toArray, List.set_cons_zero, List.set_cons_succ]
        refine wpAnyH_take (i := 13) (oi := ⟨some 52, _, _, _, _, _⟩) (v := ?_) rfl (by kernel_rfl) (by kernel_rfl) (by kernel_rfl) (fun _ _ _ h => h) (Or.inl ⟨by rfl, ?_⟩) (by assumption) ?_
        rotate_left
        · intro w hSw
          obtain ⟨l0, l1, l2, l3, l4, l5, l6⟩ := arr7 hSw.r5
          go_simp
          all_goals (with_reducible rfl)
        try simp only [Act.put, List.setIfInBounds_toArray, List.set_cons_zero, List.set_cons_succ]
        refine wpAnyH_ready (rs := [14]) (by kernel_rfl) (by simp) (AllReadyH.cons (o := ⟨some 53, _, _, _, _, _⟩) rfl (fun K hK => ?_) AllReadyH.nil)
        go_simp
        refine (rightA_is _ l s 7 st i v bs A n c hlen right_late).mono ?_
        rintro e u3 ⟨rfl, hb⟩
        have hS2 := hHeld.below hb (Nat.le_refl _)
        have HB2 := Lib.hid (HB10.out.trans (hb.mono HB10.out.size))
        clear HB10
        have HB10 := HB2
        clear HB2 hb
        refine hK.out _ _ (hS2) (fun hHeld => ?_)
        clear hK K
        try simp only [Act.put, List.setIfInBounds_toArray, List.set_cons_zero, List.set_cons_succ]
        clear hS2
        refine wpAnyH_take (i := 15) (oi := ⟨some 54, _, _, _, _, _⟩) (v := ?_) rfl (by kernel_rfl) (by kernel_rfl) (by kernel_rfl) (fun _ _ _ h => h) (Or.inl ⟨by rfl, ?_⟩) (by assumption) ?_
        rotate_left
        · intro w hSw
          (try dsimp only at hSw)
          go_simp
          all_goals (with_reducible rfl)
        try simp only [Act.put, List.setIfInBounds_toArray, List.set_cons_zero, List.set_cons_succ]
        refine wpAnyH_take (i := 16) (oi := ⟨some 55, _, _, _, _, _⟩) (v := ?_) rfl (by kernel_rfl) (by kernel_rfl) (by kernel_rfl) (fun _ _ _ h => h) (Or.inl ⟨by rfl, ?_⟩) (by assumption) ?_
        rotate_left
        · intro w hSw
          (try dsimp only at hSw)
          go_simp
          all_goals (with_reducible rfl)
        try simp only [Act.put, List.setIfInBounds_toArray, List.set_cons_zero, List.set_cons_succ]
        refine wpAnyH_take (i := 17) (oi := ⟨some 56, _, _, _, _, _⟩) (v := ?_) rfl (by kernel_rfl) (by kernel_rfl) (by kernel_rfl) (fun _ _ _ h => h) (Or.inl ⟨by rfl, ?_⟩) (by assumption) ?_
        rotate_left
        · intro w hSw
          (try dsimp only at hSw)
          go_simp
          all_goals (with_reducible rfl)
        try simp only [Act.put, List.setIfInBounds_toArray, List.set_cons_zero, List.set_cons_succ]
        refine wpAnyH_take (i := 18) (oi := ⟨some 57, _, _, _, _, _⟩) (v := ?_) rfl (by kernel_rfl) (by kernel_rfl) (by kernel_rfl) (fun _ _ _ h => h) (Or.inl ⟨by rfl, ?_⟩) (by assumption) ?_
        rotate_left
        · intro w hSw
          obtain ⟨l0, l1, l2, l3, l4, l5, l6⟩ := arr7 hSw.r7
          go_simp
          all_goals (with_reducible rfl)
        try simp only [Act.put, List.setIfInBounds_toArray, List.set_cons_zero, List.set_cons_succ]
        refine wpAnyH_ready (rs := [19]) (by kernel_rfl) (by simp) (AllReadyH.cons (o := ⟨some 58, _, _, _, _, _⟩) rfl (fun K hK => ?_) AllReadyH.nil)
        go_simp
        refine (rightA_is _ l s o st i 1 bs A n c hlen kO.out).mono ?_
        rintro e u4 ⟨rfl, hb⟩
        have hS2 := hHeld.below hb (Nat.le_refl _)
        have HB2 := Lib.hid (HB10.out.trans (hb.mono HB10.out.size))
        clear HB10
        have HB10 := HB2
        clear HB2 hb
        refine hK.out _ _ (hS2) (fun hHeld => ?_)
        clear hK K
        try simp only [Act.put, List.setIfInBounds_toArray, List.set_cons_zero, List.set_cons_succ]
        clear hS2
        refine wpAnyH_take (i := 20) (oi := ⟨some 59, _, _, _, _, _⟩) (v := ?_) rfl (by kernel_rfl) (by kernel_rfl) (by kernel_rfl) (fun _ _ _ h => h) (Or.inl ⟨by rfl, ?_⟩) (by assumption) ?_
        rotate_left
        · intro w hSw
          (try dsimp only at hSw)
          go_simp
          all_goals (with_reducible rfl)
        try simp only [Act.put, List.setIfInBounds_toArray, List.set_cons_zero, List.set_cons_succ]
        refine wpAnyH_take (i := 21) (oi := ⟨some 60, _, _, _, _, _⟩) (v := ?_) rfl (by kernel_rfl) (by kernel_rfl) (by kernel_rfl) (fun _ _ _ h => h) (Or.inl ⟨by rfl, ?_⟩) (by assumption) ?_
        rotate_left
        · intro w hSw
          (try dsimp only at hSw)
          go_simp
          all_goals (with_reducible rfl)
        try simp only [Act.put, List.setIfInBounds_toArray, List.set_cons_zero, List.set_cons_succ]
        refine wpAnyH_ready (rs := [22]) (by kernel_rfl) (by simp) (AllReadyH.cons (o := ⟨some 61, _, _, _, _, _⟩) rfl (fun K hK => ?_) AllReadyH.nil)
        go_simp
        refine (awake_is _).mono ?_
        rintro e u5 ⟨rfl, hb⟩
        have hS2 := hHeld.below hb (Nat.le_refl _)
        have HB2 := Lib.hid (HB10.out.trans (hb.mono HB10.out.size))
        clear HB10
        have HB10 := HB2
        clear HB2 hb
        refine hK.out _ _ (hS2) (fun hHeld => ?_)
        clear hK K
        try simp only [Act.put, List.setIfInBounds_toArray, List.set_cons_zero, List.set_cons_succ]
        clear hS2
        refine wpAnyH_take (i := 23) (oi := ⟨some 62, _, _, _, _, _⟩) (v := ?_) rfl (by kernel_rfl) (by kernel_rfl) (by kernel_rfl) (fun _ _ _ h => h) (Or.inl ⟨by rfl, ?_⟩) (by assumption) ?_
        rotate_left
        · intro w hSw
          (try dsimp only at hSw)
          go_simp
          all_goals (with_reducible rfl)
        try simp only [Act.put, List.setIfInBounds_toArray, List.set_cons_zero, List.set_cons_succ]
        refine wpAnyH_take (i := 24) (oi := ⟨some 2, _, _, _, _, _⟩) (v := ?_) rfl (by kernel_rfl) (by kernel_rfl) (by kernel_rfl) (fun _ _ _ h => h) (Or.inl ⟨by rfl, ?_⟩) (by assumption) ?_
        rotate_left
        · intro w hSw
          (try dsimp only at hSw)
          go_simp
          all_goals (with_reducible rfl)
        try simp only [Act.put, List.setIfInBounds_toArray, List.set_cons_zero, List.set_cons_succ]
        refine wpAnyH_done (by kernel_rfl) ?_ _
        go_wp2
        go_ret
        exact told_mk (by simp) HB10.out
      · by_cases hc5 : o = 5
        · have kN := Lib.hid (show decide (RightA ⟨l, s, o, st, i, 0, bs⟩) = true by rw [right_none HR.out]; simp [hc5])
          have b4 : (o != 4) = true := by simp [hc4]
          have b5 : (o != 5) = false := by simp [hc5]
          clear hc4 hc5
          obtain ⟨q2, hq2⟩ : ∃ q, (o == 1) = q := ⟨_, rfl⟩
          have kM := Lib.hid (show decide (RightA ⟨l, s, o, st, i, v, bs ++ [UInt8.ofNat (Int.toNat 1)]⟩) = q2 by rw [right_more HR.out (by omega)]; exact hq2)
          have kO := Lib.hid (right_one HR.out)
          go_wp2_with (at_builtin; refine wpList_app _ rfl (.tmp 24) (.tmp 25) _ rfl w4.heap.size 5 Try.underlying23 info5 rfl (HO5.out.alloc _) rfl (Rd.one w5 1 (by omega) (by omega) 5 (0, 0)) (by omega) (by simp; omega) (n + 1) rfl ?_; intro A7 c7 w7 ho7 hg7 hat7; have hb7 : Below w4.heap.size w4 w7 := (HB5.out.alloc HB5.out.size _).grown hg7 (by simp; omega) (fun q hq => (HO5.out.block q hq).1); obtain ⟨e6, f6, K⟩ := mem9 (A7 := A7) (m := n + 1) (c7 := c7) H4.out.1 H4.out.2.1 H4.out.2.2.1 H4.out.2.2.2.1 H4.out.2.2.2.2.1 hb7 ⟨n1, n2, n3⟩ ⟨n4, n5, n6, n7⟩; obtain ⟨w8, hw8⟩ : ∃ x, w7.setCell ⟨p4, 6, none⟩ (.slice A7 (n + 1) c7) = x := ⟨_, rfl⟩; obtain ⟨e2, f2, K⟩ := K w8 hw8; obtain ⟨w9, hw9⟩ : ∃ x, w8.setCell ⟨p5, 2, none⟩ (.int .u8 7) = x := ⟨_, rfl⟩; have K := K w9 hw9; obtain ⟨y0, y1, y2, y3, y4, y5, y6⟩ := arr7 K.2.2.2.1; have hlm : (bs ++ [UInt8.ofNat (Int.toNat 1)]).length = n + 1 := (by simp [hlen]); have H9 := Lib.hid (And.intro K.1 (And.intro K.2.1 (And.intro K.2.2.1 (And.intro K.2.2.2.1 (And.intro K.2.2.2.2 hlm))))); clear ho7 hg7 hat7 hb7 K hlm)
          obtain ⟨w10, hw10⟩ : ∃ x, w9.alloc (.cells #[.int .i64 l, .int .i64 s, .int .u8 o, .int .i64 st, .int .i64 i, .int .i64 1, .slice A n c] 25) = x := ⟨_, rfl⟩
          obtain ⟨hb10, hx10⟩ := box_new hw10
          obtain ⟨p7, hp7⟩ : ∃ p, w9.heap.size = p := ⟨_, rfl⟩
          rw [hp7] at hx10
          have H10 := Lib.hid (And.intro (H9.out.1.below hb10 (Nat.le_refl _)) (And.intro (H9.out.2.1.below hb10 (Nat.le_refl _)) (And.intro (H9.out.2.2.1.below hb10 (Nat.le_refl _)) (And.intro (H9.out.2.2.2.1.below hb10 (Nat.le_refl _)) (And.intro (show Row w10 p7 #[.int .i64 l, .int .i64 s, .int .u8 o, .int .i64 st, .int .i64 i, .int .i64 1, .slice A n c] 25 from hx10) (H9.out.2.2.2.2.1.trans (hb10.mono H9.out.2.2.2.2.1.size)))))))
          have HW10 := Lib.hid hw10
          clear hb10 hx10 hw10
          (try rw [hp7])
          rw [HW10.out]
          refine wp_region_held_drew (S := fun u => Five u p3 p4 p5 g p7 #[.int .i64 l, .int .i64 s, .int .u8 o, .int .i64 st, .int .i64 i, .int .i64 0, .slice A n c] #[.int .i64 l, .int .i64 s, .int .u8 o, .int .i64 st, .int .i64 i, .int .i64 v, .slice A7 (n + 1) c7] #[.int .i64 l, .int .i64 s, .int .u8 7, .int .i64 st, .int .i64 i, .int .i64 v, .slice A n c] #[.int .i64 l, .int .i64 s, .int .u8 o, .int .i64 st, .int .i64 i, .int .i64 v, .slice A n c] #[.int .i64 l, .int .i64 s, .int .u8 o, .int .i64 st, .int .i64 i, .int .i64 1, .slice A n c]) (by kernel_rfl) (⟨H10.out.1, H10.out.2.1, H10.out.2.2.1, H10.out.2.2.2.1, H10.out.2.2.2.2.1⟩) (fun hHeld => ?_)
          have HB10 : Hid (Below w.heap.size w w10.drew) := Lib.hid H10.out.2.2.2.2.2.drew
          refine wpAnyH_take (i := 0) (oi := ⟨some 39, _, _, _, _, _⟩) (v := ?_) rfl (by kernel_rfl) (by kernel_rfl) (by kernel_rfl) (fun _ _ _ h => h) (Or.inl ⟨by rfl, ?_⟩) (by assumption) ?_
          rotate_left
          · intro w hSw
            obtain ⟨l0, l1, l2, l3, l4, l5, l6⟩ := arr7 hSw.r3
            go_simp
            all_goals (with_reducible rfl)
          try simp only [Act.put, List.setIfInBounds_toArray, List.set_cons_zero, List.set_cons_succ]
          refine wpAnyH_take (i := 2) (oi := ⟨some 41, _, _, _, _, _⟩) (v := ?_) rfl (by kernel_rfl) (by kernel_rfl) (by kernel_rfl) (fun _ _ _ h => h) (Or.inl ⟨by rfl, ?_⟩) (by assumption) ?_
          rotate_left
          · intro w hSw
            (try dsimp only at hSw)
            go_simp
            all_goals (with_reducible rfl)
          try simp only [Act.put, List.setIfInBounds_toArray, List.set_cons_zero, List.set_cons_succ]
          refine wpAnyH_ready (rs := [1]) (by kernel_rfl) (by simp) (AllReadyH.cons (o := ⟨some 40, _, _, _, _, _⟩) rfl (fun K hK => ?_) AllReadyH.nil)
          go_simp
          refine (rightA_is _ l s o st i 0 bs A n c hlen kN.out).mono ?_
          rintro e u1 ⟨rfl, hb⟩
          have hS2 := hHeld.below hb (Nat.le_refl _)
          have HB2 := Lib.hid (HB10.out.trans (hb.mono HB10.out.size))
          clear HB10
          have HB10 := HB2
          clear HB2 hb
          refine hK.out _ _ (hS2) (fun hHeld => ?_)
          clear hK K
          try simp only [Act.put, List.setIfInBounds_toArray, List.set_cons_zero, List.set_cons_succ]
          clear hS2
          refine wpAnyH_take (i := 3) (oi := ⟨some 42, _, _, _, _, _⟩) (v := ?_) rfl (by kernel_rfl) (by kernel_rfl) (by kernel_rfl) (fun _ _ _ h => h) (Or.inl ⟨by rfl, ?_⟩) (by assumption) ?_
          rotate_left
          · intro w hSw
            (try dsimp only at hSw)
            go_simp
            all_goals (with_reducible rfl)
          try simp only [Act.put, List.setIfInBounds_toArray, List.set_cons_zero, List.set_cons_succ]
          refine wpAnyH_take (i := 4) (oi := ⟨some 43, _, _, _, _, _⟩) (v := ?_) rfl (by kernel_rfl) (by kernel_rfl) (by kernel_rfl) (fun _ _ _ h => h) (Or.inl ⟨by rfl, ?_⟩) (by assumption) ?_
          rotate_left
          · intro w hSw
            (try dsimp only at hSw)
            go_simp
            all_goals (with_reducible rfl)
          try simp only [Act.put, List.setIfInBounds_toArray, List.set_cons_zero, List.set_cons_succ]
          refine wpAnyH_take (i := 5) (oi := ⟨some 44, _, _, _, _, _⟩) (v := ?_) rfl (by kernel_rfl) (by kernel_rfl) (by kernel_rfl) (fun _ _ _ h => h) (Or.inl ⟨by rfl, ?_⟩) (by assumption) ?_
          rotate_left
          · intro w hSw
            obtain ⟨l0, l1, l2, l3, l4, l5, l6⟩ := arr7 hSw.r4
            go_simp
            all_goals (with_reducible rfl)
          try simp only [Act.put, List.setIfInBounds_toArray, List.set_cons_zero, List.set_cons_succ]
          refine wpAnyH_take (i := 7) (oi := ⟨some 46, _, _, _, _, _⟩) (v := ?_) rfl (by kernel_rfl) (by kernel_rfl) (by kernel_rfl) (fun _ _ _ h => h) (Or.inl ⟨by rfl, ?_⟩) (by assumption) ?_
          rotate_left
          · intro w hSw
            (try dsimp only at hSw)
            go_simp
            all_goals (with_reducible rfl)
          try simp only [Act.put, List.setIfInBounds_toArray, List.set_cons_zero, List.set_cons_succ]
          refine wpAnyH_take (i := 8) (oi := ⟨some 47, _, _, _, _, _⟩) (v := ?_) rfl (by kernel_rfl) (by kernel_rfl) (by kernel_rfl) (fun _ _ _ h => h) (Or.inl ⟨by rfl, ?_⟩) (by assumption) ?_
          rotate_left
          · intro w hSw
            obtain ⟨l0, l1, l2, l3, l4, l5, l6⟩ := arr7 hSw.rg
            go_simp
            all_goals (with_reducible rfl)
          try simp only [Act.put, List.setIfInBounds_toArray, List.set_cons_zero, List.set_cons_succ]
          refine wpAnyH_take (i := 9) (oi := ⟨some 48, _, _, _, _, _⟩) (v := ?_) rfl (by kernel_rfl) (by kernel_rfl) (by kernel_rfl) (fun _ _ _ h => h) (Or.inl ⟨by rfl, ?_⟩) (by assumption) ?_
          rotate_left
          · intro w hSw
            (try dsimp only at hSw)
            go_simp
            all_goals (with_reducible rfl)
          try simp only [Act.put, List.setIfInBounds_toArray, List.set_cons_zero, List.set_cons_succ]
          refine wpAnyH_ready (rs := [6]) (by kernel_rfl) (by simp) (AllReadyH.cons (o := ⟨some 45, _, _, _, _, _⟩) rfl (fun K hK => ?_) AllReadyH.nil)
          go_simp
          refine (rightA_is _ l s o st i v (bs ++ [UInt8.ofNat (Int.toNat 1)]) A7 (n + 1) c7 H9.out.2.2.2.2.2 kM.out).mono ?_
          rintro e u2 ⟨rfl, hb⟩
          have hS2 := hHeld.below hb (Nat.le_refl _)
          have HB2 := Lib.hid (HB10.out.trans (hb.mono HB10.out.size))
          clear HB10
          have HB10 := HB2
          clear HB2 hb
          refine hK.out _ _ (hS2) (fun hHeld => ?_)
          clear hK K
          try simp only [Act.put, List.setIfInBounds_toArray, List.set_cons_zero, List.set_cons_succ]
          clear hS2
          refine wpAnyH_take (i := 10) (oi := ⟨some 49, _, _, _, _, _⟩) (v := ?_) rfl (by kernel_rfl) (by kernel_rfl) (by kernel_rfl) (fun _ _ _ h => h) (Or.inl ⟨by rfl, ?_⟩) (by assumption) ?_
          rotate_left
          · intro w hSw
            (try dsimp only at hSw)
            go_simp
            all_goals (with_reducible rfl)
          try simp only [Act.put, List.setIfInBounds_toArray, List.set_cons_zero, List.set_cons_succ]
          refine wpAnyH_take (i := 11) (oi := ⟨some 50, _, _, _, _, _⟩) (v := ?_) rfl (by kernel_rfl) (by kernel_rfl) (by kernel_rfl) (fun _ _ _ h => h) (Or.inl ⟨by rfl, ?_⟩) (by assumption) ?_
          rotate_left
          · intro w hSw
            (try dsimp only at hSw)
            go_simp
            all_goals (with_reducible rfl)
          try simp only [Act.put, List.setIfInBounds_toArray, List.set_cons_zero, List.set_cons_succ]
          refine wpAnyH_take (i := 12) (oi := ⟨some 51, _, _, _, _, _⟩) (v := ?_) rfl (by kernel_rfl) (by kernel_rfl) (by kernel_rfl) (fun _ _ _ h => h) (Or.inl ⟨by rfl, ?_⟩) (by assumption) ?_
          rotate_left
          · intro w hSw
            (try dsimp only at hSw)
            go_simp
            all_goals (with_reducible rfl)
          try simp only [Act.put, List.setIfInBounds_toArray, List.set_cons_zero, List.set_cons_succ]
          refine wpAnyH_take (i := 13) (oi := ⟨some 52, _, _, _, _, _⟩) (v := ?_) rfl (by kernel_rfl) (by kernel_rfl) (by kernel_rfl) (fun _ _ _ h => h) (Or.inl ⟨by rfl, ?_⟩) (by assumption) ?_
          rotate_left
          · intro w hSw
            obtain ⟨l0, l1, l2, l3, l4, l5, l6⟩ := arr7 hSw.r5
            go_simp
            all_goals (with_reducible rfl)
          try simp only [Act.put, List.setIfInBounds_toArray, List.set_cons_zero, List.set_cons_succ]
          refine wpAnyH_ready (rs := [14]) (by kernel_rfl) (by simp) (AllReadyH.cons (o := ⟨some 53, _, _, _, _, _⟩) rfl (fun K hK => ?_) AllReadyH.nil)
          go_simp
          refine (rightA_is _ l s 7 st i v bs A n c hlen right_late).mono ?_
          rintro e u3 ⟨rfl, hb⟩
          have hS2 := hHeld.below hb (Nat.le_refl _)
          have HB2 := Lib.hid (HB10.out.trans (hb.mono HB10.out.size))
          clear HB10
          have HB10 := HB2
          clear HB2 hb
          refine hK.out _ _ (hS2) (fun hHeld => ?_)
          clear hK K
          try simp only [Act.put, List.setIfInBounds_toArray, List.set_cons_zero, List.set_cons_succ]
          clear hS2
          refine wpAnyH_take (i := 15) (oi := ⟨some 54, _, _, _, _, _⟩) (v := ?_) rfl (by kernel_rfl) (by kernel_rfl) (by kernel_rfl) (fun _ _ _ h => h) (Or.inl ⟨by rfl, ?_⟩) (by assumption) ?_
          rotate_left
          · intro w hSw
            (try dsimp only at hSw)
            go_simp
            all_goals (with_reducible rfl)
          try simp only [Act.put, List.setIfInBounds_toArray, List.set_cons_zero, List.set_cons_succ]
          refine wpAnyH_take (i := 16) (oi := ⟨some 55, _, _, _, _, _⟩) (v := ?_) rfl (by kernel_rfl) (by kernel_rfl) (by kernel_rfl) (fun _ _ _ h => h) (Or.inl ⟨by rfl, ?_⟩) (by assumption) ?_
          rotate_left
          · intro w hSw
            (try dsimp only at hSw)
            go_simp
            all_goals (with_reducible rfl)
          try simp only [Act.put, List.setIfInBounds_toArray, List.set_cons_zero, List.set_cons_succ]
          refine wpAnyH_take (i := 17) (oi := ⟨some 56, _, _, _, _, _⟩) (v := ?_) rfl (by kernel_rfl) (by kernel_rfl) (by kernel_rfl) (fun _ _ _ h => h) (Or.inl ⟨by rfl, ?_⟩) (by assumption) ?_
          rotate_left
          · intro w hSw
            (try dsimp only at hSw)
            go_simp
            all_goals (with_reducible rfl)
          try simp only [Act.put, List.setIfInBounds_toArray, List.set_cons_zero, List.set_cons_succ]
          refine wpAnyH_take (i := 18) (oi := ⟨some 57, _, _, _, _, _⟩) (v := ?_) rfl (by kernel_rfl) (by kernel_rfl) (by kernel_rfl) (fun _ _ _ h => h) (Or.inl ⟨by rfl, ?_⟩) (by assumption) ?_
          rotate_left
          · intro w hSw
            obtain ⟨l0, l1, l2, l3, l4, l5, l6⟩ := arr7 hSw.r7
            go_simp
            all_goals (with_reducible rfl)
          try simp only [Act.put, List.setIfInBounds_toArray, List.set_cons_zero, List.set_cons_succ]
          refine wpAnyH_ready (rs := [19]) (by kernel_rfl) (by simp) (AllReadyH.cons (o := ⟨some 58, _, _, _, _, _⟩) rfl (fun K hK => ?_) AllReadyH.nil)
          go_simp
          refine (rightA_is _ l s o st i 1 bs A n c hlen kO.out).mono ?_
          rintro e u4 ⟨rfl, hb⟩
          have hS2 := hHeld.below hb (Nat.le_refl _)
          have HB2 := Lib.hid (HB10.out.trans (hb.mono HB10.out.size))
          clear HB10
          have HB10 := HB2
          clear HB2 hb
          refine hK.out _ _ (hS2) (fun hHeld => ?_)
          clear hK K
          try simp only [Act.put, List.setIfInBounds_toArray, List.set_cons_zero, List.set_cons_succ]
          clear hS2
          refine wpAnyH_take (i := 20) (oi := ⟨some 59, _, _, _, _, _⟩) (v := ?_) rfl (by kernel_rfl) (by kernel_rfl) (by kernel_rfl) (fun _ _ _ h => h) (Or.inl ⟨by rfl, ?_⟩) (by assumption) ?_
          rotate_left
          · intro w hSw
            (try dsimp only at hSw)
            go_simp
            all_goals (with_reducible rfl)
          try simp only [Act.put, List.setIfInBounds_toArray, List.set_cons_zero, List.set_cons_succ]
          refine wpAnyH_take (i := 21) (oi := ⟨some 60, _, _, _, _, _⟩) (v := ?_) rfl (by kernel_rfl) (by kernel_rfl) (by kernel_rfl) (fun _ _ _ h => h) (Or.inl ⟨by rfl, ?_⟩) (by assumption) ?_
          rotate_left
          · intro w hSw
            (try dsimp only at hSw)
            go_simp
            all_goals (with_reducible rfl)
          try simp only [Act.put, List.setIfInBounds_toArray, List.set_cons_zero, List.set_cons_succ]
          refine wpAnyH_ready (rs := [22]) (by kernel_rfl) (by simp) (AllReadyH.cons (o := ⟨some 61, _, _, _, _, _⟩) rfl (fun K hK => ?_) AllReadyH.nil)
          go_simp
          refine (awake_is _).mono ?_
          rintro e u5 ⟨rfl, hb⟩
          have hS2 := hHeld.below hb (Nat.le_refl _)
          have HB2 := Lib.hid (HB10.out.trans (hb.mono HB10.out.size))
          clear HB10
          have HB10 := HB2
          clear HB2 hb
          refine hK.out _ _ (hS2) (fun hHeld => ?_)
          clear hK K
          try simp only [Act.put, List.setIfInBounds_toArray, List.set_cons_zero, List.set_cons_succ]
          clear hS2
          refine wpAnyH_take (i := 23) (oi := ⟨some 62, _, _, _, _, _⟩) (v := ?_) rfl (by kernel_rfl) (by kernel_rfl) (by kernel_rfl) (fun _ _ _ h => h) (Or.inl ⟨by rfl, ?_⟩) (by assumption) ?_
          rotate_left
          · intro w hSw
            (try dsimp only at hSw)
            go_simp
            all_goals (with_reducible rfl)
          try simp only [Act.put, List.setIfInBounds_toArray, List.set_cons_zero, List.set_cons_succ]
          refine wpAnyH_take (i := 24) (oi := ⟨some 2, _, _, _, _, _⟩) (v := ?_) rfl (by kernel_rfl) (by kernel_rfl) (by kernel_rfl) (fun _ _ _ h => h) (Or.inl ⟨by rfl, ?_⟩) (by assumption) ?_
          rotate_left
          · intro w hSw
            (try dsimp only at hSw)
            go_simp
            all_goals (with_reducible rfl)
          try simp only [Act.put, List.setIfInBounds_toArray, List.set_cons_zero, List.set_cons_succ]
          refine wpAnyH_done (by kernel_rfl) ?_ _
          go_wp2
          go_ret
          exact told_mk (by simp) HB10.out
        · have kN := Lib.hid (show decide (RightA ⟨l, s, o, st, i, 0, bs⟩) = false by rw [right_none HR.out]; simp [hc4, hc5])
          have b4 : (o != 4) = true := by simp [hc4]
          have b5 : (o != 5) = true := by simp [hc5]
          clear hc4 hc5
          obtain ⟨q2, hq2⟩ : ∃ q, (o == 1) = q := ⟨_, rfl⟩
          have kM := Lib.hid (show decide (RightA ⟨l, s, o, st, i, v, bs ++ [UInt8.ofNat (Int.toNat 1)]⟩) = q2 by rw [right_more HR.out (by omega)]; exact hq2)
          have kO := Lib.hid (right_one HR.out)
          go_wp2_with (at_builtin; refine wpList_app _ rfl (.tmp 24) (.tmp 25) _ rfl w4.heap.size 5 Try.underlying23 info5 rfl (HO5.out.alloc _) rfl (Rd.one w5 1 (by omega) (by omega) 5 (0, 0)) (by omega) (by simp; omega) (n + 1) rfl ?_; intro A7 c7 w7 ho7 hg7 hat7; have hb7 : Below w4.heap.size w4 w7 := (HB5.out.alloc HB5.out.size _).grown hg7 (by simp; omega) (fun q hq => (HO5.out.block q hq).1); obtain ⟨e6, f6, K⟩ := mem9 (A7 := A7) (m := n + 1) (c7 := c7) H4.out.1 H4.out.2.1 H4.out.2.2.1 H4.out.2.2.2.1 H4.out.2.2.2.2.1 hb7 ⟨n1, n2, n3⟩ ⟨n4, n5, n6, n7⟩; obtain ⟨w8, hw8⟩ : ∃ x, w7.setCell ⟨p4, 6, none⟩ (.slice A7 (n + 1) c7) = x := ⟨_, rfl⟩; obtain ⟨e2, f2, K⟩ := K w8 hw8; obtain ⟨w9, hw9⟩ : ∃ x, w8.setCell ⟨p5, 2, none⟩ (.int .u8 7) = x := ⟨_, rfl⟩; have K := K w9 hw9; obtain ⟨y0, y1, y2, y3, y4, y5, y6⟩ := arr7 K.2.2.2.1; have hlm : (bs ++ [UInt8.ofNat (Int.toNat 1)]).length = n + 1 := (by simp [hlen]); have H9 := Lib.hid (And.intro K.1 (And.intro K.2.1 (And.intro K.2.2.1 (And.intro K.2.2.2.1 (And.intro K.2.2.2.2 hlm))))); clear ho7 hg7 hat7 hb7 K hlm)
          obtain ⟨w10, hw10⟩ : ∃ x, w9.alloc (.cells #[.int .i64 l, .int .i64 s, .int .u8 o, .int .i64 st, .int .i64 i, .int .i64 1, .slice A n c] 25) = x := ⟨_, rfl⟩
          obtain ⟨hb10, hx10⟩ := box_new hw10
          obtain ⟨p7, hp7⟩ : ∃ p, w9.heap.size = p := ⟨_, rfl⟩
          rw [hp7] at hx10
          have H10 := Lib.hid (And.intro (H9.out.1.below hb10 (Nat.le_refl _)) (And.intro (H9.out.2.1.below hb10 (Nat.le_refl _)) (And.intro (H9.out.2.2.1.below hb10 (Nat.le_refl _)) (And.intro (H9.out.2.2.2.1.below hb10 (Nat.le_refl _)) (And.intro (show Row w10 p7 #[.int .i64 l, .int .i64 s, .int .u8 o, .int .i64 st, .int .i64 i, .int .i64 1, .slice A n c] 25 from hx10) (H9.out.2.2.2.2.1.trans (hb10.mono H9.out.2.2.2.2.1.size)))))))
          have HW10 := Lib.hid hw10
          clear hb10 hx10 hw10
          (try rw [hp7])
          rw [HW10.out]
          refine wp_region_held_drew (S := fun u => Five u p3 p4 p5 g p7 #[.int .i64 l, .int .i64 s, .int .u8 o, .int .i64 st, .int .i64 i, .int .i64 0, .slice A n c] #[.int .i64 l, .int .i64 s, .int .u8 o, .int .i64 st, .int .i64 i, .int .i64 v, .slice A7 (n + 1) c7] #[.int .i64 l, .int .i64 s, .int .u8 7, .int .i64 st, .int .i64 i, .int .i64 v, .slice A n c] #[.int .i64 l, .int .i64 s, .int .u8 o, .int .i64 st, .int .i64 i, .int .i64 v, .slice A n c] #[.int .i64 l, .int .i64 s, .int .u8 o, .int .i64 st, .int .i64 i, .int .i64 1, .slice A n c]) (by kernel_rfl) (⟨H10.out.1, H10.out.2.1, H10.out.2.2.1, H10.out.2.2.2.1, H10.out.2.2.2.2.1⟩) (fun hHeld => ?_)
          have HB10 : Hid (Below w.heap.size w w10.drew) := Lib.hid H10.out.2.2.2.2.2.drew
          refine wpAnyH_take (i := 0) (oi := ⟨some 39, _, _, _, _, _⟩) (v := ?_) rfl (by kernel_rfl) (by kernel_rfl) (by kernel_rfl) (fun _ _ _ h => h) (Or.inl ⟨by rfl, ?_⟩) (by assumption) ?_
          rotate_left
          · intro w hSw
            obtain ⟨l0, l1, l2, l3, l4, l5, l6⟩ := arr7 hSw.r3
            go_simp
            all_goals (with_reducible rfl)
          try simp only [Act.put, List.setIfInBounds_toArray, List.set_cons_zero, List.set_cons_succ]
          refine wpAnyH_take (i := 2) (oi := ⟨some 41, _, _, _, _, _⟩) (v := ?_) rfl (by kernel_rfl) (by kernel_rfl) (by kernel_rfl) (fun _ _ _ h => h) (Or.inl ⟨by rfl, ?_⟩) (by assumption) ?_
          rotate_left
          · intro w hSw
            (try dsimp only at hSw)
            go_simp
            all_goals (with_reducible rfl)
          try simp only [Act.put, List.setIfInBounds_toArray, List.set_cons_zero, List.set_cons_succ]
          refine wpAnyH_ready (rs := [1]) (by kernel_rfl) (by simp) (AllReadyH.cons (o := ⟨some 40, _, _, _, _, _⟩) rfl (fun K hK => ?_) AllReadyH.nil)
          go_simp
          refine (rightA_is _ l s o st i 0 bs A n c hlen kN.out).mono ?_
          rintro e u1 ⟨rfl, hb⟩
          have hS2 := hHeld.below hb (Nat.le_refl _)
          have HB2 := Lib.hid (HB10.out.trans (hb.mono HB10.out.size))
          clear HB10
          have HB10 := HB2
          clear HB2 hb
          refine hK.out _ _ (hS2) (fun hHeld => ?_)
          clear hK K
          try simp only [Act.put, List.setIfInBounds_toArray, List.set_cons_zero, List.set_cons_succ]
          clear hS2
          refine wpAnyH_take (i := 3) (oi := ⟨some 42, _, _, _, _, _⟩) (v := ?_) rfl (by kernel_rfl) (by kernel_rfl) (by kernel_rfl) (fun _ _ _ h => h) (Or.inl ⟨by rfl, ?_⟩) (by assumption) ?_
          rotate_left
          · intro w hSw
            (try dsimp only at hSw)
            go_simp
            all_goals (with_reducible rfl)
          try simp only [Act.put, List.setIfInBounds_toArray, List.set_cons_zero, List.set_cons_succ]
          refine wpAnyH_take (i := 4) (oi := ⟨some 43, _, _, _, _, _⟩) (v := ?_) rfl (by kernel_rfl) (by kernel_rfl) (by kernel_rfl) (fun _ _ _ h => h) (Or.inl ⟨by rfl, ?_⟩) (by assumption) ?_
          rotate_left
          · intro w hSw
            (try dsimp only at hSw)
            go_simp
            all_goals (with_reducible rfl)
          try simp only [Act.put, List.setIfInBounds_toArray, List.set_cons_zero, List.set_cons_succ]
          refine wpAnyH_take (i := 5) (oi := ⟨some 44, _, _, _, _, _⟩) (v := ?_) rfl (by kernel_rfl) (by kernel_rfl) (by kernel_rfl) (fun _ _ _ h => h) (Or.inl ⟨by rfl, ?_⟩) (by assumption) ?_
          rotate_left
          · intro w hSw
            obtain ⟨l0, l1, l2, l3, l4, l5, l6⟩ := arr7 hSw.r4
            go_simp
            all_goals (with_reducible rfl)
          try simp only [Act.put, List.setIfInBounds_toArray, List.set_cons_zero, List.set_cons_succ]
          refine wpAnyH_take (i := 7) (oi := ⟨some 46, _, _, _, _, _⟩) (v := ?_) rfl (by kernel_rfl) (by kernel_rfl) (by kernel_rfl) (fun _ _ _ h => h) (Or.inl ⟨by rfl, ?_⟩) (by assumption) ?_
          rotate_left
          · intro w hSw
            (try dsimp only at hSw)
            go_simp
            all_goals (with_reducible rfl)
          try simp only [Act.put, List.setIfInBounds_toArray, List.set_cons_zero, List.set_cons_succ]
          refine wpAnyH_take (i := 8) (oi := ⟨some 47, _, _, _, _, _⟩) (v := ?_) rfl (by kernel_rfl) (by kernel_rfl) (by kernel_rfl) (fun _ _ _ h => h) (Or.inl ⟨by rfl, ?_⟩) (by assumption) ?_
          rotate_left
          · intro w hSw
            obtain ⟨l0, l1, l2, l3, l4, l5, l6⟩ := arr7 hSw.rg
            go_simp
            all_goals (with_reducible rfl)
          try simp only [Act.put, List.setIfInBounds_toArray, List.set_cons_zero, List.set_cons_succ]
          refine wpAnyH_take (i := 9) (oi := ⟨some 48, _, _, _, _, _⟩) (v := ?_) rfl (by kernel_rfl) (by kernel_rfl) (by kernel_rfl) (fun _ _ _ h => h) (Or.inl ⟨by rfl, ?_⟩) (by assumption) ?_
          rotate_left
          · intro w hSw
            (try dsimp only at hSw)
            go_simp
            all_goals (with_reducible rfl)
          try simp only [Act.put, List.setIfInBounds_toArray, List.set_cons_zero, List.set_cons_succ]
          refine wpAnyH_ready (rs := [6]) (by kernel_rfl) (by simp) (AllReadyH.cons (o := ⟨some 45, _, _, _, _, _⟩) rfl (fun K hK => ?_) AllReadyH.nil)
          go_simp
          refine (rightA_is _ l s o st i v (bs ++ [UInt8.ofNat (Int.toNat 1)]) A7 (n + 1) c7 H9.out.2.2.2.2.2 kM.out).mono ?_
          rintro e u2 ⟨rfl, hb⟩
          have hS2 := hHeld.below hb (Nat.le_refl _)
          have HB2 := Lib.hid (HB10.out.trans (hb.mono HB10.out.size))
          clear HB10
          have HB10 := HB2
          clear HB2 hb
          refine hK.out _ _ (hS2) (fun hHeld => ?_)
          clear hK K
          try simp only [Act.put, List.setIfInBounds_toArray, List.set_cons_zero, List.set_cons_succ]
          clear hS2
          refine wpAnyH_take (i := 10) (oi := ⟨some 49, _, _, _, _, _⟩) (v := ?_) rfl (by kernel_rfl) (by kernel_rfl) (by kernel_rfl) (fun _ _ _ h => h) (Or.inl ⟨by rfl, ?_⟩) (by assumption) ?_
          rotate_left
          · intro w hSw
            (try dsimp only at hSw)
            go_simp
            all_goals (with_reducible rfl)
          try simp only [Act.put, List.setIfInBounds_toArray, List.set_cons_zero, List.set_cons_succ]
          refine wpAnyH_take (i := 11) (oi := ⟨some 50, _, _, _, _, _⟩) (v := ?_) rfl (by kernel_rfl) (by kernel_rfl) (by kernel_rfl) (fun _ _ _ h => h) (Or.inl ⟨by rfl, ?_⟩) (by assumption) ?_
          rotate_left
          · intro w hSw
            (try dsimp only at hSw)
            go_simp
            all_goals (with_reducible rfl)
          try simp only [Act.put, List.setIfInBounds_toArray, List.set_cons_zero, List.set_cons_succ]
          refine wpAnyH_take (i := 12) (oi := ⟨some 51, _, _, _, _, _⟩) (v := ?_) rfl (by kernel_rfl) (by kernel_rfl) (by kernel_rfl) (fun _ _ _ h => h) (Or.inl ⟨by rfl, ?_⟩) (by assumption) ?_
          rotate_left
          · intro w hSw
            (try dsimp only at hSw)
            go_simp
            all_goals (with_reducible rfl)
          try simp only [Act.put, List.setIfInBounds_toArray, List.set_cons_zero, List.set_cons_succ]
          refine wpAnyH_take (i := 13) (oi := ⟨some 52, _, _, _, _, _⟩) (v := ?_) rfl (by kernel_rfl) (by kernel_rfl) (by kernel_rfl) (fun _ _ _ h => h) (Or.inl ⟨by rfl, ?_⟩) (by assumption) ?_
          rotate_left
          · intro w hSw
            obtain ⟨l0, l1, l2, l3, l4, l5, l6⟩ := arr7 hSw.r5
            go_simp
            all_goals (with_reducible rfl)
          try simp only [Act.put, List.setIfInBounds_toArray, List.set_cons_zero, List.set_cons_succ]
          refine wpAnyH_ready (rs := [14]) (by kernel_rfl) (by simp) (AllReadyH.cons (o := ⟨some 53, _, _, _, _, _⟩) rfl (fun K hK => ?_) AllReadyH.nil)
          go_simp
          refine (rightA_is _ l s 7 st i v bs A n c hlen right_late).mono ?_
          rintro e u3 ⟨rfl, hb⟩
          have hS2 := hHeld.below hb (Nat.le_refl _)
          have HB2 := Lib.hid (HB10.out.trans (hb.mono HB10.out.size))
          clear HB10
          have HB10 := HB2
          clear HB2 hb
          refine hK.out _ _ (hS2) (fun hHeld => ?_)
          clear hK K
          try simp only [Act.put, List.setIfInBounds_toArray, List.set_cons_zero, List.set_cons_succ]
          clear hS2
          refine wpAnyH_take (i := 15) (oi := ⟨some 54, _, _, _, _, _⟩) (v := ?_) rfl (by kernel_rfl) (by kernel_rfl) (by kernel_rfl) (fun _ _ _ h => h) (Or.inl ⟨by rfl, ?_⟩) (by assumption) ?_
          rotate_left
          · intro w hSw
            (try dsimp only at hSw)
            go_simp
            all_goals (with_reducible rfl)
          try simp only [Act.put, List.setIfInBounds_toArray, List.set_cons_zero, List.set_cons_succ]
          refine wpAnyH_take (i := 16) (oi := ⟨some 55, _, _, _, _, _⟩) (v := ?_) rfl (by kernel_rfl) (by kernel_rfl) (by kernel_rfl) (fun _ _ _ h => h) (Or.inl ⟨by rfl, ?_⟩) (by assumption) ?_
          rotate_left
          · intro w hSw
            (try dsimp only at hSw)
            go_simp
            all_goals (with_reducible rfl)
          try simp only [Act.put, List.setIfInBounds_toArray, List.set_cons_zero, List.set_cons_succ]
          refine wpAnyH_take (i := 17) (oi := ⟨some 56, _, _, _, _, _⟩) (v := ?_) rfl (by kernel_rfl) (by kernel_rfl) (by kernel_rfl) (fun _ _ _ h => h) (Or.inl ⟨by rfl, ?_⟩) (by assumption) ?_
          rotate_left
          · intro w hSw
            (try dsimp only at hSw)
            go_simp
            all_goals (with_reducible rfl)
          try simp only [Act.put, List.setIfInBounds_toArray, List.set_cons_zero, List.set_cons_succ]
          refine wpAnyH_take (i := 18) (oi := ⟨some 57, _, _, _, _, _⟩) (v := ?_) rfl (by kernel_rfl) (by kernel_rfl) (by kernel_rfl) (fun _ _ _ h => h) (Or.inl ⟨by rfl, ?_⟩) (by assumption) ?_
          rotate_left
          · intro w hSw
            obtain ⟨l0, l1, l2, l3, l4, l5, l6⟩ := arr7 hSw.r7
            go_simp
            all_goals (with_reducible rfl)
          try simp only [Act.put, List.setIfInBounds_toArray, List.set_cons_zero, List.set_cons_succ]
          refine wpAnyH_ready (rs := [19]) (by kernel_rfl) (by simp) (AllReadyH.cons (o := ⟨some 58, _, _, _, _, _⟩) rfl (fun K hK => ?_) AllReadyH.nil)
          go_simp
          refine (rightA_is _ l s o st i 1 bs A n c hlen kO.out).mono ?_
          rintro e u4 ⟨rfl, hb⟩
          have hS2 := hHeld.below hb (Nat.le_refl _)
          have HB2 := Lib.hid (HB10.out.trans (hb.mono HB10.out.size))
          clear HB10
          have HB10 := HB2
          clear HB2 hb
          refine hK.out _ _ (hS2) (fun hHeld => ?_)
          clear hK K
          try simp only [Act.put, List.setIfInBounds_toArray, List.set_cons_zero, List.set_cons_succ]
          clear hS2
          refine wpAnyH_take (i := 20) (oi := ⟨some 59, _, _, _, _, _⟩) (v := ?_) rfl (by kernel_rfl) (by kernel_rfl) (by kernel_rfl) (fun _ _ _ h => h) (Or.inl ⟨by rfl, ?_⟩) (by assumption) ?_
          rotate_left
          · intro w hSw
            (try dsimp only at hSw)
            go_simp
            all_goals (with_reducible rfl)
          try simp only [Act.put, List.setIfInBounds_toArray, List.set_cons_zero, List.set_cons_succ]
          refine wpAnyH_take (i := 21) (oi := ⟨some 60, _, _, _, _, _⟩) (v := ?_) rfl (by kernel_rfl) (by kernel_rfl) (by kernel_rfl) (fun _ _ _ h => h) (Or.inl ⟨by rfl, ?_⟩) (by assumption) ?_
          rotate_left
          · intro w hSw
            (try dsimp only at hSw)
            go_simp
            all_goals (with_reducible rfl)
          try simp only [Act.put, List.setIfInBounds_toArray, List.set_cons_zero, List.set_cons_succ]
          refine wpAnyH_ready (rs := [22]) (by kernel_rfl) (by simp) (AllReadyH.cons (o := ⟨some 61, _, _, _, _, _⟩) rfl (fun K hK => ?_) AllReadyH.nil)
          go_simp
          refine (awake_is _).mono ?_
          rintro e u5 ⟨rfl, hb⟩
          have hS2 := hHeld.below hb (Nat.le_refl _)
          have HB2 := Lib.hid (HB10.out.trans (hb.mono HB10.out.size))
          clear HB10
          have HB10 := HB2
          clear HB2 hb
          refine hK.out _ _ (hS2) (fun hHeld => ?_)
          clear hK K
          try simp only [Act.put, List.setIfInBounds_toArray, List.set_cons_zero, List.set_cons_succ]
          clear hS2
          refine wpAnyH_take (i := 23) (oi := ⟨some 62, _, _, _, _, _⟩) (v := ?_) rfl (by kernel_rfl) (by kernel_rfl) (by kernel_rfl) (fun _ _ _ h => h) (Or.inl ⟨by rfl, ?_⟩) (by assumption) ?_
          rotate_left
          · intro w hSw
            (try dsimp only at hSw)
            go_simp
            all_goals (with_reducible rfl)
          try simp only [Act.put, List.setIfInBounds_toArray, List.set_cons_zero, List.set_cons_succ]
          refine wpAnyH_take (i := 24) (oi := ⟨some 2, _, _, _, _, _⟩) (v := ?_) rfl (by kernel_rfl) (by kernel_rfl) (by kernel_rfl) (fun _ _ _ h => h) (Or.inl ⟨by rfl, ?_⟩) (by assumption) ?_
          rotate_left
          · intro w hSw
            (try dsimp only at hSw)
            go_simp
            all_goals (with_reducible rfl)
          try simp only [Act.put, List.setIfInBounds_toArray, List.set_cons_zero, List.set_cons_succ]
          refine wpAnyH_done (by kernel_rfl) ?_ _
          go_wp2
          go_ret
          exact told_mk (by simp) HB10.out
    · have kR := Lib.hid (decide_eq_false hR)
      clear hR
      go_enter Try.func9, Try.ntmps9
      go_wp2_with fail
      (try rw [hw1])
      refine (small_is w1 l s o st i v 0 0 0 0 0 ks.out).mono ?_
      rintro e w2 ⟨rfl, hb2⟩
      have hx2 := HX.out.below hb2 (Nat.le_refl _)
      obtain ⟨b0, b1, b2, b3, b4, b5, b6⟩ := arr7 hx2
      clear a0 a1 a2 a3 a4 a5 a6
      go_wp2_with fail
      refine (rightA_is w2 l s o st i v bs A n c hlen kR.out).mono ?_
      rintro e w3 ⟨rfl, hb3⟩
      have HB3 := Lib.hid ((HB.out.trans (hb2.mono HB.out.size)).trans (hb3.mono (HB.out.trans (hb2.mono HB.out.size)).size))
      clear hb2 hb3 b0 b1 b2 b3 b4 b5 b6 hx2
      go_wp2_with fail
      refine (awake_is _).mono ?_
      rintro e w4 ⟨rfl, hb4⟩
      go_wp2
      go_ret
      exact told_mk (by simp) (HB3.out.trans (hb4.mono HB3.out.size))
  · have ks := Lib.hid (show decide (n ≤ 500 ∧ 0 ≤ 500 ∧ 0 ≤ 60 ∧ 0 ≤ 1000) = false by simp; omega)
    go_enter Try.func9, Try.ntmps9
    go_wp2_with fail
    (try rw [hw1])
    refine (small_is w1 l s o st i v 0 0 0 0 0 ks.out).mono ?_
    rintro e w2 ⟨rfl, hb2⟩
    have HB2 := Lib.hid (HB.out.trans (hb2.mono HB.out.size))
    clear hb2 a0 a1 a2 a3 a4 a5 a6
    go_wp2_with fail
    refine (awake_is _).mono ?_
    rintro e w4 ⟨rfl, hb4⟩
    go_wp2
    go_ret
    exact told_mk (by simp) (HB2.out.trans (hb4.mono HB2.out.size))
end
end Go.Proofs.Ytmiapegecoaccaa
