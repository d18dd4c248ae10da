/- The closure that changes two rows about and makes the upper one lead. -/
import Derived.Test.YtkkpfehgobanbaaMtxF
import Derived.Deep.CutRange
namespace Go.Proofs.Ytkkpfehgobanbaa
open Go.RowKit Go.Coop
set_option maxRecDepth 100000

theorem setCell_some {u : World} {g j : Nat} {v : Value} (h : u.cell? ⟨g, j, none⟩ = some v) (x : Value) (i' : Nat) : ∃ y, (u.setCell ⟨g, i', none⟩ x).cell? ⟨g, j, none⟩ = some y := by
  by_cases e : i' = j
  · subst e; exact ⟨x, World.cell?_setCell_same _ _ _ h⟩
  · exact ⟨v, (World.cell?_setCell_other _ _ _ _ (by intro q; injection q with _ q _; omega)).trans h⟩
/-- the field lies elsewhere than rows of a matrix -/
theorem fld_apart {w : World} {g gx bo br n c : Nat} {M : List (List UInt8)} (h : FldAt w g) (hm : MO w bo br (some ⟨gx, 0, none⟩) n c M) (hn : 0 < n) : g ≠ gx := by
  rintro rfl
  obtain ⟨g1, B1, d1, r1, e1, _, _, _, _, hc1, _⟩ := hm.row hn
  injection e1 with e1
  injection e1 with e1 _ _
  subst e1
  rw [h.pow 0 (by omega)] at hc1
  cases hc1
theorem swap_end {w : World} {bo br gx n c k led first d1 d2 : Nat} {B1 B2 : Option Addr} {F : Fn2} (h : MO w bo br (some ⟨gx, 0, none⟩) n c (tabM n k F)) (h1 : Own w br 5 B1 k d1 (rowL k (F led))) (h2 : Own w br 5 B2 k d2 (rowL k (F first))) :
    Hid (MO ((w.setCell ⟨gx, led, none⟩ (.slice B2 k d2)).setCell ⟨gx, first, none⟩ (.slice B1 k d1)).drew bo br (some ⟨gx, 0, none⟩) n c (tabM n k (fun a => F (sw led first a)))) ∧ Hid (But [gx] w ((w.setCell ⟨gx, led, none⟩ (.slice B2 k d2)).setCell ⟨gx, first, none⟩ (.slice B1 k d1)).drew) := by
  refine ⟨?_, ((((But.refl _ _)).setCell (by simp) _).setCell (by simp) _).drew⟩
  refine MO.drew ?_
  rw [← tabM_swap]
  have e1 := rowL_len k (F led)
  have e2 := rowL_len k (F first)
  have a := h.setRow (i := led) rfl (show Own w br 5 B2 (rowL k (F first)).length d2 (rowL k (F first)) by rw [e2]; exact h2)
  rw [e2] at a
  have b := a.setRow (i := first) (B := B1) (d := d1) (r := rowL k (F led)) rfl (by
    rw [e1]
    refine h1.at_block fun g hB => Below.heap_setCell _ _ _ _ ?_
    rintro rfl
    obtain ⟨cur, hg, _⟩ := h1.cells_at _ hB
    obtain ⟨cur', hg'⟩ := h.cells
    rw [hg] at hg'
    injection hg' with e
    injection e with _ e _
    cases e)
  rwa [e1] at b

set_option maxHeartbeats 1000000 in
set_option maxRecDepth 100000 in
theorem lead_any {bo br : Nat} (g gx n c k led first iv p1 p2 p3 p4 : Nat) (F : Fn2) (w : World) (hf : FldAt w g) (h : MO w bo br (some ⟨gx, 0, none⟩) n c (tabM n k F)) (hl : led < n) (hfi : first < n) (hk : k ≤ 255) (ht : iv < 256) (hbr : br ≤ w.heap.size)
    (h1 : Box w p1 (.int .i64 (first : Int)) 3) (h2 : Box w p2 (.int .i64 (led : Int)) 3) (h3 : Box w p3 (.pointer (some ⟨g, 0, none⟩)) 41) (h4 : Box w p4 (.int .u8 (iv : Int)) 5) :
    Calls Try.prog 97 #[.slice (some ⟨gx, 0, none⟩) n c, .pointer (some ⟨p1, 0, none⟩), .pointer (some ⟨p2, 0, none⟩), .pointer (some ⟨p3, 0, none⟩), .pointer (some ⟨p4, 0, none⟩)] w (Did bo br gx n c k (lead1 F led first iv) w) := by
  have hm2 := make31 k (by omega)
  obtain ⟨g1, B1, d1, r1, e1, _, hgl, hfz, hr1, hc1, ho1⟩ := h.row hl
  injection e1 with e1
  injection e1 with e1 _ _
  subst e1
  obtain ⟨g2, B2, d2, r2, e2, _, _, _, hr2, hc2, ho2⟩ := h.row hfi
  injection e2 with e2
  injection e2 with e2 _ _
  subst e2
  rw [tabM_at k F hl] at hr1
  rw [tabM_at k F hfi] at hr2
  injection hr1 with hr1
  injection hr2 with hr2
  rw [← hr1, rowL_len] at hc1 ho1
  rw [← hr2, rowL_len] at hc2 ho2
  obtain ⟨cur, hcur⟩ := h.cells
  have n1 := ne_of_type h1 hcur (by decide)
  have n2 := ne_of_type h2 hcur (by decide)
  have n3 := ne_of_type h3 hcur (by decide)
  have n4 := ne_of_type h4 hcur (by decide)
  have HS := Lib.hid (And.intro h1.cell h2.cell)
  have HB := Lib.hid (And.intro h1 (And.intro h2 (And.intro h3 h4)))
  have HC1 := Lib.hid hc1
  have HC2 := Lib.hid hc2
  have hz1 := hfz led
  have hz2 := hfz first
  have HFZ := Lib.hid (And.intro hz1 hz2)
  have HF := Lib.hid hf
  have HFA := Lib.hid (fld_apart hf h (by omega))
  have HM := Lib.hid h
  have HO := Lib.hid (And.intro ho1 ho2)
  have HN := Lib.hid (And.intro n1 (And.intro n2 (And.intro n3 n4)))
  have HCU : Hid (∃ cur, w.heap[gx]? = some (.cells cur 35 (0, 0))) := ⟨cur, hcur⟩
  clear h1 h2 h3 h4 hc1 hc2 hfz hf h ho1 ho2 hr1 hr2 hcur n1 n2 n3 n4 hz1 hz2 cur
  go_enter Try.func97, Try.ntmps97
  go_step
  go_cut [] from 6 to 19 (fun wc => Hid (MO wc bo br (some ⟨gx, 0, none⟩) n c (tabM n k (fun a => F (sw led first a)))) ∧ Hid (But [gx] w wc))
  case first =>
    refine wp_region_held_drew (S := fun u => u.cell? ⟨p1, 0, none⟩ = some (.int .i64 (first : Int)) ∧ u.cell? ⟨p2, 0, none⟩ = some (.int .i64 (led : Int))) (by kernel_rfl) (by exact HS.out) (fun hHeld => ?_)
    refine wpAnyH_take (i := 0) (oi := ⟨some 6, _, _, _, _, _⟩) (v := ?_) rfl (by kernel_rfl) (by kernel_rfl) (by kernel_rfl) (fun _ _ _ h => h) (Or.inl ⟨by rfl, ?_⟩) (by assumption) ?_
    rotate_left
    · intro w hSw
      obtain ⟨s1, s2⟩ := hSw
      go_simp
      all_goals (with_reducible rfl)
    try simp only [Act.put, List.setIfInBounds_toArray, List.set_cons_zero, List.set_cons_succ]
    refine wpAnyH_take (i := 1) (oi := ⟨some 7, _, _, _, _, _⟩) (v := ?_) rfl (by kernel_rfl) (by kernel_rfl) (by kernel_rfl) (fun _ _ _ h => h) (Or.inl ⟨by rfl, ?_⟩) (by assumption) ?_
    rotate_left
    · intro w hSw
      obtain ⟨s1, s2⟩ := hSw
      go_simp
      all_goals (with_reducible rfl)
    try simp only [Act.put, List.setIfInBounds_toArray, List.set_cons_zero, List.set_cons_succ]
    refine wpAnyH_take (i := 2) (oi := ⟨some 8, _, _, _, _, _⟩) (v := ?_) rfl (by kernel_rfl) (by kernel_rfl) (by kernel_rfl) (fun _ _ _ h => h) (Or.inl ⟨by rfl, ?_⟩) (by assumption) ?_
    rotate_left
    · intro w hSw
      obtain ⟨s1, s2⟩ := hSw
      go_simp
      all_goals (with_reducible rfl)
    try simp only [Act.put, List.setIfInBounds_toArray, List.set_cons_zero, List.set_cons_succ]
    refine wpAnyH_take (i := 3) (oi := ⟨some 9, _, _, _, _, _⟩) (v := ?_) rfl (by kernel_rfl) (by kernel_rfl) (by kernel_rfl) (fun _ _ _ h => h) (Or.inl ⟨by rfl, ?_⟩) (by assumption) ?_
    rotate_left
    · intro w hSw
      obtain ⟨s1, s2⟩ := hSw
      go_simp
      all_goals (with_reducible rfl)
    try simp only [Act.put, List.setIfInBounds_toArray, List.set_cons_zero, List.set_cons_succ]
    refine wpAnyH_take (i := 4) (oi := ⟨some 10, _, _, _, _, _⟩) (v := ?_) rfl (by kernel_rfl) (by kernel_rfl) (by kernel_rfl) (fun _ _ _ h => h) (Or.inl ⟨by rfl, ?_⟩) (by assumption) ?_
    rotate_left
    · intro w hSw
      obtain ⟨s1, s2⟩ := hSw
      go_simp
      all_goals (with_reducible rfl)
    try simp only [Act.put, List.setIfInBounds_toArray, List.set_cons_zero, List.set_cons_succ]
    refine wpAnyH_take (i := 5) (oi := ⟨some 11, _, _, _, _, _⟩) (v := ?_) rfl (by kernel_rfl) (by kernel_rfl) (by kernel_rfl) (fun _ _ _ h => h) (Or.inl ⟨by rfl, ?_⟩) (by assumption) ?_
    rotate_left
    · intro w hSw
      obtain ⟨s1, s2⟩ := hSw
      go_simp
      all_goals (with_reducible rfl)
    try simp only [Act.put, List.setIfInBounds_toArray, List.set_cons_zero, List.set_cons_succ]
    refine wpAnyH_take (i := 6) (oi := ⟨some 12, _, _, _, _, _⟩) (v := ?_) rfl (by kernel_rfl) (by kernel_rfl) (by kernel_rfl) (fun _ _ _ h => h) (Or.inl ⟨by rfl, ?_⟩) (by assumption) ?_
    rotate_left
    · intro w hSw
      obtain ⟨s1, s2⟩ := hSw
      go_simp
      all_goals (with_reducible rfl)
    try simp only [Act.put, List.setIfInBounds_toArray, List.set_cons_zero, List.set_cons_succ]
    refine wpAnyH_take (i := 8) (oi := ⟨some 14, _, _, _, _, _⟩) (v := ?_) rfl (by kernel_rfl) (by kernel_rfl) (by kernel_rfl) (fun _ _ _ h => h) (Or.inl ⟨by rfl, ?_⟩) (by assumption) ?_
    rotate_left
    · intro w hSw
      obtain ⟨s1, s2⟩ := hSw
      go_simp
      all_goals (with_reducible rfl)
    try simp only [Act.put, List.setIfInBounds_toArray, List.set_cons_zero, List.set_cons_succ]
    refine wpAnyH_take (i := 9) (oi := ⟨some 15, _, _, _, _, _⟩) (v := ?_) rfl (by kernel_rfl) (by kernel_rfl) (by kernel_rfl) (fun _ _ _ h => h) (Or.inl ⟨by rfl, ?_⟩) (by assumption) ?_
    rotate_left
    · intro w hSw
      obtain ⟨s1, s2⟩ := hSw
      go_simp
      all_goals (with_reducible rfl)
    try simp only [Act.put, List.setIfInBounds_toArray, List.set_cons_zero, List.set_cons_succ]
    refine wpAnyH_take (i := 10) (oi := ⟨some 16, _, _, _, _, _⟩) (v := ?_) rfl (by kernel_rfl) (by kernel_rfl) (by kernel_rfl) (fun _ _ _ h => h) (Or.inl ⟨by rfl, ?_⟩) (by assumption) ?_
    rotate_left
    · intro w hSw
      obtain ⟨s1, s2⟩ := hSw
      go_simp
      all_goals (with_reducible rfl)
    try simp only [Act.put, List.setIfInBounds_toArray, List.set_cons_zero, List.set_cons_succ]
    have hH := hHeld
    have hc1 : w.drew.cell? ⟨gx, led, none⟩ = some (.slice B1 k d1) := HC1.out
    have hc2 : w.drew.cell? ⟨gx, first, none⟩ = some (.slice B2 k d2) := HC2.out
    have hz1 : w.drew.frozen? ⟨gx, led, none⟩ = false := HFZ.out.1
    have hz2 : w.drew.frozen? ⟨gx, first, none⟩ = false := HFZ.out.2
    refine wpAnyH_ready (rs := [7, 11]) (by kernel_rfl) (by simp) (AllReadyH.cons (o := ⟨some 13, _, _, _, _, _⟩) rfl (fun K hK => ?_) (AllReadyH.cons (o := ⟨some 17, _, _, _, _, _⟩) rfl (fun K hK => ?_) AllReadyH.nil))
    · go_simp
      refine hK.out _ _ (hH) (fun hHeld => ?_)
      clear hK K
      try simp only [Act.put, List.setIfInBounds_toArray, List.set_cons_zero, List.set_cons_succ]
      refine wpAnyH_ready (rs := [11]) (by kernel_rfl) (by simp) (AllReadyH.cons (o := ⟨some 17, _, _, _, _, _⟩) rfl (fun K hK => ?_) AllReadyH.nil)
      go_simp
      refine hK.out _ _ (hH) (fun hHeld => ?_)
      clear hK K
      try simp only [Act.put, List.setIfInBounds_toArray, List.set_cons_zero, List.set_cons_succ]
      refine wpAnyH_take (i := 12) (oi := ⟨some 18, _, _, _, _, _⟩) (v := ?_) rfl (by kernel_rfl) (by kernel_rfl) (by kernel_rfl) (fun _ _ _ h => h) (Or.inl ⟨by rfl, ?_⟩) (by assumption) ?_
      rotate_left
      · intro w hSw
        obtain ⟨s1, s2⟩ := hSw
        go_simp
        all_goals (with_reducible rfl)
      try simp only [Act.put, List.setIfInBounds_toArray, List.set_cons_zero, List.set_cons_succ]
      refine wpAnyH_ready (rs := [13]) (by kernel_rfl) (by simp) (AllReadyH.cons (o := ⟨none, _, _, _, _, _⟩) rfl (fun K hK => ?_) AllReadyH.nil)
      go_simp
      refine hK.out _ _ (by exact ⟨(World.cell?_of_block (w := w.drew) (Below.heap_setCell _ _ _ _ (by exact HN.out.1))).trans hH.1, (World.cell?_of_block (w := w.drew) (Below.heap_setCell _ _ _ _ (by exact HN.out.2.1))).trans hH.2⟩) (fun hHeld => ?_)
      clear hK K
      try simp only [Act.put, List.setIfInBounds_toArray, List.set_cons_zero, List.set_cons_succ]
      have hH2 := hHeld
      refine wpAnyH_take (i := 14) (oi := ⟨some 19, _, _, _, _, _⟩) (v := ?_) rfl (by kernel_rfl) (by kernel_rfl) (by kernel_rfl) (fun _ _ _ h => h) (Or.inl ⟨by rfl, ?_⟩) (by assumption) ?_
      rotate_left
      · intro w hSw
        obtain ⟨s1, s2⟩ := hSw
        go_simp
        all_goals (with_reducible rfl)
      try simp only [Act.put, List.setIfInBounds_toArray, List.set_cons_zero, List.set_cons_succ]
      have hz3 : (w.setCell ⟨gx, led, none⟩ (.slice B2 k d2)).frozen? ⟨gx, first, none⟩ = false := by rw [World.frozen?_setCell]; exact HFZ.out.2
      obtain ⟨vv, hc3⟩ : ∃ vv, (w.setCell ⟨gx, led, none⟩ (.slice B2 k d2)).cell? ⟨gx, first, none⟩ = some vv := setCell_some (u := w) (HC2.out) _ _
      have hH4 : (((w.setCell ⟨gx, led, none⟩ (.slice B2 k d2)).setCell ⟨gx, first, none⟩ (.slice B1 k d1)).drew).cell? ⟨p1, 0, none⟩ = some (.int .i64 (first : Int)) ∧ (((w.setCell ⟨gx, led, none⟩ (.slice B2 k d2)).setCell ⟨gx, first, none⟩ (.slice B1 k d1)).drew).cell? ⟨p2, 0, none⟩ = some (.int .i64 (led : Int)) := ⟨(World.cell?_of_block (w := (w.setCell ⟨gx, led, none⟩ (.slice B2 k d2))) (Below.heap_setCell _ _ _ _ (by exact HN.out.1))).trans ((World.cell?_of_block (w := w) (Below.heap_setCell _ _ _ _ (by exact HN.out.1))).trans HS.out.1), (World.cell?_of_block (w := (w.setCell ⟨gx, led, none⟩ (.slice B2 k d2))) (Below.heap_setCell _ _ _ _ (by exact HN.out.2.1))).trans ((World.cell?_of_block (w := w) (Below.heap_setCell _ _ _ _ (by exact HN.out.2.1))).trans HS.out.2)⟩
      refine wpAnyH_ready (rs := [15]) (by kernel_rfl) (by simp) (AllReadyH.cons (o := ⟨none, _, _, _, _, _⟩) rfl (fun K hK => ?_) AllReadyH.nil)
      go_simp
      refine hK.out _ _ (hH4) (fun hHeld => ?_)
      clear hK K
      try simp only [Act.put, List.setIfInBounds_toArray, List.set_cons_zero, List.set_cons_succ]
      refine wpAnyH_done (by kernel_rfl) ?_ _
      go_wp2_with fail
      go_meet
      case rel => exact swap_end HM.out HO.out.1 HO.out.2
    · go_simp
      refine hK.out _ _ (hH) (fun hHeld => ?_)
      clear hK K
      try simp only [Act.put, List.setIfInBounds_toArray, List.set_cons_zero, List.set_cons_succ]
      refine wpAnyH_ready (rs := [7]) (by kernel_rfl) (by simp) (AllReadyH.cons (o := ⟨some 13, _, _, _, _, _⟩) rfl (fun K hK => ?_) AllReadyH.nil)
      go_simp
      refine hK.out _ _ (hH) (fun hHeld => ?_)
      clear hK K
      try simp only [Act.put, List.setIfInBounds_toArray, List.set_cons_zero, List.set_cons_succ]
      refine wpAnyH_take (i := 12) (oi := ⟨some 18, _, _, _, _, _⟩) (v := ?_) rfl (by kernel_rfl) (by kernel_rfl) (by kernel_rfl) (fun _ _ _ h => h) (Or.inl ⟨by rfl, ?_⟩) (by assumption) ?_
      rotate_left
      · intro w hSw
        obtain ⟨s1, s2⟩ := hSw
        go_simp
        all_goals (with_reducible rfl)
      try simp only [Act.put, List.setIfInBounds_toArray, List.set_cons_zero, List.set_cons_succ]
      refine wpAnyH_ready (rs := [13]) (by kernel_rfl) (by simp) (AllReadyH.cons (o := ⟨none, _, _, _, _, _⟩) rfl (fun K hK => ?_) AllReadyH.nil)
      go_simp
      refine hK.out _ _ (by exact ⟨(World.cell?_of_block (w := w.drew) (Below.heap_setCell _ _ _ _ (by exact HN.out.1))).trans hH.1, (World.cell?_of_block (w := w.drew) (Below.heap_setCell _ _ _ _ (by exact HN.out.2.1))).trans hH.2⟩) (fun hHeld => ?_)
      clear hK K
      try simp only [Act.put, List.setIfInBounds_toArray, List.set_cons_zero, List.set_cons_succ]
      have hH2 := hHeld
      refine wpAnyH_take (i := 14) (oi := ⟨some 19, _, _, _, _, _⟩) (v := ?_) rfl (by kernel_rfl) (by kernel_rfl) (by kernel_rfl) (fun _ _ _ h => h) (Or.inl ⟨by rfl, ?_⟩) (by assumption) ?_
      rotate_left
      · intro w hSw
        obtain ⟨s1, s2⟩ := hSw
        go_simp
        all_goals (with_reducible rfl)
      try simp only [Act.put, List.setIfInBounds_toArray, List.set_cons_zero, List.set_cons_succ]
      have hz3 : (w.setCell ⟨gx, led, none⟩ (.slice B2 k d2)).frozen? ⟨gx, first, none⟩ = false := by rw [World.frozen?_setCell]; exact HFZ.out.2
      obtain ⟨vv, hc3⟩ : ∃ vv, (w.setCell ⟨gx, led, none⟩ (.slice B2 k d2)).cell? ⟨gx, first, none⟩ = some vv := setCell_some (u := w) (HC2.out) _ _
      have hH4 : (((w.setCell ⟨gx, led, none⟩ (.slice B2 k d2)).setCell ⟨gx, first, none⟩ (.slice B1 k d1)).drew).cell? ⟨p1, 0, none⟩ = some (.int .i64 (first : Int)) ∧ (((w.setCell ⟨gx, led, none⟩ (.slice B2 k d2)).setCell ⟨gx, first, none⟩ (.slice B1 k d1)).drew).cell? ⟨p2, 0, none⟩ = some (.int .i64 (led : Int)) := ⟨(World.cell?_of_block (w := (w.setCell ⟨gx, led, none⟩ (.slice B2 k d2))) (Below.heap_setCell _ _ _ _ (by exact HN.out.1))).trans ((World.cell?_of_block (w := w) (Below.heap_setCell _ _ _ _ (by exact HN.out.1))).trans HS.out.1), (World.cell?_of_block (w := (w.setCell ⟨gx, led, none⟩ (.slice B2 k d2))) (Below.heap_setCell _ _ _ _ (by exact HN.out.2.1))).trans ((World.cell?_of_block (w := w) (Below.heap_setCell _ _ _ _ (by exact HN.out.2.1))).trans HS.out.2)⟩
      refine wpAnyH_ready (rs := [15]) (by kernel_rfl) (by simp) (AllReadyH.cons (o := ⟨none, _, _, _, _, _⟩) rfl (fun K hK => ?_) AllReadyH.nil)
      go_simp
      refine hK.out _ _ (hH4) (fun hHeld => ?_)
      clear hK K
      try simp only [Act.put, List.setIfInBounds_toArray, List.set_cons_zero, List.set_cons_succ]
      refine wpAnyH_done (by kernel_rfl) ?_ _
      go_wp2_with fail
      go_meet
      case rel => exact swap_end HM.out HO.out.1 HO.out.2
  case rest =>
    obtain ⟨HM1, HB1⟩ := hcut
    have hb := HB1.out
    have hx1 := HB.out.1.but hb (by simp; exact HN.out.1)
    have hx2 := HB.out.2.1.but hb (by simp; exact HN.out.2.1)
    have hx3 := HB.out.2.2.1.but hb (by simp; exact HN.out.2.2.1)
    have hx4 := HB.out.2.2.2.but hb (by simp; exact HN.out.2.2.2)
    have HF1 := Lib.hid (HF.out.but hb (by simp; exact HFA.out))
    obtain ⟨g1, B1, d1, r1, e1, _, hgl, hfz, hr1, hc1, ho1⟩ := HM1.out.row hl
    injection e1 with e1
    injection e1 with e1 _ _
    subst e1
    rw [tabM_at k _ hl] at hr1
    injection hr1 with hr1
    rw [← hr1, rowL_len] at hc1 ho1
    have HX := Lib.hid (And.intro hx2.cell (And.intro hx3.cell hx4.cell))
    have HC1 := Lib.hid hc1
    have HO1 := Lib.hid ho1.rd
    have HFZ1 := Lib.hid (hfz led)
    have hbr1 : br ≤ wc.heap.size := Nat.le_trans hbr hb.size
    clear hb hx1 hx2 hx3 hx4 hfz hr1 hc1 ho1 HF HM HO HS HC2 HFZ HB
    go_step
    refine wp_region_held_drew (S := fun u => u.cell? ⟨p2, 0, none⟩ = some (.int .i64 (led : Int)) ∧ u.cell? ⟨p3, 0, none⟩ = some (.pointer (some ⟨g, 0, none⟩)) ∧ u.cell? ⟨p4, 0, none⟩ = some (.int .u8 (iv : Int))) (by kernel_rfl) (by exact HX.out) (fun hHeld => ?_)
    refine wpAnyH_take (i := 0) (oi := ⟨some 20, _, _, _, _, _⟩) (v := ?_) rfl (by kernel_rfl) (by kernel_rfl) (by kernel_rfl) (fun _ _ _ h => h) (Or.inl ⟨by rfl, ?_⟩) (by assumption) ?_
    rotate_left
    · intro w hSw
      obtain ⟨s1, s2, s3⟩ := hSw
      go_simp
      all_goals (with_reducible rfl)
    try simp only [Act.put, List.setIfInBounds_toArray, List.set_cons_zero, List.set_cons_succ]
    refine wpAnyH_take (i := 1) (oi := ⟨some 21, _, _, _, _, _⟩) (v := ?_) rfl (by kernel_rfl) (by kernel_rfl) (by kernel_rfl) (fun _ _ _ h => h) (Or.inl ⟨by rfl, ?_⟩) (by assumption) ?_
    rotate_left
    · intro w hSw
      obtain ⟨s1, s2, s3⟩ := hSw
      go_simp
      all_goals (with_reducible rfl)
    try simp only [Act.put, List.setIfInBounds_toArray, List.set_cons_zero, List.set_cons_succ]
    refine wpAnyH_take (i := 2) (oi := ⟨some 22, _, _, _, _, _⟩) (v := ?_) rfl (by kernel_rfl) (by kernel_rfl) (by kernel_rfl) (fun _ _ _ h => h) (Or.inl ⟨by rfl, ?_⟩) (by assumption) ?_
    rotate_left
    · intro w hSw
      obtain ⟨s1, s2, s3⟩ := hSw
      go_simp
      all_goals (with_reducible rfl)
    try simp only [Act.put, List.setIfInBounds_toArray, List.set_cons_zero, List.set_cons_succ]
    refine wpAnyH_take (i := 3) (oi := ⟨some 23, _, _, _, _, _⟩) (v := ?_) rfl (by kernel_rfl) (by kernel_rfl) (by kernel_rfl) (fun _ _ _ h => h) (Or.inl ⟨by rfl, ?_⟩) (by assumption) ?_
    rotate_left
    · intro w hSw
      obtain ⟨s1, s2, s3⟩ := hSw
      go_simp
      all_goals (with_reducible rfl)
    try simp only [Act.put, List.setIfInBounds_toArray, List.set_cons_zero, List.set_cons_succ]
    refine wpAnyH_take (i := 4) (oi := ⟨some 24, _, _, _, _, _⟩) (v := ?_) rfl (by kernel_rfl) (by kernel_rfl) (by kernel_rfl) (fun _ _ _ h => h) (Or.inl ⟨by rfl, ?_⟩) (by assumption) ?_
    rotate_left
    · intro w hSw
      obtain ⟨s1, s2, s3⟩ := hSw
      go_simp
      all_goals (with_reducible rfl)
    try simp only [Act.put, List.setIfInBounds_toArray, List.set_cons_zero, List.set_cons_succ]
    refine wpAnyH_take (i := 5) (oi := ⟨some 25, _, _, _, _, _⟩) (v := ?_) rfl (by kernel_rfl) (by kernel_rfl) (by kernel_rfl) (fun _ _ _ h => h) (Or.inl ⟨by rfl, ?_⟩) (by assumption) ?_
    rotate_left
    · intro w hSw
      obtain ⟨s1, s2, s3⟩ := hSw
      go_simp
      all_goals (with_reducible rfl)
    try simp only [Act.put, List.setIfInBounds_toArray, List.set_cons_zero, List.set_cons_succ]
    refine wpAnyH_take (i := 9) (oi := ⟨some 29, _, _, _, _, _⟩) (v := ?_) rfl (by kernel_rfl) (by kernel_rfl) (by kernel_rfl) (fun _ _ _ h => h) (Or.inl ⟨by rfl, ?_⟩) (by assumption) ?_
    rotate_left
    · intro w hSw
      obtain ⟨s1, s2, s3⟩ := hSw
      go_simp
      all_goals (with_reducible rfl)
    try simp only [Act.put, List.setIfInBounds_toArray, List.set_cons_zero, List.set_cons_succ]
    refine wpAnyH_take (i := 10) (oi := ⟨some 30, _, _, _, _, _⟩) (v := ?_) rfl (by kernel_rfl) (by kernel_rfl) (by kernel_rfl) (fun _ _ _ h => h) (Or.inl ⟨by rfl, ?_⟩) (by assumption) ?_
    rotate_left
    · intro w hSw
      obtain ⟨s1, s2, s3⟩ := hSw
      go_simp
      all_goals (with_reducible rfl)
    try simp only [Act.put, List.setIfInBounds_toArray, List.set_cons_zero, List.set_cons_succ]
    refine wpAnyH_take (i := 11) (oi := ⟨some 31, _, _, _, _, _⟩) (v := ?_) rfl (by kernel_rfl) (by kernel_rfl) (by kernel_rfl) (fun _ _ _ h => h) (Or.inl ⟨by rfl, ?_⟩) (by assumption) ?_
    rotate_left
    · intro w hSw
      obtain ⟨s1, s2, s3⟩ := hSw
      go_simp
      all_goals (with_reducible rfl)
    try simp only [Act.put, List.setIfInBounds_toArray, List.set_cons_zero, List.set_cons_succ]
    refine wpAnyH_take (i := 12) (oi := ⟨some 32, _, _, _, _, _⟩) (v := ?_) rfl (by kernel_rfl) (by kernel_rfl) (by kernel_rfl) (fun _ _ _ h => h) (Or.inl ⟨by rfl, ?_⟩) (by assumption) ?_
    rotate_left
    · intro w hSw
      obtain ⟨s1, s2, s3⟩ := hSw
      go_simp
      all_goals (with_reducible rfl)
    try simp only [Act.put, List.setIfInBounds_toArray, List.set_cons_zero, List.set_cons_succ]
    have hH := hHeld
    have hc0 : wc.cell? ⟨gx, led, none⟩ = some (.slice B1 k d1) := HC1.out
    have hc1 : wc.drew.cell? ⟨gx, led, none⟩ = some (.slice B1 k d1) := HC1.out
    have hca : (wc.drew.alloc (.cells (rowC k (fun _ => 0)) 5)).cell? ⟨gx, led, none⟩ = some (.slice B1 k d1) := (World.cell?_alloc_lt _ _ _ (by exact hgl)).trans HC1.out
    have hHa : (fun u : World => u.cell? ⟨p2, 0, none⟩ = some (.int .i64 (led : Int)) ∧ u.cell? ⟨p3, 0, none⟩ = some (.pointer (some ⟨g, 0, none⟩)) ∧ u.cell? ⟨p4, 0, none⟩ = some (.int .u8 (iv : Int))) (wc.drew.alloc (.cells (rowC k (fun _ => 0)) 5)) := ⟨(World.cell?_alloc_lt _ _ _ (block_lt_of_cell hH.1)).trans hH.1, (World.cell?_alloc_lt _ _ _ (block_lt_of_cell hH.2.1)).trans hH.2.1, (World.cell?_alloc_lt _ _ _ (block_lt_of_cell hH.2.2)).trans hH.2.2⟩
    refine wpAnyH_ready (rs := [6, 13]) (by kernel_rfl) (by simp) (AllReadyH.cons (o := ⟨some 26, _, _, _, _, _⟩) rfl (fun K hK => ?_) (AllReadyH.cons (o := ⟨some 33, _, _, _, _, _⟩) rfl (fun K hK => ?_) AllReadyH.nil))
    · go_simp
      refine hK.out _ _ (hH) (fun hHeld => ?_)
      clear hK K
      try simp only [Act.put, List.setIfInBounds_toArray, List.set_cons_zero, List.set_cons_succ]
      refine wpAnyH_take (i := 7) (oi := ⟨some 27, _, _, _, _, _⟩) (v := ?_) rfl (by kernel_rfl) (by kernel_rfl) (by kernel_rfl) (fun _ _ _ h => h) (Or.inl ⟨by rfl, ?_⟩) (by assumption) ?_
      rotate_left
      · intro w hSw
        obtain ⟨s1, s2, s3⟩ := hSw
        go_simp
        all_goals (with_reducible rfl)
      try simp only [Act.put, List.setIfInBounds_toArray, List.set_cons_zero, List.set_cons_succ]
      refine wpAnyH_ready (rs := [8, 13]) (by kernel_rfl) (by simp) (AllReadyH.cons (o := ⟨some 28, _, _, _, _, _⟩) rfl (fun K hK => ?_) (AllReadyH.cons (o := ⟨some 33, _, _, _, _, _⟩) rfl (fun K hK => ?_) AllReadyH.nil))
      · go_simp
        refine hK.out _ _ (hHa) (fun hHeld => ?_)
        clear hK K
        try simp only [Act.put, List.setIfInBounds_toArray, List.set_cons_zero, List.set_cons_succ]
        refine wpAnyH_ready (rs := [13]) (by kernel_rfl) (by simp) (AllReadyH.cons (o := ⟨some 33, _, _, _, _, _⟩) rfl (fun K hK => ?_) AllReadyH.nil)
        go_simp
        refine hK.out _ _ (hHa) (fun hHeld => ?_)
        clear hK K
        try simp only [Act.put, List.setIfInBounds_toArray, List.set_cons_zero, List.set_cons_succ]
        refine wpAnyH_ready (rs := [14]) (by kernel_rfl) (by simp) (AllReadyH.cons (o := ⟨some 34, _, _, _, _, _⟩) rfl (fun K hK => ?_) AllReadyH.nil)
        go_simp
        refine (lay_any g (some ⟨wc.heap.size, 0, none⟩) k k (rowL k fun _ => 0) iv B1 k d1 _ _ (HF1.out.drew.alloc _) (by exact (own_new _ (rowL k fun _ => 0) k (rowL_len _ _) (by simp [maxLen]; omega)).rd) (HO1.out.drew.alloc _) ht (by omega)).mono ?_
        rintro e w3 ⟨A3, c3, rfl, ho3, hb3⟩
        refine hK.out _ _ (by exact ⟨(hb3.cell (block_lt_of_cell hHa.1)).trans hHa.1, (hb3.cell (block_lt_of_cell hHa.2.1)).trans hHa.2.1, (hb3.cell (block_lt_of_cell hHa.2.2)).trans hHa.2.2⟩) (fun hHeld => ?_)
        clear hK K
        try simp only [Act.put, List.setIfInBounds_toArray, List.set_cons_zero, List.set_cons_succ]
        refine wpAnyH_take (i := 15) (oi := ⟨some 35, _, _, _, _, _⟩) (v := ?_) rfl (by kernel_rfl) (by kernel_rfl) (by kernel_rfl) (fun _ _ _ h => h) (Or.inl ⟨by rfl, ?_⟩) (by assumption) ?_
        rotate_left
        · intro w hSw
          obtain ⟨s1, s2, s3⟩ := hSw
          go_simp
          all_goals (with_reducible rfl)
        try simp only [Act.put, List.setIfInBounds_toArray, List.set_cons_zero, List.set_cons_succ]
        have hH3 := hHeld
        have hg3 : gx < (wc.drew.alloc (.cells (rowC k (fun _ => 0)) 5)).heap.size := by rw [size_alloc]; exact Nat.lt_succ_of_lt hgl
        have hf3 : w3.frozen? ⟨gx, led, none⟩ = false := (hb3.frozen (p := ⟨gx, led, none⟩) hg3).trans (((Below.refl _ _).alloc (Nat.le_refl _) _).frozen (p := ⟨gx, led, none⟩) (by exact hgl) |>.trans HFZ1.out)
        have hx3 : w3.cell? ⟨gx, led, none⟩ = some (.slice B1 k d1) := (hb3.cell (p := ⟨gx, led, none⟩) hg3).trans hca
        refine wpAnyH_ready (rs := [16]) (by kernel_rfl) (by simp) (AllReadyH.cons (o := ⟨none, _, _, _, _, _⟩) rfl (fun K hK => ?_) AllReadyH.nil)
        go_simp
        refine hK.out _ _ (by exact ⟨(World.cell?_of_block (w := w3) (Below.heap_setCell _ _ _ _ (by exact HN.out.2.1))).trans hH3.1, (World.cell?_of_block (w := w3) (Below.heap_setCell _ _ _ _ (by exact HN.out.2.2.1))).trans hH3.2.1, (World.cell?_of_block (w := w3) (Below.heap_setCell _ _ _ _ (by exact HN.out.2.2.2))).trans hH3.2.2⟩) (fun hHeld => ?_)
        clear hK K
        try simp only [Act.put, List.setIfInBounds_toArray, List.set_cons_zero, List.set_cons_succ]
        refine wpAnyH_done (by kernel_rfl) ?_ _
        go_wp2
        go_end0
        exact did_end (HM1.out.drew.alloc _) (HB1.out.drew.alloc _) ho3 hb3 (by rw [lay_len, rowL_len]) (by rw [size_alloc]; exact Nat.le_succ_of_le hbr1) (tabM_lead n k F led first iv)
      · go_simp
        refine hK.out _ _ (hH) (fun hHeld => ?_)
        clear hK K
        try simp only [Act.put, List.setIfInBounds_toArray, List.set_cons_zero, List.set_cons_succ]
        refine wpAnyH_ready (rs := [8]) (by kernel_rfl) (by simp) (AllReadyH.cons (o := ⟨some 28, _, _, _, _, _⟩) rfl (fun K hK => ?_) AllReadyH.nil)
        go_simp
        refine hK.out _ _ (hHa) (fun hHeld => ?_)
        clear hK K
        try simp only [Act.put, List.setIfInBounds_toArray, List.set_cons_zero, List.set_cons_succ]
        refine wpAnyH_ready (rs := [14]) (by kernel_rfl) (by simp) (AllReadyH.cons (o := ⟨some 34, _, _, _, _, _⟩) rfl (fun K hK => ?_) AllReadyH.nil)
        go_simp
        refine (lay_any g (some ⟨wc.heap.size, 0, none⟩) k k (rowL k fun _ => 0) iv B1 k d1 _ _ (HF1.out.drew.alloc _) (by exact (own_new _ (rowL k fun _ => 0) k (rowL_len _ _) (by simp [maxLen]; omega)).rd) (HO1.out.drew.alloc _) ht (by omega)).mono ?_
        rintro e w3 ⟨A3, c3, rfl, ho3, hb3⟩
        refine hK.out _ _ (by exact ⟨(hb3.cell (block_lt_of_cell hHa.1)).trans hHa.1, (hb3.cell (block_lt_of_cell hHa.2.1)).trans hHa.2.1, (hb3.cell (block_lt_of_cell hHa.2.2)).trans hHa.2.2⟩) (fun hHeld => ?_)
        clear hK K
        try simp only [Act.put, List.setIfInBounds_toArray, List.set_cons_zero, List.set_cons_succ]
        refine wpAnyH_take (i := 15) (oi := ⟨some 35, _, _, _, _, _⟩) (v := ?_) rfl (by kernel_rfl) (by kernel_rfl) (by kernel_rfl) (fun _ _ _ h => h) (Or.inl ⟨by rfl, ?_⟩) (by assumption) ?_
        rotate_left
        · intro w hSw
          obtain ⟨s1, s2, s3⟩ := hSw
          go_simp
          all_goals (with_reducible rfl)
        try simp only [Act.put, List.setIfInBounds_toArray, List.set_cons_zero, List.set_cons_succ]
        have hH3 := hHeld
        have hg3 : gx < (wc.drew.alloc (.cells (rowC k (fun _ => 0)) 5)).heap.size := by rw [size_alloc]; exact Nat.lt_succ_of_lt hgl
        have hf3 : w3.frozen? ⟨gx, led, none⟩ = false := (hb3.frozen (p := ⟨gx, led, none⟩) hg3).trans (((Below.refl _ _).alloc (Nat.le_refl _) _).frozen (p := ⟨gx, led, none⟩) (by exact hgl) |>.trans HFZ1.out)
        have hx3 : w3.cell? ⟨gx, led, none⟩ = some (.slice B1 k d1) := (hb3.cell (p := ⟨gx, led, none⟩) hg3).trans hca
        refine wpAnyH_ready (rs := [16]) (by kernel_rfl) (by simp) (AllReadyH.cons (o := ⟨none, _, _, _, _, _⟩) rfl (fun K hK => ?_) AllReadyH.nil)
        go_simp
        refine hK.out _ _ (by exact ⟨(World.cell?_of_block (w := w3) (Below.heap_setCell _ _ _ _ (by exact HN.out.2.1))).trans hH3.1, (World.cell?_of_block (w := w3) (Below.heap_setCell _ _ _ _ (by exact HN.out.2.2.1))).trans hH3.2.1, (World.cell?_of_block (w := w3) (Below.heap_setCell _ _ _ _ (by exact HN.out.2.2.2))).trans hH3.2.2⟩) (fun hHeld => ?_)
        clear hK K
        try simp only [Act.put, List.setIfInBounds_toArray, List.set_cons_zero, List.set_cons_succ]
        refine wpAnyH_done (by kernel_rfl) ?_ _
        go_wp2
        go_end0
        exact did_end (HM1.out.drew.alloc _) (HB1.out.drew.alloc _) ho3 hb3 (by rw [lay_len, rowL_len]) (by rw [size_alloc]; exact Nat.le_succ_of_le hbr1) (tabM_lead n k F led first iv)
    · go_simp
      refine hK.out _ _ (hH) (fun hHeld => ?_)
      clear hK K
      try simp only [Act.put, List.setIfInBounds_toArray, List.set_cons_zero, List.set_cons_succ]
      refine wpAnyH_ready (rs := [6]) (by kernel_rfl) (by simp) (AllReadyH.cons (o := ⟨some 26, _, _, _, _, _⟩) rfl (fun K hK => ?_) AllReadyH.nil)
      go_simp
      refine hK.out _ _ (hH) (fun hHeld => ?_)
      clear hK K
      try simp only [Act.put, List.setIfInBounds_toArray, List.set_cons_zero, List.set_cons_succ]
      refine wpAnyH_take (i := 7) (oi := ⟨some 27, _, _, _, _, _⟩) (v := ?_) rfl (by kernel_rfl) (by kernel_rfl) (by kernel_rfl) (fun _ _ _ h => h) (Or.inl ⟨by rfl, ?_⟩) (by assumption) ?_
      rotate_left
      · intro w hSw
        obtain ⟨s1, s2, s3⟩ := hSw
        go_simp
        all_goals (with_reducible rfl)
      try simp only [Act.put, List.setIfInBounds_toArray, List.set_cons_zero, List.set_cons_succ]
      refine wpAnyH_ready (rs := [8]) (by kernel_rfl) (by simp) (AllReadyH.cons (o := ⟨some 28, _, _, _, _, _⟩) rfl (fun K hK => ?_) AllReadyH.nil)
      go_simp
      refine hK.out _ _ (hHa) (fun hHeld => ?_)
      clear hK K
      try simp only [Act.put, List.setIfInBounds_toArray, List.set_cons_zero, List.set_cons_succ]
      refine wpAnyH_ready (rs := [14]) (by kernel_rfl) (by simp) (AllReadyH.cons (o := ⟨some 34, _, _, _, _, _⟩) rfl (fun K hK => ?_) AllReadyH.nil)
      go_simp
      refine (lay_any g (some ⟨wc.heap.size, 0, none⟩) k k (rowL k fun _ => 0) iv B1 k d1 _ _ (HF1.out.drew.alloc _) (by exact (own_new _ (rowL k fun _ => 0) k (rowL_len _ _) (by simp [maxLen]; omega)).rd) (HO1.out.drew.alloc _) ht (by omega)).mono ?_
      rintro e w3 ⟨A3, c3, rfl, ho3, hb3⟩
      refine hK.out _ _ (by exact ⟨(hb3.cell (block_lt_of_cell hHa.1)).trans hHa.1, (hb3.cell (block_lt_of_cell hHa.2.1)).trans hHa.2.1, (hb3.cell (block_lt_of_cell hHa.2.2)).trans hHa.2.2⟩) (fun hHeld => ?_)
      clear hK K
      try simp only [Act.put, List.setIfInBounds_toArray, List.set_cons_zero, List.set_cons_succ]
      refine wpAnyH_take (i := 15) (oi := ⟨some 35, _, _, _, _, _⟩) (v := ?_) rfl (by kernel_rfl) (by kernel_rfl) (by kernel_rfl) (fun _ _ _ h => h) (Or.inl ⟨by rfl, ?_⟩) (by assumption) ?_
      rotate_left
      · intro w hSw
        obtain ⟨s1, s2, s3⟩ := hSw
        go_simp
        all_goals (with_reducible rfl)
      try simp only [Act.put, List.setIfInBounds_toArray, List.set_cons_zero, List.set_cons_succ]
      have hH3 := hHeld
      have hg3 : gx < (wc.drew.alloc (.cells (rowC k (fun _ => 0)) 5)).heap.size := by rw [size_alloc]; exact Nat.lt_succ_of_lt hgl
      have hf3 : w3.frozen? ⟨gx, led, none⟩ = false := (hb3.frozen (p := ⟨gx, led, none⟩) hg3).trans (((Below.refl _ _).alloc (Nat.le_refl _) _).frozen (p := ⟨gx, led, none⟩) (by exact hgl) |>.trans HFZ1.out)
      have hx3 : w3.cell? ⟨gx, led, none⟩ = some (.slice B1 k d1) := (hb3.cell (p := ⟨gx, led, none⟩) hg3).trans hca
      refine wpAnyH_ready (rs := [16]) (by kernel_rfl) (by simp) (AllReadyH.cons (o := ⟨none, _, _, _, _, _⟩) rfl (fun K hK => ?_) AllReadyH.nil)
      go_simp
      refine hK.out _ _ (by exact ⟨(World.cell?_of_block (w := w3) (Below.heap_setCell _ _ _ _ (by exact HN.out.2.1))).trans hH3.1, (World.cell?_of_block (w := w3) (Below.heap_setCell _ _ _ _ (by exact HN.out.2.2.1))).trans hH3.2.1, (World.cell?_of_block (w := w3) (Below.heap_setCell _ _ _ _ (by exact HN.out.2.2.2))).trans hH3.2.2⟩) (fun hHeld => ?_)
      clear hK K
      try simp only [Act.put, List.setIfInBounds_toArray, List.set_cons_zero, List.set_cons_succ]
      refine wpAnyH_done (by kernel_rfl) ?_ _
      go_wp2
      go_end0
      exact did_end (HM1.out.drew.alloc _) (HB1.out.drew.alloc _) ho3 hb3 (by rw [lay_len, rowL_len]) (by rw [size_alloc]; exact Nat.le_succ_of_le hbr1) (tabM_lead n k F led first iv)
end Go.Proofs.Ytkkpfehgobanbaa
