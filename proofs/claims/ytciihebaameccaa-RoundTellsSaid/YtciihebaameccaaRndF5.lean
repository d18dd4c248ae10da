/- marked at a phase. -/
import Derived.Test.YtciihebaameccaaRndF
namespace Go.Proofs.Ytciihebaameccaa
open Go.RowKit Go.Coop
set_option maxRecDepth 100000
section
variable (w : World)
set_option maxHeartbeats 8000000 in
theorem marked_5 (s v need ph : Int) (hp5 : ph = 5) {A : Option Addr} {n c : Nat} {ms : List Int} (h : RdV w A n (ms.map IV)) (hn : n ≤ 1000000) {i : Nat} (hi : i < n) (m : Int) (hneed : 1 ≤ need ∧ need ≤ n) : Calls Try.prog 41 #[.agg #[.int .i64 s, .int .i64 v, .int .i64 need, .int .i64 ph, .slice A n c], .int .i64 (i : Int), .int .i64 m] w (OneM w (Rn.marked ⟨s, v, need, ph, ms⟩ i m)) := by
  have HHhp5 := Lib.hid hp5
  clear hp5
  have hln : ms.length = n := by simpa using h.len
  obtain ⟨w1, hw1⟩ : ∃ z, w.alloc (.cells #[.int .i64 s, .int .i64 v, .int .i64 need, .int .i64 ph, .slice A n c] 26) = z := ⟨_, rfl⟩
  obtain ⟨w2, hw2⟩ : ∃ z, w1.alloc (.cells #[.int .i64 0, .int .i64 0, .int .i64 0, .int .i64 0, .slice none 0 0] 26) = z := ⟨_, rfl⟩
  obtain ⟨hb1, hx1⟩ := box_new hw1
  obtain ⟨hb2, hx2⟩ := box_new hw2
  obtain ⟨b, hb⟩ : ∃ b, w.heap.size = b := ⟨_, rfl⟩
  obtain ⟨b2, hbb⟩ : ∃ b, w1.heap.size = b := ⟨_, rfl⟩
  have hlt : b < b2 := by rw [← hb, ← hbb]; exact lt_of_block hx1
  have hx12 := (hb2.block _ (lt_of_block hx1)).trans hx1
  rw [hb] at hx12
  rw [hbb] at hx2
  have hB2 := hb1.trans (hb2.mono hb1.size)
  have hR := h.below hB2 (Nat.le_refl _)
  have hne : b2 ≠ b := by omega
  have hne' : b ≠ b2 := by omega
  obtain ⟨⟨m0, m1, m2, m3, m4⟩, hbl⟩ := five26 hx12
  have HE := Lib.hid (And.intro hR (And.intro hB2 (And.intro hx12 (And.intro hx2 (And.intro hb hlt)))))
  clear h hR hB2 hx12 hx2 hlt hx1 hb1 hb2 hbl
  go_enter Try.func41, Try.ntmps41
  go_wp2_with fail
  (try rw [hw1]); (try rw [hw2]); (try rw [hb]); (try rw [hbb])
  clear hw1 hw2 hb hbb
  refine (alone_is _ s v need ph HE.out.1 hn).mono ?_
  rintro e w3 ⟨A3, c3, rfl, ho3, hb3⟩
  skip
  have hx13 := (hb3.block _ (lt_of_block HE.out.2.2.1)).trans HE.out.2.2.1
  have hx23 := (hb3.block _ (lt_of_block HE.out.2.2.2.1)).trans HE.out.2.2.2.1
  obtain ⟨⟨n0, n1, n2, n3, n4⟩, nbl⟩ := five26 hx13
  obtain ⟨g0, g1, g2, g3, g4⟩ := thaw5 hx13
  simp only [hln, RVal] at ho3 ⊢
  obtain ⟨w4, hw4⟩ : ∃ z, ((((w3.setCell ⟨b, 0, none⟩ (.int .i64 s)).setCell ⟨b, 1, none⟩ (.int .i64 v)).setCell ⟨b, 2, none⟩ (.int .i64 need)).setCell ⟨b, 3, none⟩ (.int .i64 ph)).setCell ⟨b, 4, none⟩ (.slice A3 n c3) = z := ⟨_, rfl⟩
  have hx14 : w4.heap[b]? = some (.cells #[.int .i64 s, .int .i64 v, .int .i64 need, .int .i64 ph, .slice A3 n c3] 26 (0, 0)) := hw4 ▸ row5 hx13
  have hbt4 : But [b] w3 w4 := hw4 ▸ (((((But.refl _ _).setCell (by simp) _).setCell (by simp) _).setCell (by simp) _).setCell (by simp) _).setCell (by simp) _
  have hx24 := hbt4.cells hx23 (by simpa using hne)
  have hlb := lt_of_block HE.out.2.2.1
  have hlb2 := lt_of_block HE.out.2.2.2.1
  have hAb : ∀ j, A3.map (·.block) = some j → j ≠ b ∧ j ≠ b2 := fun j hj => by have := (ho3.block j hj).1; omega
  have ho4 : OwnV w4 w2.heap.size 3 A3 n c3 (ms.map IV) := ho3.but hbt4 (fun j hj hm => (hAb j hj).1 (by simpa using hm))
  obtain ⟨ad, hA3, hadl, hxc⟩ := ho4.rd.cells (by omega)
  have hadz : ad = ⟨ad.block, 0, none⟩ := by
    rcases ho4.row.2 with ⟨hv, h0⟩ | ⟨g', cap, cur, hv, _⟩
    · omega
    · injection hv with hv _ _
      rw [hA3] at hv
      injection hv with hv
      rw [hv]
  obtain ⟨x3, hx3⟩ : ∃ x, ad.block = x := ⟨_, rfl⟩
  rw [hx3] at hadz
  subst hadz
  subst hA3
  obtain ⟨y, hy⟩ : ∃ y, ms[i]? = some y := ⟨_, List.getElem?_eq_getElem (by omega)⟩
  have e0 := hxc i (IV y) (by rw [List.getElem?_map, hy]; rfl)
  rw [addr_at, Nat.zero_add] at e0
  obtain ⟨cur, hcur⟩ := ho4.typ (j := x3) rfl
  have efz : w4.frozen? ⟨x3, i, none⟩ = false := frozen_of_row w4 x3 i _ 3 hcur
  obtain ⟨w5, hw5⟩ : ∃ z, w4.setCell ⟨x3, i, none⟩ (.int .i64 m) = z := ⟨_, rfl⟩
  obtain ⟨L, hL⟩ : ∃ L, ms.set i m = L := ⟨_, rfl⟩
  have hLn : L.length = n := by rw [← hL, List.length_set]; exact hln
  have hbt5 : But [x3] w4 w5 := hw5 ▸ (But.refl _ _).setCell (by simp) _
  have hr5 : RdV w5 (some ⟨x3, 0, none⟩) n (L.map IV) := by
    have := (ho4.set (g := x3) (k := i) rfl (.int .i64 m)).rd
    rw [hw5, show (ms.map IV).set i (.int .i64 m) = L.map IV by rw [← hL, List.map_set]] at this
    exact this
  have hx15 := hbt5.cells hx14 (by simp; exact Ne.symm (hAb x3 rfl).1)
  have hx25 := hbt5.cells hx24 (by simp; exact Ne.symm (hAb x3 rfl).2)
  have HB5 : Hid (Below w.heap.size w w5) := by
    show Below _ _ _
    have h1 := HE.out.2.1.size
    have h2 := hb3.size
    have h3 := hbt4.size
    have h4 := (ho3.block x3 rfl).1
    exact ((HE.out.2.1.trans (hb3.mono h1)).trans (hbt4.below (B := w.heap.size) (by omega) (by intro g hg; simp at hg; have := HE.out.2.2.2.2.1; omega))).trans (hbt5.below (B := w.heap.size) (by omega) (by intro g hg; simp at hg; omega))
  have HX3 : Hid (w.heap.size ≤ x3) := by
    show _ ≤ _
    have h1 := (ho3.block x3 rfl).1
    have h2 := HE.out.2.1.size
    omega
  have HX5 := Lib.hid hx15
  have HX52 := Lib.hid hx25
  have HR5 := Lib.hid hr5
  have HAb := Lib.hid hAb
  obtain ⟨⟨p0, p1, p2, p3, p4⟩, pbl⟩ := five26 hx14
  have hxb := (hAb x3 rfl).1
  have hxb2 := (hAb x3 rfl).2
  have hxb' := hxb.symm
  have hxb2' := hxb2.symm
  have hi1 : (0 : Int) ≤ (i : Int) := by omega
  have hi2 : (i : Int) < (n : Int) := by omega
  have HY := Lib.hid hneed
  have HLn := Lib.hid hLn
  have HL := Lib.hid hL
  clear ho3 hb3 hx13 hx23 hbt4 hx24 hx14 hx15 hx25 hbt5 hr5 hAb ho4 hxc hcur hadl hlb hlb2 m0 m1 m2 m3 m4 hx3 hLn hL hneed hi
  go_wp2
  (try rw [hw4]); (try rw [hw5])
  clear hw4 hw5 n0 n1 n2 n3 n4 nbl g0 g1 g2 g3 g4 p0 p1 p2 p3 p4 pbl e0 efz hxb hxb' hxb2 hxb2' hi1 hi2
  obtain ⟨⟨m0_w5, m1_w5, m2_w5, m3_w5, m4_w5⟩, hbl_w5⟩ := five26 HX5.out
  refine wp_region_held_drew (S := fun z => Below w5.heap.size w5 z) (by kernel_rfl) ((Below.refl _ _).drew) (fun hHeld => ?_)
  refine wpAnyH_take (i := 0) (oi := ⟨some 16, _, _, _, _, _⟩) (v := ?_) rfl (by kernel_rfl) (by kernel_rfl) (by kernel_rfl) (fun _ _ _ h => h) (Or.inl ⟨by rfl, ?_⟩) (by assumption) ?_
  rotate_left
  · intro w hSw
    (try dsimp only at hSw)
    go_simp
    all_goals (with_reducible rfl)
  try simp only [Act.put, List.setIfInBounds_toArray, List.set_cons_zero, List.set_cons_succ]
  refine wpAnyH_take (i := 1) (oi := ⟨some 17, _, _, _, _, _⟩) (v := ?_) rfl (by kernel_rfl) (by kernel_rfl) (by kernel_rfl) (fun _ _ _ h => h) (Or.inl ⟨by rfl, ?_⟩) (by assumption) ?_
  rotate_left
  · intro w hSw
    have kk := (hSw.cell (p := ⟨b, 4, none⟩) hbl_w5).trans m4_w5
    clear hSw
    go_simp
    all_goals (with_reducible rfl)
  try simp only [Act.put, List.setIfInBounds_toArray, List.set_cons_zero, List.set_cons_succ]
  refine wpAnyH_take (i := 2) (oi := ⟨some 18, _, _, _, _, _⟩) (v := ?_) rfl (by kernel_rfl) (by kernel_rfl) (by kernel_rfl) (fun _ _ _ h => h) (Or.inl ⟨by rfl, ?_⟩) (by assumption) ?_
  rotate_left
  · intro w hSw
    (try dsimp only at hSw)
    go_simp
    all_goals (with_reducible rfl)
  try simp only [Act.put, List.setIfInBounds_toArray, List.set_cons_zero, List.set_cons_succ]
  refine wpAnyH_take (i := 3) (oi := ⟨some 19, _, _, _, _, _⟩) (v := ?_) rfl (by kernel_rfl) (by kernel_rfl) (by kernel_rfl) (fun _ _ _ h => h) (Or.inl ⟨by rfl, ?_⟩) (by assumption) ?_
  rotate_left
  · intro w hSw
    (try dsimp only at hSw)
    go_simp
    all_goals (with_reducible rfl)
  try simp only [Act.put, List.setIfInBounds_toArray, List.set_cons_zero, List.set_cons_succ]
  refine wpAnyH_take (i := 4) (oi := ⟨some 20, _, _, _, _, _⟩) (v := ?_) rfl (by kernel_rfl) (by kernel_rfl) (by kernel_rfl) (fun _ _ _ h => h) (Or.inl ⟨by rfl, ?_⟩) (by assumption) ?_
  rotate_left
  · intro w hSw
    have kk := (hSw.cell (p := ⟨b, 4, none⟩) hbl_w5).trans m4_w5
    clear hSw
    go_simp
    all_goals (with_reducible rfl)
  try simp only [Act.put, List.setIfInBounds_toArray, List.set_cons_zero, List.set_cons_succ]
  refine wpAnyH_ready (rs := [5]) (by kernel_rfl) (by simp) (AllReadyH.cons (o := ⟨some 21, _, _, _, _, _⟩) rfl (fun K hK => ?_) AllReadyH.nil)
  go_simp
  refine (counter_is _ (some ⟨x3, 0, none⟩) n c3).mono ?_
  rintro e w6 ⟨rfl, hw6⟩
  have HB_w6 : Hid (Below w5.heap.size w5 w6) := by show Below _ _ _; rw [hw6]; exact (Below.refl w5.heap.size w5).drew.alloc (Nat.le_refl _) _
  obtain ⟨g, hg⟩ : ∃ g, w5.drew.heap.size = g := ⟨_, rfl⟩
  have HR_w6 : Hid (RB w6 b g s v need ph (some ⟨x3, 0, none⟩) n c3 L) := by refine ⟨(HB_w6.out.block _ (lt_of_block HX5.out)).trans HX5.out, ?_, HR5.out.below HB_w6.out (Nat.le_refl _)⟩; rw [← hg, hw6]; exact heap_alloc_new _ _
  rw [hg]
  clear hw6 hg
  refine hK.out _ _ (HB_w6.out) (fun hHeld => ?_)
  clear hK K
  try simp only [Act.put, List.setIfInBounds_toArray, List.set_cons_zero, List.set_cons_succ]
  refine wpAnyH_take (i := 6) (oi := ⟨some 7, _, _, _, _, _⟩) (v := ?_) rfl (by kernel_rfl) (by kernel_rfl) (by kernel_rfl) (fun _ _ _ h => h) (Or.inl ⟨by rfl, ?_⟩) (by assumption) ?_
  rotate_left
  · intro w hSw
    (try dsimp only at hSw)
    go_simp
    all_goals (with_reducible rfl)
  try simp only [Act.put, List.setIfInBounds_toArray, List.set_cons_zero, List.set_cons_succ]
  refine wpAnyH_take (i := 7) (oi := ⟨some 8, _, _, _, _, _⟩) (v := ?_) rfl (by kernel_rfl) (by kernel_rfl) (by kernel_rfl) (fun _ _ _ h => h) (Or.inl ⟨by rfl, ?_⟩) (by assumption) ?_
  rotate_left
  · intro w hSw
    (try dsimp only at hSw)
    go_simp
    all_goals (with_reducible rfl)
  try simp only [Act.put, List.setIfInBounds_toArray, List.set_cons_zero, List.set_cons_succ]
  refine wpAnyH_done (by kernel_rfl) ?_ _
  clear m0_w5 m1_w5 m2_w5 m3_w5 m4_w5 hbl_w5
  obtain ⟨d1, e1⟩ : ∃ k, cnt 1 L = k := ⟨_, rfl⟩
  obtain ⟨d2, e2⟩ : ∃ k, cnt 2 L = k := ⟨_, rfl⟩
  obtain ⟨d3, e3⟩ : ∃ k, cnt 3 L = k := ⟨_, rfl⟩
  obtain ⟨d4, e4⟩ : ∃ k, cnt 4 L = k := ⟨_, rfl⟩
  have E_1 : Hid (cntIn [1] L = d1) := (cntIn_one 1 L).trans e1
  have E_2 : Hid (cntIn [2] L = d2) := (cntIn_one 2 L).trans e2
  have E_3 : Hid (cntIn [3] L = d3) := (cntIn_one 3 L).trans e3
  have E_4 : Hid (cntIn [4] L = d4) := (cntIn_one 4 L).trans e4
  have HP : Hid (Rn.marked ⟨s, v, need, ph, ms⟩ i m = ⟨s, v, need, phaseN n need ph d1 d2 d3 d4, L⟩) := by
    show _ = _
    unfold Rn.marked phaseR phaseN
    simp only [HL.out, e1, e2, e3, e4, HLn.out]
  clear e1 e2 e3 e4
  have hp5 := HHhp5.out
  subst hp5
  by_cases h1 : d4 = (n : Int)
  · subst h1
    have HY1 := HY.out
    have hph : Hid (phaseN n need 5 d1 d2 d3 n = 6) := by show _ = _; unfold phaseN; (repeat' split) <;> omega
    clear HY1
    go_wp2
    obtain ⟨x75, h_x75⟩ : ∃ z, w6.drew = z := ⟨_, rfl⟩
    have hbd : Below w6.heap.size w6 x75 := h_x75 ▸ (Below.refl _ _).drew
    have HR_x75 := Lib.hid (HR_w6.out.below hbd (Nat.le_refl _))
    have HB_x75 : Hid (Below w5.heap.size w5 x75) := HB_w6.out.trans (hbd.mono HB_w6.out.size)
    have HS_x75 : Hid (Below x75.heap.size x75 x75) := Below.refl _ _
    clear hbd
    obtain ⟨⟨m0, m1, m2, m3, m4⟩, hbl⟩ := HR_x75.out.five
    refine wp_region_held_drew (S := fun z => Below x75.heap.size x75 z) (by kernel_rfl) (by show Below _ _ _; rw [h_x75]; exact Below.refl _ _) (fun hHeld => ?_)
    rw [h_x75]
    clear h_x75
    refine wpAnyH_take (i := 0) (oi := ⟨some 23, _, _, _, _, _⟩) (v := ?_) rfl (by kernel_rfl) (by kernel_rfl) (by kernel_rfl) (fun _ _ _ h => h) (Or.inl ⟨by rfl, ?_⟩) (by assumption) ?_
    rotate_left
    · intro w hSw
      (try dsimp only at hSw)
      go_simp
      all_goals (with_reducible rfl)
    try simp only [Act.put, List.setIfInBounds_toArray, List.set_cons_zero, List.set_cons_succ]
    refine wpAnyH_take (i := 1) (oi := ⟨some 24, _, _, _, _, _⟩) (v := ?_) rfl (by kernel_rfl) (by kernel_rfl) (by kernel_rfl) (fun _ _ _ h => h) (Or.inl ⟨by rfl, ?_⟩) (by assumption) ?_
    rotate_left
    · intro w hSw
      have kk := (hSw.cell (p := ⟨b, 3, none⟩) hbl).trans m3
      clear hSw
      go_simp
      all_goals (with_reducible rfl)
    try simp only [Act.put, List.setIfInBounds_toArray, List.set_cons_zero, List.set_cons_succ]
    refine wpAnyH_take (i := 2) (oi := ⟨some 25, _, _, _, _, _⟩) (v := ?_) rfl (by kernel_rfl) (by kernel_rfl) (by kernel_rfl) (fun _ _ _ h => h) (Or.inl ⟨by rfl, ?_⟩) (by assumption) ?_
    rotate_left
    · intro w hSw
      (try dsimp only at hSw)
      go_simp
      all_goals (with_reducible rfl)
    try simp only [Act.put, List.setIfInBounds_toArray, List.set_cons_zero, List.set_cons_succ]
    refine wpAnyH_take (i := 3) (oi := ⟨some 26, _, _, _, _, _⟩) (v := ?_) rfl (by kernel_rfl) (by kernel_rfl) (by kernel_rfl) (fun _ _ _ h => h) (Or.inl ⟨by rfl, ?_⟩) (by assumption) ?_
    rotate_left
    · intro w hSw
      (try dsimp only at hSw)
      go_simp
      all_goals (with_reducible rfl)
    try simp only [Act.put, List.setIfInBounds_toArray, List.set_cons_zero, List.set_cons_succ]
    refine wpAnyH_take (i := 4) (oi := ⟨some 27, _, _, _, _, _⟩) (v := undef) rfl (by kernel_rfl) (by kernel_rfl) (by kernel_rfl) (fun _ _ _ h => h) (Or.inr ⟨by rfl, rfl⟩) (by assumption) ?_
    try simp only [Act.put, List.setIfInBounds_toArray, List.set_cons_zero, List.set_cons_succ]
    refine wpAnyH_take (i := 5) (oi := ⟨some 28, _, _, _, _, _⟩) (v := undef) rfl (by kernel_rfl) (by kernel_rfl) (by kernel_rfl) (fun _ _ _ h => h) (Or.inr ⟨by rfl, rfl⟩) (by assumption) ?_
    try simp only [Act.put, List.setIfInBounds_toArray, List.set_cons_zero, List.set_cons_succ]
    refine wpAnyH_take (i := 6) (oi := ⟨some 29, _, _, _, _, _⟩) (v := undef) rfl (by kernel_rfl) (by kernel_rfl) (by kernel_rfl) (fun _ _ _ h => h) (Or.inr ⟨by rfl, rfl⟩) (by assumption) ?_
    try simp only [Act.put, List.setIfInBounds_toArray, List.set_cons_zero, List.set_cons_succ]
    refine wpAnyH_take (i := 7) (oi := ⟨some 30, _, _, _, _, _⟩) (v := undef) rfl (by kernel_rfl) (by kernel_rfl) (by kernel_rfl) (fun _ _ _ h => h) (Or.inr ⟨by rfl, rfl⟩) (by assumption) ?_
    try simp only [Act.put, List.setIfInBounds_toArray, List.set_cons_zero, List.set_cons_succ]
    refine wpAnyH_take (i := 8) (oi := ⟨some 31, _, _, _, _, _⟩) (v := undef) rfl (by kernel_rfl) (by kernel_rfl) (by kernel_rfl) (fun _ _ _ h => h) (Or.inr ⟨by rfl, rfl⟩) (by assumption) ?_
    try simp only [Act.put, List.setIfInBounds_toArray, List.set_cons_zero, List.set_cons_succ]
    refine wpAnyH_take (i := 9) (oi := ⟨some 32, _, _, _, _, _⟩) (v := undef) rfl (by kernel_rfl) (by kernel_rfl) (by kernel_rfl) (fun _ _ _ h => h) (Or.inr ⟨by rfl, rfl⟩) (by assumption) ?_
    try simp only [Act.put, List.setIfInBounds_toArray, List.set_cons_zero, List.set_cons_succ]
    refine wpAnyH_take (i := 10) (oi := ⟨some 33, _, _, _, _, _⟩) (v := ?_) rfl (by kernel_rfl) (by kernel_rfl) (by kernel_rfl) (fun _ _ _ h => h) (Or.inl ⟨by rfl, ?_⟩) (by assumption) ?_
    rotate_left
    · intro w hSw
      (try dsimp only at hSw)
      go_simp
      all_goals (with_reducible rfl)
    try simp only [Act.put, List.setIfInBounds_toArray, List.set_cons_zero, List.set_cons_succ]
    refine wpAnyH_take (i := 11) (oi := ⟨some 22, _, _, _, _, _⟩) (v := ?_) rfl (by kernel_rfl) (by kernel_rfl) (by kernel_rfl) (fun _ _ _ h => h) (Or.inl ⟨by rfl, ?_⟩) (by assumption) ?_
    rotate_left
    · intro w hSw
      (try dsimp only at hSw)
      go_simp
      all_goals (with_reducible rfl)
    try simp only [Act.put, List.setIfInBounds_toArray, List.set_cons_zero, List.set_cons_succ]
    refine wpAnyH_done (by kernel_rfl) ?_ _
    clear m0 m1 m2 m3 m4 hbl
    go_wp2
    obtain ⟨x76, h_x76⟩ : ∃ z, x75.drew = z := ⟨_, rfl⟩
    have hbd : Below x75.heap.size x75 x76 := h_x76 ▸ (Below.refl _ _).drew
    have HR_x76 := Lib.hid (HR_x75.out.below hbd (Nat.le_refl _))
    have HB_x76 : Hid (Below w5.heap.size w5 x76) := HB_x75.out.trans (hbd.mono HB_x75.out.size)
    have HS_x76 : Hid (Below x76.heap.size x76 x76) := Below.refl _ _
    clear hbd
    obtain ⟨⟨m0, m1, m2, m3, m4⟩, hbl⟩ := HR_x76.out.five
    refine wp_region_held_drew (S := fun z => Below x76.heap.size x76 z) (by kernel_rfl) (by show Below _ _ _; rw [h_x76]; exact Below.refl _ _) (fun hHeld => ?_)
    rw [h_x76]
    clear h_x76
    refine wpAnyH_take (i := 0) (oi := ⟨some 36, _, _, _, _, _⟩) (v := ?_) rfl (by kernel_rfl) (by kernel_rfl) (by kernel_rfl) (fun _ _ _ h => h) (Or.inl ⟨by rfl, ?_⟩) (by assumption) ?_
    rotate_left
    · intro w hSw
      (try dsimp only at hSw)
      go_simp
      all_goals (with_reducible rfl)
    try simp only [Act.put, List.setIfInBounds_toArray, List.set_cons_zero, List.set_cons_succ]
    refine wpAnyH_take (i := 1) (oi := ⟨some 37, _, _, _, _, _⟩) (v := ?_) rfl (by kernel_rfl) (by kernel_rfl) (by kernel_rfl) (fun _ _ _ h => h) (Or.inl ⟨by rfl, ?_⟩) (by assumption) ?_
    rotate_left
    · intro w hSw
      have kk := (hSw.cell (p := ⟨b, 3, none⟩) hbl).trans m3
      clear hSw
      go_simp
      all_goals (with_reducible rfl)
    try simp only [Act.put, List.setIfInBounds_toArray, List.set_cons_zero, List.set_cons_succ]
    refine wpAnyH_take (i := 2) (oi := ⟨some 38, _, _, _, _, _⟩) (v := ?_) rfl (by kernel_rfl) (by kernel_rfl) (by kernel_rfl) (fun _ _ _ h => h) (Or.inl ⟨by rfl, ?_⟩) (by assumption) ?_
    rotate_left
    · intro w hSw
      (try dsimp only at hSw)
      go_simp
      all_goals (with_reducible rfl)
    try simp only [Act.put, List.setIfInBounds_toArray, List.set_cons_zero, List.set_cons_succ]
    refine wpAnyH_take (i := 3) (oi := ⟨some 39, _, _, _, _, _⟩) (v := ?_) rfl (by kernel_rfl) (by kernel_rfl) (by kernel_rfl) (fun _ _ _ h => h) (Or.inl ⟨by rfl, ?_⟩) (by assumption) ?_
    rotate_left
    · intro w hSw
      (try dsimp only at hSw)
      go_simp
      all_goals (with_reducible rfl)
    try simp only [Act.put, List.setIfInBounds_toArray, List.set_cons_zero, List.set_cons_succ]
    refine wpAnyH_take (i := 4) (oi := ⟨some 40, _, _, _, _, _⟩) (v := undef) rfl (by kernel_rfl) (by kernel_rfl) (by kernel_rfl) (fun _ _ _ h => h) (Or.inr ⟨by rfl, rfl⟩) (by assumption) ?_
    try simp only [Act.put, List.setIfInBounds_toArray, List.set_cons_zero, List.set_cons_succ]
    refine wpAnyH_take (i := 5) (oi := ⟨some 41, _, _, _, _, _⟩) (v := undef) rfl (by kernel_rfl) (by kernel_rfl) (by kernel_rfl) (fun _ _ _ h => h) (Or.inr ⟨by rfl, rfl⟩) (by assumption) ?_
    try simp only [Act.put, List.setIfInBounds_toArray, List.set_cons_zero, List.set_cons_succ]
    refine wpAnyH_take (i := 6) (oi := ⟨some 42, _, _, _, _, _⟩) (v := undef) rfl (by kernel_rfl) (by kernel_rfl) (by kernel_rfl) (fun _ _ _ h => h) (Or.inr ⟨by rfl, rfl⟩) (by assumption) ?_
    try simp only [Act.put, List.setIfInBounds_toArray, List.set_cons_zero, List.set_cons_succ]
    refine wpAnyH_take (i := 7) (oi := ⟨some 43, _, _, _, _, _⟩) (v := undef) rfl (by kernel_rfl) (by kernel_rfl) (by kernel_rfl) (fun _ _ _ h => h) (Or.inr ⟨by rfl, rfl⟩) (by assumption) ?_
    try simp only [Act.put, List.setIfInBounds_toArray, List.set_cons_zero, List.set_cons_succ]
    refine wpAnyH_take (i := 8) (oi := ⟨some 44, _, _, _, _, _⟩) (v := undef) rfl (by kernel_rfl) (by kernel_rfl) (by kernel_rfl) (fun _ _ _ h => h) (Or.inr ⟨by rfl, rfl⟩) (by assumption) ?_
    try simp only [Act.put, List.setIfInBounds_toArray, List.set_cons_zero, List.set_cons_succ]
    refine wpAnyH_take (i := 9) (oi := ⟨some 45, _, _, _, _, _⟩) (v := undef) rfl (by kernel_rfl) (by kernel_rfl) (by kernel_rfl) (fun _ _ _ h => h) (Or.inr ⟨by rfl, rfl⟩) (by assumption) ?_
    try simp only [Act.put, List.setIfInBounds_toArray, List.set_cons_zero, List.set_cons_succ]
    refine wpAnyH_take (i := 10) (oi := ⟨some 46, _, _, _, _, _⟩) (v := undef) rfl (by kernel_rfl) (by kernel_rfl) (by kernel_rfl) (fun _ _ _ h => h) (Or.inr ⟨by rfl, rfl⟩) (by assumption) ?_
    try simp only [Act.put, List.setIfInBounds_toArray, List.set_cons_zero, List.set_cons_succ]
    refine wpAnyH_take (i := 11) (oi := ⟨some 47, _, _, _, _, _⟩) (v := undef) rfl (by kernel_rfl) (by kernel_rfl) (by kernel_rfl) (fun _ _ _ h => h) (Or.inr ⟨by rfl, rfl⟩) (by assumption) ?_
    try simp only [Act.put, List.setIfInBounds_toArray, List.set_cons_zero, List.set_cons_succ]
    refine wpAnyH_take (i := 12) (oi := ⟨some 48, _, _, _, _, _⟩) (v := ?_) rfl (by kernel_rfl) (by kernel_rfl) (by kernel_rfl) (fun _ _ _ h => h) (Or.inl ⟨by rfl, ?_⟩) (by assumption) ?_
    rotate_left
    · intro w hSw
      (try dsimp only at hSw)
      go_simp
      all_goals (with_reducible rfl)
    try simp only [Act.put, List.setIfInBounds_toArray, List.set_cons_zero, List.set_cons_succ]
    refine wpAnyH_take (i := 13) (oi := ⟨some 35, _, _, _, _, _⟩) (v := ?_) rfl (by kernel_rfl) (by kernel_rfl) (by kernel_rfl) (fun _ _ _ h => h) (Or.inl ⟨by rfl, ?_⟩) (by assumption) ?_
    rotate_left
    · intro w hSw
      (try dsimp only at hSw)
      go_simp
      all_goals (with_reducible rfl)
    try simp only [Act.put, List.setIfInBounds_toArray, List.set_cons_zero, List.set_cons_succ]
    refine wpAnyH_done (by kernel_rfl) ?_ _
    clear m0 m1 m2 m3 m4 hbl
    go_wp2
    obtain ⟨x77, h_x77⟩ : ∃ z, x76.drew = z := ⟨_, rfl⟩
    have hbd : Below x76.heap.size x76 x77 := h_x77 ▸ (Below.refl _ _).drew
    have HR_x77 := Lib.hid (HR_x76.out.below hbd (Nat.le_refl _))
    have HB_x77 : Hid (Below w5.heap.size w5 x77) := HB_x76.out.trans (hbd.mono HB_x76.out.size)
    have HS_x77 : Hid (Below x77.heap.size x77 x77) := Below.refl _ _
    clear hbd
    obtain ⟨⟨m0, m1, m2, m3, m4⟩, hbl⟩ := HR_x77.out.five
    refine wp_region_held_drew (S := fun z => Below x77.heap.size x77 z) (by kernel_rfl) (by show Below _ _ _; rw [h_x77]; exact Below.refl _ _) (fun hHeld => ?_)
    rw [h_x77]
    clear h_x77
    refine wpAnyH_take (i := 0) (oi := ⟨some 51, _, _, _, _, _⟩) (v := ?_) rfl (by kernel_rfl) (by kernel_rfl) (by kernel_rfl) (fun _ _ _ h => h) (Or.inl ⟨by rfl, ?_⟩) (by assumption) ?_
    rotate_left
    · intro w hSw
      (try dsimp only at hSw)
      go_simp
      all_goals (with_reducible rfl)
    try simp only [Act.put, List.setIfInBounds_toArray, List.set_cons_zero, List.set_cons_succ]
    refine wpAnyH_take (i := 1) (oi := ⟨some 52, _, _, _, _, _⟩) (v := ?_) rfl (by kernel_rfl) (by kernel_rfl) (by kernel_rfl) (fun _ _ _ h => h) (Or.inl ⟨by rfl, ?_⟩) (by assumption) ?_
    rotate_left
    · intro w hSw
      have kk := (hSw.cell (p := ⟨b, 3, none⟩) hbl).trans m3
      clear hSw
      go_simp
      all_goals (with_reducible rfl)
    try simp only [Act.put, List.setIfInBounds_toArray, List.set_cons_zero, List.set_cons_succ]
    refine wpAnyH_take (i := 2) (oi := ⟨some 53, _, _, _, _, _⟩) (v := ?_) rfl (by kernel_rfl) (by kernel_rfl) (by kernel_rfl) (fun _ _ _ h => h) (Or.inl ⟨by rfl, ?_⟩) (by assumption) ?_
    rotate_left
    · intro w hSw
      (try dsimp only at hSw)
      go_simp
      all_goals (with_reducible rfl)
    try simp only [Act.put, List.setIfInBounds_toArray, List.set_cons_zero, List.set_cons_succ]
    refine wpAnyH_take (i := 3) (oi := ⟨some 54, _, _, _, _, _⟩) (v := ?_) rfl (by kernel_rfl) (by kernel_rfl) (by kernel_rfl) (fun _ _ _ h => h) (Or.inl ⟨by rfl, ?_⟩) (by assumption) ?_
    rotate_left
    · intro w hSw
      (try dsimp only at hSw)
      go_simp
      all_goals (with_reducible rfl)
    try simp only [Act.put, List.setIfInBounds_toArray, List.set_cons_zero, List.set_cons_succ]
    refine wpAnyH_take (i := 4) (oi := ⟨some 55, _, _, _, _, _⟩) (v := undef) rfl (by kernel_rfl) (by kernel_rfl) (by kernel_rfl) (fun _ _ _ h => h) (Or.inr ⟨by rfl, rfl⟩) (by assumption) ?_
    try simp only [Act.put, List.setIfInBounds_toArray, List.set_cons_zero, List.set_cons_succ]
    refine wpAnyH_take (i := 5) (oi := ⟨some 56, _, _, _, _, _⟩) (v := undef) rfl (by kernel_rfl) (by kernel_rfl) (by kernel_rfl) (fun _ _ _ h => h) (Or.inr ⟨by rfl, rfl⟩) (by assumption) ?_
    try simp only [Act.put, List.setIfInBounds_toArray, List.set_cons_zero, List.set_cons_succ]
    refine wpAnyH_take (i := 6) (oi := ⟨some 57, _, _, _, _, _⟩) (v := undef) rfl (by kernel_rfl) (by kernel_rfl) (by kernel_rfl) (fun _ _ _ h => h) (Or.inr ⟨by rfl, rfl⟩) (by assumption) ?_
    try simp only [Act.put, List.setIfInBounds_toArray, List.set_cons_zero, List.set_cons_succ]
    refine wpAnyH_take (i := 7) (oi := ⟨some 58, _, _, _, _, _⟩) (v := undef) rfl (by kernel_rfl) (by kernel_rfl) (by kernel_rfl) (fun _ _ _ h => h) (Or.inr ⟨by rfl, rfl⟩) (by assumption) ?_
    try simp only [Act.put, List.setIfInBounds_toArray, List.set_cons_zero, List.set_cons_succ]
    refine wpAnyH_take (i := 8) (oi := ⟨some 59, _, _, _, _, _⟩) (v := undef) rfl (by kernel_rfl) (by kernel_rfl) (by kernel_rfl) (fun _ _ _ h => h) (Or.inr ⟨by rfl, rfl⟩) (by assumption) ?_
    try simp only [Act.put, List.setIfInBounds_toArray, List.set_cons_zero, List.set_cons_succ]
    refine wpAnyH_take (i := 9) (oi := ⟨some 60, _, _, _, _, _⟩) (v := undef) rfl (by kernel_rfl) (by kernel_rfl) (by kernel_rfl) (fun _ _ _ h => h) (Or.inr ⟨by rfl, rfl⟩) (by assumption) ?_
    try simp only [Act.put, List.setIfInBounds_toArray, List.set_cons_zero, List.set_cons_succ]
    refine wpAnyH_take (i := 10) (oi := ⟨some 61, _, _, _, _, _⟩) (v := ?_) rfl (by kernel_rfl) (by kernel_rfl) (by kernel_rfl) (fun _ _ _ h => h) (Or.inl ⟨by rfl, ?_⟩) (by assumption) ?_
    rotate_left
    · intro w hSw
      (try dsimp only at hSw)
      go_simp
      all_goals (with_reducible rfl)
    try simp only [Act.put, List.setIfInBounds_toArray, List.set_cons_zero, List.set_cons_succ]
    refine wpAnyH_take (i := 11) (oi := ⟨some 50, _, _, _, _, _⟩) (v := ?_) rfl (by kernel_rfl) (by kernel_rfl) (by kernel_rfl) (fun _ _ _ h => h) (Or.inl ⟨by rfl, ?_⟩) (by assumption) ?_
    rotate_left
    · intro w hSw
      (try dsimp only at hSw)
      go_simp
      all_goals (with_reducible rfl)
    try simp only [Act.put, List.setIfInBounds_toArray, List.set_cons_zero, List.set_cons_succ]
    refine wpAnyH_done (by kernel_rfl) ?_ _
    clear m0 m1 m2 m3 m4 hbl
    obtain ⟨⟨f0, f1, f2, f3, f4⟩, fbl⟩ := HR_x77.out.five
    obtain ⟨t0, t1, t2, t3, t4⟩ := thaw5 HR_x77.out.row
    go_wp2_with fail
    obtain ⟨x78, h_x78⟩ : ∃ z, x77.alloc (.cells #[.int .i64 4] 3) = z := ⟨_, rfl⟩
    obtain ⟨hK_x78, hbK_x78⟩ := lit_ints x77 [4] rfl h_x78
    have HR_x78 := Lib.hid (HR_x77.out.below (hbK_x78) (Nat.le_refl _))
    have HB_x78 : Hid (Below w5.heap.size w5 x78) := HB_x77.out.trans ((hbK_x78 : Below x77.heap.size x77 x78).mono HB_x77.out.size)
    rw [h_x78]
    have HK_x78 := Lib.hid hK_x78
    clear hK_x78 hbK_x78 h_x78
    refine (many_is HR_x78.out hn [4] (by decide) HK_x78.out E_4.out).mono ?_
    rintro e w' ⟨rfl, rfl⟩
    clear f0 f1 f2 f3 f4 fbl t0 t1 t2 t3 t4
    obtain ⟨⟨f0, f1, f2, f3, f4⟩, fbl⟩ := HR_x78.out.five
    obtain ⟨t0, t1, t2, t3, t4⟩ := thaw5 HR_x78.out.row
    have hx2W := (HB_x78.out.block _ (lt_of_block HX52.out)).trans HX52.out
    obtain ⟨wz, hwz⟩ : ∃ z, x78.setCell ⟨b, 3, none⟩ (.int .i64 6) = z := ⟨_, rfl⟩
    have hbz : But [b] x78 wz := hwz ▸ (But.refl _ _).setCell (by simp) _
    have hxz : wz.heap[b]? = some (.cells #[.int .i64 s, .int .i64 v, .int .i64 need, .int .i64 6, .slice (some ⟨x3, 0, none⟩) n c3] 26 (0, 0)) := hwz ▸ row3 HR_x78.out.row
    obtain ⟨⟨z0, z1, z2, z3, z4⟩, zbl⟩ := five26 hxz
    have hx2z := hbz.cells hx2W (by simpa using hne)
    obtain ⟨⟨r0, r1, r2, r3, r4⟩, rbl⟩ := five26 hx2z
    obtain ⟨y0, y1, y2, y3, y4⟩ := thaw5 hx2z
    have HBZ := Lib.hid hbz
    clear hbz hx2W hx2z hxz
    go_wp2
    (try rw [hwz])
    obtain ⟨hw, hr9, hb9⟩ := marked_end (s := s) (v := v) (need := need) (ph := 6) (c3 := c3) HR_x78.out.rd HB_x78.out HX52.out HAb.out HBZ.out hne
    have hpp := HP.out
    rw [hph.out] at hpp
    rw [hpp]
    refine bodyPost_ret (v := .agg #[.int .i64 s, .int .i64 v, .int .i64 need, .int .i64 6, .slice (some ⟨x3, 0, none⟩) n c3]) (results_cell_row rfl _ _ b2 26 _ (0, 0) _ rfl hw Try.underlying26 rfl (by kernel_rfl)) rfl ⟨some ⟨x3, 0, none⟩, c3, ?_, ?_, (fun j hj => by simp at hj; have := HX3.out; omega), ?_⟩
    · simp only [HLn.out]
    · simp only [HLn.out]; exact hr9
    · have h1 := HB5.out.size
      have h2 := HB_x78.out.size
      have h3 := HE.out.2.2.2.2
      exact (HB5.out.trans (HB_x78.out.mono h1)).trans (hb9.below (B := w.heap.size) (by omega) (by intro g hg; simp at hg; omega))
  · have t1 : (d4 == (n : Int)) = false := by simpa using h1
    have HY1 := HY.out
    have hph : Hid (phaseN n need 5 d1 d2 d3 d4 = 5) := by show _ = _; unfold phaseN; (repeat' split) <;> omega
    clear HY1
    clear h1
    go_wp2
    obtain ⟨x79, h_x79⟩ : ∃ z, w6.drew = z := ⟨_, rfl⟩
    have hbd : Below w6.heap.size w6 x79 := h_x79 ▸ (Below.refl _ _).drew
    have HR_x79 := Lib.hid (HR_w6.out.below hbd (Nat.le_refl _))
    have HB_x79 : Hid (Below w5.heap.size w5 x79) := HB_w6.out.trans (hbd.mono HB_w6.out.size)
    have HS_x79 : Hid (Below x79.heap.size x79 x79) := Below.refl _ _
    clear hbd
    obtain ⟨⟨m0, m1, m2, m3, m4⟩, hbl⟩ := HR_x79.out.five
    refine wp_region_held_drew (S := fun z => Below x79.heap.size x79 z) (by kernel_rfl) (by show Below _ _ _; rw [h_x79]; exact Below.refl _ _) (fun hHeld => ?_)
    rw [h_x79]
    clear h_x79
    refine wpAnyH_take (i := 0) (oi := ⟨some 23, _, _, _, _, _⟩) (v := ?_) rfl (by kernel_rfl) (by kernel_rfl) (by kernel_rfl) (fun _ _ _ h => h) (Or.inl ⟨by rfl, ?_⟩) (by assumption) ?_
    rotate_left
    · intro w hSw
      (try dsimp only at hSw)
      go_simp
      all_goals (with_reducible rfl)
    try simp only [Act.put, List.setIfInBounds_toArray, List.set_cons_zero, List.set_cons_succ]
    refine wpAnyH_take (i := 1) (oi := ⟨some 24, _, _, _, _, _⟩) (v := ?_) rfl (by kernel_rfl) (by kernel_rfl) (by kernel_rfl) (fun _ _ _ h => h) (Or.inl ⟨by rfl, ?_⟩) (by assumption) ?_
    rotate_left
    · intro w hSw
      have kk := (hSw.cell (p := ⟨b, 3, none⟩) hbl).trans m3
      clear hSw
      go_simp
      all_goals (with_reducible rfl)
    try simp only [Act.put, List.setIfInBounds_toArray, List.set_cons_zero, List.set_cons_succ]
    refine wpAnyH_take (i := 2) (oi := ⟨some 25, _, _, _, _, _⟩) (v := ?_) rfl (by kernel_rfl) (by kernel_rfl) (by kernel_rfl) (fun _ _ _ h => h) (Or.inl ⟨by rfl, ?_⟩) (by assumption) ?_
    rotate_left
    · intro w hSw
      (try dsimp only at hSw)
      go_simp
      all_goals (with_reducible rfl)
    try simp only [Act.put, List.setIfInBounds_toArray, List.set_cons_zero, List.set_cons_succ]
    refine wpAnyH_take (i := 3) (oi := ⟨some 26, _, _, _, _, _⟩) (v := ?_) rfl (by kernel_rfl) (by kernel_rfl) (by kernel_rfl) (fun _ _ _ h => h) (Or.inl ⟨by rfl, ?_⟩) (by assumption) ?_
    rotate_left
    · intro w hSw
      (try dsimp only at hSw)
      go_simp
      all_goals (with_reducible rfl)
    try simp only [Act.put, List.setIfInBounds_toArray, List.set_cons_zero, List.set_cons_succ]
    refine wpAnyH_take (i := 4) (oi := ⟨some 27, _, _, _, _, _⟩) (v := undef) rfl (by kernel_rfl) (by kernel_rfl) (by kernel_rfl) (fun _ _ _ h => h) (Or.inr ⟨by rfl, rfl⟩) (by assumption) ?_
    try simp only [Act.put, List.setIfInBounds_toArray, List.set_cons_zero, List.set_cons_succ]
    refine wpAnyH_take (i := 5) (oi := ⟨some 28, _, _, _, _, _⟩) (v := undef) rfl (by kernel_rfl) (by kernel_rfl) (by kernel_rfl) (fun _ _ _ h => h) (Or.inr ⟨by rfl, rfl⟩) (by assumption) ?_
    try simp only [Act.put, List.setIfInBounds_toArray, List.set_cons_zero, List.set_cons_succ]
    refine wpAnyH_take (i := 6) (oi := ⟨some 29, _, _, _, _, _⟩) (v := undef) rfl (by kernel_rfl) (by kernel_rfl) (by kernel_rfl) (fun _ _ _ h => h) (Or.inr ⟨by rfl, rfl⟩) (by assumption) ?_
    try simp only [Act.put, List.setIfInBounds_toArray, List.set_cons_zero, List.set_cons_succ]
    refine wpAnyH_take (i := 7) (oi := ⟨some 30, _, _, _, _, _⟩) (v := undef) rfl (by kernel_rfl) (by kernel_rfl) (by kernel_rfl) (fun _ _ _ h => h) (Or.inr ⟨by rfl, rfl⟩) (by assumption) ?_
    try simp only [Act.put, List.setIfInBounds_toArray, List.set_cons_zero, List.set_cons_succ]
    refine wpAnyH_take (i := 8) (oi := ⟨some 31, _, _, _, _, _⟩) (v := undef) rfl (by kernel_rfl) (by kernel_rfl) (by kernel_rfl) (fun _ _ _ h => h) (Or.inr ⟨by rfl, rfl⟩) (by assumption) ?_
    try simp only [Act.put, List.setIfInBounds_toArray, List.set_cons_zero, List.set_cons_succ]
    refine wpAnyH_take (i := 9) (oi := ⟨some 32, _, _, _, _, _⟩) (v := undef) rfl (by kernel_rfl) (by kernel_rfl) (by kernel_rfl) (fun _ _ _ h => h) (Or.inr ⟨by rfl, rfl⟩) (by assumption) ?_
    try simp only [Act.put, List.setIfInBounds_toArray, List.set_cons_zero, List.set_cons_succ]
    refine wpAnyH_take (i := 10) (oi := ⟨some 33, _, _, _, _, _⟩) (v := ?_) rfl (by kernel_rfl) (by kernel_rfl) (by kernel_rfl) (fun _ _ _ h => h) (Or.inl ⟨by rfl, ?_⟩) (by assumption) ?_
    rotate_left
    · intro w hSw
      (try dsimp only at hSw)
      go_simp
      all_goals (with_reducible rfl)
    try simp only [Act.put, List.setIfInBounds_toArray, List.set_cons_zero, List.set_cons_succ]
    refine wpAnyH_take (i := 11) (oi := ⟨some 22, _, _, _, _, _⟩) (v := ?_) rfl (by kernel_rfl) (by kernel_rfl) (by kernel_rfl) (fun _ _ _ h => h) (Or.inl ⟨by rfl, ?_⟩) (by assumption) ?_
    rotate_left
    · intro w hSw
      (try dsimp only at hSw)
      go_simp
      all_goals (with_reducible rfl)
    try simp only [Act.put, List.setIfInBounds_toArray, List.set_cons_zero, List.set_cons_succ]
    refine wpAnyH_done (by kernel_rfl) ?_ _
    clear m0 m1 m2 m3 m4 hbl
    go_wp2
    obtain ⟨x80, h_x80⟩ : ∃ z, x79.drew = z := ⟨_, rfl⟩
    have hbd : Below x79.heap.size x79 x80 := h_x80 ▸ (Below.refl _ _).drew
    have HR_x80 := Lib.hid (HR_x79.out.below hbd (Nat.le_refl _))
    have HB_x80 : Hid (Below w5.heap.size w5 x80) := HB_x79.out.trans (hbd.mono HB_x79.out.size)
    have HS_x80 : Hid (Below x80.heap.size x80 x80) := Below.refl _ _
    clear hbd
    obtain ⟨⟨m0, m1, m2, m3, m4⟩, hbl⟩ := HR_x80.out.five
    refine wp_region_held_drew (S := fun z => Below x80.heap.size x80 z) (by kernel_rfl) (by show Below _ _ _; rw [h_x80]; exact Below.refl _ _) (fun hHeld => ?_)
    rw [h_x80]
    clear h_x80
    refine wpAnyH_take (i := 0) (oi := ⟨some 36, _, _, _, _, _⟩) (v := ?_) rfl (by kernel_rfl) (by kernel_rfl) (by kernel_rfl) (fun _ _ _ h => h) (Or.inl ⟨by rfl, ?_⟩) (by assumption) ?_
    rotate_left
    · intro w hSw
      (try dsimp only at hSw)
      go_simp
      all_goals (with_reducible rfl)
    try simp only [Act.put, List.setIfInBounds_toArray, List.set_cons_zero, List.set_cons_succ]
    refine wpAnyH_take (i := 1) (oi := ⟨some 37, _, _, _, _, _⟩) (v := ?_) rfl (by kernel_rfl) (by kernel_rfl) (by kernel_rfl) (fun _ _ _ h => h) (Or.inl ⟨by rfl, ?_⟩) (by assumption) ?_
    rotate_left
    · intro w hSw
      have kk := (hSw.cell (p := ⟨b, 3, none⟩) hbl).trans m3
      clear hSw
      go_simp
      all_goals (with_reducible rfl)
    try simp only [Act.put, List.setIfInBounds_toArray, List.set_cons_zero, List.set_cons_succ]
    refine wpAnyH_take (i := 2) (oi := ⟨some 38, _, _, _, _, _⟩) (v := ?_) rfl (by kernel_rfl) (by kernel_rfl) (by kernel_rfl) (fun _ _ _ h => h) (Or.inl ⟨by rfl, ?_⟩) (by assumption) ?_
    rotate_left
    · intro w hSw
      (try dsimp only at hSw)
      go_simp
      all_goals (with_reducible rfl)
    try simp only [Act.put, List.setIfInBounds_toArray, List.set_cons_zero, List.set_cons_succ]
    refine wpAnyH_take (i := 3) (oi := ⟨some 39, _, _, _, _, _⟩) (v := ?_) rfl (by kernel_rfl) (by kernel_rfl) (by kernel_rfl) (fun _ _ _ h => h) (Or.inl ⟨by rfl, ?_⟩) (by assumption) ?_
    rotate_left
    · intro w hSw
      (try dsimp only at hSw)
      go_simp
      all_goals (with_reducible rfl)
    try simp only [Act.put, List.setIfInBounds_toArray, List.set_cons_zero, List.set_cons_succ]
    refine wpAnyH_take (i := 4) (oi := ⟨some 40, _, _, _, _, _⟩) (v := undef) rfl (by kernel_rfl) (by kernel_rfl) (by kernel_rfl) (fun _ _ _ h => h) (Or.inr ⟨by rfl, rfl⟩) (by assumption) ?_
    try simp only [Act.put, List.setIfInBounds_toArray, List.set_cons_zero, List.set_cons_succ]
    refine wpAnyH_take (i := 5) (oi := ⟨some 41, _, _, _, _, _⟩) (v := undef) rfl (by kernel_rfl) (by kernel_rfl) (by kernel_rfl) (fun _ _ _ h => h) (Or.inr ⟨by rfl, rfl⟩) (by assumption) ?_
    try simp only [Act.put, List.setIfInBounds_toArray, List.set_cons_zero, List.set_cons_succ]
    refine wpAnyH_take (i := 6) (oi := ⟨some 42, _, _, _, _, _⟩) (v := undef) rfl (by kernel_rfl) (by kernel_rfl) (by kernel_rfl) (fun _ _ _ h => h) (Or.inr ⟨by rfl, rfl⟩) (by assumption) ?_
    try simp only [Act.put, List.setIfInBounds_toArray, List.set_cons_zero, List.set_cons_succ]
    refine wpAnyH_take (i := 7) (oi := ⟨some 43, _, _, _, _, _⟩) (v := undef) rfl (by kernel_rfl) (by kernel_rfl) (by kernel_rfl) (fun _ _ _ h => h) (Or.inr ⟨by rfl, rfl⟩) (by assumption) ?_
    try simp only [Act.put, List.setIfInBounds_toArray, List.set_cons_zero, List.set_cons_succ]
    refine wpAnyH_take (i := 8) (oi := ⟨some 44, _, _, _, _, _⟩) (v := undef) rfl (by kernel_rfl) (by kernel_rfl) (by kernel_rfl) (fun _ _ _ h => h) (Or.inr ⟨by rfl, rfl⟩) (by assumption) ?_
    try simp only [Act.put, List.setIfInBounds_toArray, List.set_cons_zero, List.set_cons_succ]
    refine wpAnyH_take (i := 9) (oi := ⟨some 45, _, _, _, _, _⟩) (v := undef) rfl (by kernel_rfl) (by kernel_rfl) (by kernel_rfl) (fun _ _ _ h => h) (Or.inr ⟨by rfl, rfl⟩) (by assumption) ?_
    try simp only [Act.put, List.setIfInBounds_toArray, List.set_cons_zero, List.set_cons_succ]
    refine wpAnyH_take (i := 10) (oi := ⟨some 46, _, _, _, _, _⟩) (v := undef) rfl (by kernel_rfl) (by kernel_rfl) (by kernel_rfl) (fun _ _ _ h => h) (Or.inr ⟨by rfl, rfl⟩) (by assumption) ?_
    try simp only [Act.put, List.setIfInBounds_toArray, List.set_cons_zero, List.set_cons_succ]
    refine wpAnyH_take (i := 11) (oi := ⟨some 47, _, _, _, _, _⟩) (v := undef) rfl (by kernel_rfl) (by kernel_rfl) (by kernel_rfl) (fun _ _ _ h => h) (Or.inr ⟨by rfl, rfl⟩) (by assumption) ?_
    try simp only [Act.put, List.setIfInBounds_toArray, List.set_cons_zero, List.set_cons_succ]
    refine wpAnyH_take (i := 12) (oi := ⟨some 48, _, _, _, _, _⟩) (v := ?_) rfl (by kernel_rfl) (by kernel_rfl) (by kernel_rfl) (fun _ _ _ h => h) (Or.inl ⟨by rfl, ?_⟩) (by assumption) ?_
    rotate_left
    · intro w hSw
      (try dsimp only at hSw)
      go_simp
      all_goals (with_reducible rfl)
    try simp only [Act.put, List.setIfInBounds_toArray, List.set_cons_zero, List.set_cons_succ]
    refine wpAnyH_take (i := 13) (oi := ⟨some 35, _, _, _, _, _⟩) (v := ?_) rfl (by kernel_rfl) (by kernel_rfl) (by kernel_rfl) (fun _ _ _ h => h) (Or.inl ⟨by rfl, ?_⟩) (by assumption) ?_
    rotate_left
    · intro w hSw
      (try dsimp only at hSw)
      go_simp
      all_goals (with_reducible rfl)
    try simp only [Act.put, List.setIfInBounds_toArray, List.set_cons_zero, List.set_cons_succ]
    refine wpAnyH_done (by kernel_rfl) ?_ _
    clear m0 m1 m2 m3 m4 hbl
    go_wp2
    obtain ⟨x81, h_x81⟩ : ∃ z, x80.drew = z := ⟨_, rfl⟩
    have hbd : Below x80.heap.size x80 x81 := h_x81 ▸ (Below.refl _ _).drew
    have HR_x81 := Lib.hid (HR_x80.out.below hbd (Nat.le_refl _))
    have HB_x81 : Hid (Below w5.heap.size w5 x81) := HB_x80.out.trans (hbd.mono HB_x80.out.size)
    have HS_x81 : Hid (Below x81.heap.size x81 x81) := Below.refl _ _
    clear hbd
    obtain ⟨⟨m0, m1, m2, m3, m4⟩, hbl⟩ := HR_x81.out.five
    refine wp_region_held_drew (S := fun z => Below x81.heap.size x81 z) (by kernel_rfl) (by show Below _ _ _; rw [h_x81]; exact Below.refl _ _) (fun hHeld => ?_)
    rw [h_x81]
    clear h_x81
    refine wpAnyH_take (i := 0) (oi := ⟨some 51, _, _, _, _, _⟩) (v := ?_) rfl (by kernel_rfl) (by kernel_rfl) (by kernel_rfl) (fun _ _ _ h => h) (Or.inl ⟨by rfl, ?_⟩) (by assumption) ?_
    rotate_left
    · intro w hSw
      (try dsimp only at hSw)
      go_simp
      all_goals (with_reducible rfl)
    try simp only [Act.put, List.setIfInBounds_toArray, List.set_cons_zero, List.set_cons_succ]
    refine wpAnyH_take (i := 1) (oi := ⟨some 52, _, _, _, _, _⟩) (v := ?_) rfl (by kernel_rfl) (by kernel_rfl) (by kernel_rfl) (fun _ _ _ h => h) (Or.inl ⟨by rfl, ?_⟩) (by assumption) ?_
    rotate_left
    · intro w hSw
      have kk := (hSw.cell (p := ⟨b, 3, none⟩) hbl).trans m3
      clear hSw
      go_simp
      all_goals (with_reducible rfl)
    try simp only [Act.put, List.setIfInBounds_toArray, List.set_cons_zero, List.set_cons_succ]
    refine wpAnyH_take (i := 2) (oi := ⟨some 53, _, _, _, _, _⟩) (v := ?_) rfl (by kernel_rfl) (by kernel_rfl) (by kernel_rfl) (fun _ _ _ h => h) (Or.inl ⟨by rfl, ?_⟩) (by assumption) ?_
    rotate_left
    · intro w hSw
      (try dsimp only at hSw)
      go_simp
      all_goals (with_reducible rfl)
    try simp only [Act.put, List.setIfInBounds_toArray, List.set_cons_zero, List.set_cons_succ]
    refine wpAnyH_take (i := 3) (oi := ⟨some 54, _, _, _, _, _⟩) (v := ?_) rfl (by kernel_rfl) (by kernel_rfl) (by kernel_rfl) (fun _ _ _ h => h) (Or.inl ⟨by rfl, ?_⟩) (by assumption) ?_
    rotate_left
    · intro w hSw
      (try dsimp only at hSw)
      go_simp
      all_goals (with_reducible rfl)
    try simp only [Act.put, List.setIfInBounds_toArray, List.set_cons_zero, List.set_cons_succ]
    refine wpAnyH_take (i := 4) (oi := ⟨some 55, _, _, _, _, _⟩) (v := undef) rfl (by kernel_rfl) (by kernel_rfl) (by kernel_rfl) (fun _ _ _ h => h) (Or.inr ⟨by rfl, rfl⟩) (by assumption) ?_
    try simp only [Act.put, List.setIfInBounds_toArray, List.set_cons_zero, List.set_cons_succ]
    refine wpAnyH_take (i := 5) (oi := ⟨some 56, _, _, _, _, _⟩) (v := undef) rfl (by kernel_rfl) (by kernel_rfl) (by kernel_rfl) (fun _ _ _ h => h) (Or.inr ⟨by rfl, rfl⟩) (by assumption) ?_
    try simp only [Act.put, List.setIfInBounds_toArray, List.set_cons_zero, List.set_cons_succ]
    refine wpAnyH_take (i := 6) (oi := ⟨some 57, _, _, _, _, _⟩) (v := undef) rfl (by kernel_rfl) (by kernel_rfl) (by kernel_rfl) (fun _ _ _ h => h) (Or.inr ⟨by rfl, rfl⟩) (by assumption) ?_
    try simp only [Act.put, List.setIfInBounds_toArray, List.set_cons_zero, List.set_cons_succ]
    refine wpAnyH_take (i := 7) (oi := ⟨some 58, _, _, _, _, _⟩) (v := undef) rfl (by kernel_rfl) (by kernel_rfl) (by kernel_rfl) (fun _ _ _ h => h) (Or.inr ⟨by rfl, rfl⟩) (by assumption) ?_
    try simp only [Act.put, List.setIfInBounds_toArray, List.set_cons_zero, List.set_cons_succ]
    refine wpAnyH_take (i := 8) (oi := ⟨some 59, _, _, _, _, _⟩) (v := undef) rfl (by kernel_rfl) (by kernel_rfl) (by kernel_rfl) (fun _ _ _ h => h) (Or.inr ⟨by rfl, rfl⟩) (by assumption) ?_
    try simp only [Act.put, List.setIfInBounds_toArray, List.set_cons_zero, List.set_cons_succ]
    refine wpAnyH_take (i := 9) (oi := ⟨some 60, _, _, _, _, _⟩) (v := undef) rfl (by kernel_rfl) (by kernel_rfl) (by kernel_rfl) (fun _ _ _ h => h) (Or.inr ⟨by rfl, rfl⟩) (by assumption) ?_
    try simp only [Act.put, List.setIfInBounds_toArray, List.set_cons_zero, List.set_cons_succ]
    refine wpAnyH_take (i := 10) (oi := ⟨some 61, _, _, _, _, _⟩) (v := ?_) rfl (by kernel_rfl) (by kernel_rfl) (by kernel_rfl) (fun _ _ _ h => h) (Or.inl ⟨by rfl, ?_⟩) (by assumption) ?_
    rotate_left
    · intro w hSw
      (try dsimp only at hSw)
      go_simp
      all_goals (with_reducible rfl)
    try simp only [Act.put, List.setIfInBounds_toArray, List.set_cons_zero, List.set_cons_succ]
    refine wpAnyH_take (i := 11) (oi := ⟨some 50, _, _, _, _, _⟩) (v := ?_) rfl (by kernel_rfl) (by kernel_rfl) (by kernel_rfl) (fun _ _ _ h => h) (Or.inl ⟨by rfl, ?_⟩) (by assumption) ?_
    rotate_left
    · intro w hSw
      (try dsimp only at hSw)
      go_simp
      all_goals (with_reducible rfl)
    try simp only [Act.put, List.setIfInBounds_toArray, List.set_cons_zero, List.set_cons_succ]
    refine wpAnyH_done (by kernel_rfl) ?_ _
    clear m0 m1 m2 m3 m4 hbl
    obtain ⟨⟨f0, f1, f2, f3, f4⟩, fbl⟩ := HR_x81.out.five
    obtain ⟨t0, t1, t2, t3, t4⟩ := thaw5 HR_x81.out.row
    go_wp2_with fail
    obtain ⟨x82, h_x82⟩ : ∃ z, x81.alloc (.cells #[.int .i64 4] 3) = z := ⟨_, rfl⟩
    obtain ⟨hK_x82, hbK_x82⟩ := lit_ints x81 [4] rfl h_x82
    have HR_x82 := Lib.hid (HR_x81.out.below (hbK_x82) (Nat.le_refl _))
    have HB_x82 : Hid (Below w5.heap.size w5 x82) := HB_x81.out.trans ((hbK_x82 : Below x81.heap.size x81 x82).mono HB_x81.out.size)
    rw [h_x82]
    have HK_x82 := Lib.hid hK_x82
    clear hK_x82 hbK_x82 h_x82
    refine (many_is HR_x82.out hn [4] (by decide) HK_x82.out E_4.out).mono ?_
    rintro e w' ⟨rfl, rfl⟩
    clear f0 f1 f2 f3 f4 fbl t0 t1 t2 t3 t4
    obtain ⟨⟨f0, f1, f2, f3, f4⟩, fbl⟩ := HR_x82.out.five
    obtain ⟨t0, t1, t2, t3, t4⟩ := thaw5 HR_x82.out.row
    have hx2W := (HB_x82.out.block _ (lt_of_block HX52.out)).trans HX52.out
    have hbz : But [b] x82 x82 := But.refl _ _
    have hx2z := hx2W
    obtain ⟨⟨r0, r1, r2, r3, r4⟩, rbl⟩ := five26 hx2z
    obtain ⟨y0, y1, y2, y3, y4⟩ := thaw5 hx2z
    have HBZ := Lib.hid hbz
    clear hbz hx2W hx2z
    go_wp2
    obtain ⟨hw, hr9, hb9⟩ := marked_end (s := s) (v := v) (need := need) (ph := 5) (c3 := c3) HR_x82.out.rd HB_x82.out HX52.out HAb.out HBZ.out hne
    have hpp := HP.out
    rw [hph.out] at hpp
    rw [hpp]
    refine bodyPost_ret (v := .agg #[.int .i64 s, .int .i64 v, .int .i64 need, .int .i64 5, .slice (some ⟨x3, 0, none⟩) n c3]) (results_cell_row rfl _ _ b2 26 _ (0, 0) _ rfl hw Try.underlying26 rfl (by kernel_rfl)) rfl ⟨some ⟨x3, 0, none⟩, c3, ?_, ?_, (fun j hj => by simp at hj; have := HX3.out; omega), ?_⟩
    · simp only [HLn.out]
    · simp only [HLn.out]; exact hr9
    · have h1 := HB5.out.size
      have h2 := HB_x82.out.size
      have h3 := HE.out.2.2.2.2
      exact (HB5.out.trans (HB_x82.out.mono h1)).trans (hb9.below (B := w.heap.size) (by omega) (by intro g hg; simp at hg; omega))
end
end Go.Proofs.Ytciihebaameccaa
