/- The reference's Right. -/
import Derived.Test.YtciihebaameccaaRefA
import Derived.Deep.RegionHeld3
import Derived.Deep.LoopGhost
namespace Go.Proofs.Ytciihebaameccaa
open Go.RowKit Go.Coop
set_option maxRecDepth 100000
section
variable (w : World)
set_option maxHeartbeats 8000000 in
theorem rright_is (s v need ph : Int) {A : Option Addr} {n c : Nat} {ms : List Int} (h : RdV w A n (ms.map IV)) (hn : n ≤ 1000000) {q : Bool} (hq : decide (RightR ⟨s, v, need, ph, ms⟩) = q) : Calls Try.prog 28 #[.agg #[.int .i64 s, .int .i64 v, .int .i64 need, .int .i64 ph, .slice A n c]] w (Told w q) := by
  have hln : ms.length = n := by simpa using h.len
  obtain ⟨w1, hw1⟩ : ∃ z, w.alloc (.cells #[.int .i64 s, .int .i64 v, .int .i64 need, .int .i64 ph, .slice A n c] 26) = z := ⟨_, rfl⟩
  obtain ⟨hb1, hx1⟩ := box_new hw1
  obtain ⟨b, hb⟩ : ∃ b, w.heap.size = b := ⟨_, rfl⟩
  rw [hb] at hx1
  have HR_w1 := Lib.hid (h.below hb1 (Nat.le_refl _))
  have HB_w1 := Lib.hid hb1
  have HX_w1 := Lib.hid hx1
  obtain ⟨⟨m0, m1, m2, m3, m4⟩, hbl⟩ := five26 hx1
  clear h hb1 hx1
  by_cases hmay : MayR s v n need
  · have HM := Lib.hid hmay
    have hm2 := hmay
    unfold MayR at hm2
    have z0 : decide (s < 0) = false := decide_eq_false (by omega)
    have z1 : decide (1099511627776 < s) = false := decide_eq_false (by omega)
    have z2 : decide (v < 1) = false := decide_eq_false (by omega)
    have z3 : decide (1099511627776 < v) = false := decide_eq_false (by omega)
    have z4 : decide ((n : Int) < 1) = false := decide_eq_false (by omega)
    have z5 : decide (255 < (n : Int)) = false := decide_eq_false (by omega)
    have z6 : decide (need < 1) = false := decide_eq_false (by omega)
    have z7 : decide ((n : Int) < need) = false := decide_eq_false (by omega)
    clear hmay hm2
    go_enter Try.func28, Try.ntmps28
    go_wp2_with fail
    (try rw [hw1]); (try rw [hb])
    clear hw1 hb
    go_loopg [4] n (fun kx s4 wr => ∃ j : Nat, j ≤ n ∧ n - j ≤ kx ∧ s4 = .int .i64 j ∧ wr = w1 ∧ Hid (Marks (ms.take j)))
    case atStart => exact ⟨0, Nat.zero_le _, by omega, rfl, by first | trivial | rfl, (by simp [Marks] : Marks (ms.take 0))⟩
    case round =>
      obtain ⟨j, hj, hk, rfl, rfl, HMk⟩ := hrel
      have HX_wr := HX_w1
      have HR_wr := HR_w1
      have HB_wr := HB_w1
      by_cases hlt : j < n
      · obtain ⟨y, hy⟩ : ∃ y, ms[j]? = some y := ⟨_, List.getElem?_eq_getElem (by omega)⟩
        obtain ⟨ad, hA, hadl, hxc⟩ := HR_w1.out.cells (by omega)
        have e0 := hxc j (IV y) (by rw [List.getElem?_map, hy]; rfl)
        subst hA
        have hi1 : (0 : Int) ≤ (j : Int) := by omega
        have hi2 : (j : Int) < (n : Int) := by omega
        have hw1 : IntKind.i64.wrap ((j : Int) + 1) = (j : Int) + 1 := IntWalk.i64_in _ (by omega)
        have HY := Lib.hid hy
        clear hxc hadl hy
        by_cases h0 : y < 0
        · have t0 : decide (y < 0) = true := decide_eq_true h0
          obtain rfl : q = false := by rw [← hq]; exact decide_eq_false (fun h => by have := h.2.1 y (List.mem_of_getElem? HY.out); omega)
          clear hq h0
          go_wp2
          go_ret
          exact told_mk rfl HB_w1.out
        · by_cases h4 : 4 < y
          · have t0 : decide (y < 0) = false := decide_eq_false h0
            have t1 : decide (4 < y) = true := decide_eq_true h4
            obtain rfl : q = false := by rw [← hq]; exact decide_eq_false (fun h => by have := h.2.1 y (List.mem_of_getElem? HY.out); omega)
            clear hq h0 h4
            go_wp2
            go_ret
            exact told_mk rfl HB_w1.out
          · have t0 : decide (y < 0) = false := decide_eq_false h0
            have t1 : decide (4 < y) = false := decide_eq_false h4
            have HM2 : Hid (Marks (ms.take (j + 1))) := by
              show Marks _
              rw [take_snoc HY.out]
              intro mm hm
              rcases List.mem_append.1 hm with hm | hm
              · exact HMk.out mm hm
              · simp at hm; omega
            clear h0 h4
            go_wp2
            go_roundg (n - (j + 1))
            case measure => omega
            case rel => exact ⟨j + 1, by omega, by omega, by go_num, by first | trivial | rfl, HM2⟩
      · have hjn : j = n := by omega
        have hMk : Marks ms := by have := HMk.out; rwa [hjn, List.take_of_length_le (by omega)] at this
        have hi2 : ¬ (j : Int) < (n : Int) := by omega
        obtain ⟨c1, e1⟩ : ∃ k, cnt 1 ms = k := ⟨_, rfl⟩
        obtain ⟨c2, e2⟩ : ∃ k, cnt 2 ms = k := ⟨_, rfl⟩
        obtain ⟨c3, e3⟩ : ∃ k, cnt 3 ms = k := ⟨_, rfl⟩
        obtain ⟨c4, e4⟩ : ∃ k, cnt 4 ms = k := ⟨_, rfl⟩
        have E_1 := Lib.hid e1
        have E_2 := Lib.hid e2
        have E_3 := Lib.hid e3
        have E_4 := Lib.hid e4
        have hq2 : decide (PhN n need ph c1 c2 c3 c4) = q := (right_iff hln HM.out (by rw [(cntIn_marks ms).2 hMk, hln]) e1 e2 e3 e4).symm.trans hq
        unfold PhN at hq2
        have g2 : c2 ≤ n := by rw [← e2, ← hln]; exact cnt_le 2 ms
        have g4 : c4 ≤ n := by rw [← e4, ← hln]; exact cnt_le 4 ms
        have hnn : 1 ≤ need ∧ need ≤ (n : Int) := HM.out.2.2.2
        have hn5 : (n : Int) ≤ 255 := HM.out.2.2.1.2
        have HG := Lib.hid (And.intro g2 (And.intro g4 (And.intro hnn hn5)))
        clear hq e1 e2 e3 e4 hMk g2 g4 hnn hn5 hlt hjn
        by_cases hp1 : ph = 1
        · subst hp1
          by_cases h2 : c2 = 0
          · by_cases h4 : c4 = 0
            · by_cases h1 : c1 < need
              · by_cases h3 : c3 ≤ n - need
                · have hg := HG.out
                  obtain rfl : q = true := by rw [← hq2]; exact decide_eq_true (by omega)
                  clear hq2
                  clear hg
                  have t1 := Lib.hid h1
                  have t2 := Lib.hid h3
                  have t3 := decide_eq_true h1
                  have t4 := decide_eq_true h3
                  have hwr : IntKind.i64.wrap ((n : Int) - need) = (n : Int) - need := IntWalk.i64_in _ (by have := HG.out; omega)
                  subst h2
                  subst h4
                  clear h1 h3
                  go_wp2
                  clear m0 m1 m2 m3 m4 hbl
                  obtain ⟨y11, h_y11⟩ : ∃ z, wr.drew = z := ⟨_, rfl⟩
                  have hbd : Below wr.heap.size wr y11 := h_y11 ▸ (Below.refl _ _).drew
                  have HX_y11 := Lib.hid ((hbd.block _ (lt_of_block HX_wr.out)).trans HX_wr.out)
                  have HR_y11 := Lib.hid (HR_wr.out.below hbd (Nat.le_refl _))
                  have HB_y11 : Hid (Below w.heap.size w y11) := HB_wr.out.trans (hbd.mono HB_wr.out.size)
                  have HS_y11 : Hid (Below y11.heap.size y11 y11) := Below.refl _ _
                  clear hbd
                  obtain ⟨⟨m0, m1, m2, m3, m4⟩, hbl⟩ := five26 HX_y11.out
                  refine wp_region_held_drew (S := fun z => Below y11.heap.size y11 z) (by kernel_rfl) (by show Below _ _ _; rw [h_y11]; exact Below.refl _ _) (fun hHeld => ?_)
                  rw [h_y11]
                  clear h_y11
                  refine wpAnyH_take (i := 0) (oi := ⟨some 68, _, _, _, _, _⟩) (v := ?_) rfl (by kernel_rfl) (by kernel_rfl) (by kernel_rfl) (fun _ _ _ h => h) (Or.inl ⟨by rfl, ?_⟩) (by assumption) ?_
                  rotate_left
                  · intro w hSw
                    have kk0 := (hSw.cell (p := ⟨b, 0, none⟩) hbl).trans m0
                    have kk1 := (hSw.cell (p := ⟨b, 1, none⟩) hbl).trans m1
                    have kk2 := (hSw.cell (p := ⟨b, 2, none⟩) hbl).trans m2
                    have kk3 := (hSw.cell (p := ⟨b, 3, none⟩) hbl).trans m3
                    have kk4 := (hSw.cell (p := ⟨b, 4, none⟩) hbl).trans m4
                    clear hSw
                    go_simp
                    all_goals (with_reducible rfl)
                  try simp only [Act.put, List.setIfInBounds_toArray, List.set_cons_zero, List.set_cons_succ]
                  refine wpAnyH_ready (rs := [1]) (by kernel_rfl) (by simp) (AllReadyH.cons (o := ⟨some 69, _, _, _, _, _⟩) rfl (fun K hK => ?_) AllReadyH.nil)
                  go_simp
                  refine (rmany_is _ s v need 1 2 HR_y11.out hn E_2.out).mono ?_
                  rintro e y12 ⟨rfl, hbv⟩
                  have HX_y12 := Lib.hid ((hbv.block _ (lt_of_block HX_y11.out)).trans HX_y11.out)
                  have HR_y12 := Lib.hid (HR_y11.out.below hbv (Nat.le_refl _))
                  have HB_y12 : Hid (Below w.heap.size w y12) := HB_y11.out.trans (hbv.mono HB_y11.out.size)
                  have HS_y12 : Hid (Below y11.heap.size y11 y12) := HS_y11.out.trans (hbv.mono HS_y11.out.size)
                  clear hbv
                  refine hK.out _ _ (HS_y12.out) (fun hHeld => ?_)
                  clear hK K
                  try simp only [Act.put, List.setIfInBounds_toArray, List.set_cons_zero, List.set_cons_succ]
                  refine wpAnyH_take (i := 2) (oi := ⟨some 70, _, _, _, _, _⟩) (v := ?_) rfl (by kernel_rfl) (by kernel_rfl) (by kernel_rfl) (fun _ _ _ h => h) (Or.inl ⟨by rfl, ?_⟩) (by assumption) ?_
                  rotate_left
                  · intro w hSw
                    (try dsimp only at hSw)
                    go_simp
                    all_goals (with_reducible rfl)
                  try simp only [Act.put, List.setIfInBounds_toArray, List.set_cons_zero, List.set_cons_succ]
                  refine wpAnyH_take (i := 3) (oi := ⟨some 71, _, _, _, _, _⟩) (v := ?_) rfl (by kernel_rfl) (by kernel_rfl) (by kernel_rfl) (fun _ _ _ h => h) (Or.inl ⟨by rfl, ?_⟩) (by assumption) ?_
                  rotate_left
                  · intro w hSw
                    (try dsimp only at hSw)
                    go_simp
                    all_goals (with_reducible rfl)
                  try simp only [Act.put, List.setIfInBounds_toArray, List.set_cons_zero, List.set_cons_succ]
                  refine wpAnyH_take (i := 4) (oi := ⟨some 72, _, _, _, _, _⟩) (v := ?_) rfl (by kernel_rfl) (by kernel_rfl) (by kernel_rfl) (fun _ _ _ h => h) (Or.inl ⟨by rfl, ?_⟩) (by assumption) ?_
                  rotate_left
                  · intro w hSw
                    have kk0 := (hSw.cell (p := ⟨b, 0, none⟩) hbl).trans m0
                    have kk1 := (hSw.cell (p := ⟨b, 1, none⟩) hbl).trans m1
                    have kk2 := (hSw.cell (p := ⟨b, 2, none⟩) hbl).trans m2
                    have kk3 := (hSw.cell (p := ⟨b, 3, none⟩) hbl).trans m3
                    have kk4 := (hSw.cell (p := ⟨b, 4, none⟩) hbl).trans m4
                    clear hSw
                    go_simp
                    all_goals (with_reducible rfl)
                  try simp only [Act.put, List.setIfInBounds_toArray, List.set_cons_zero, List.set_cons_succ]
                  refine wpAnyH_ready (rs := [5]) (by kernel_rfl) (by simp) (AllReadyH.cons (o := ⟨some 73, _, _, _, _, _⟩) rfl (fun K hK => ?_) AllReadyH.nil)
                  go_simp
                  refine (rmany_is _ s v need 1 4 HR_y12.out hn E_4.out).mono ?_
                  rintro e y13 ⟨rfl, hbv⟩
                  have HX_y13 := Lib.hid ((hbv.block _ (lt_of_block HX_y12.out)).trans HX_y12.out)
                  have HR_y13 := Lib.hid (HR_y12.out.below hbv (Nat.le_refl _))
                  have HB_y13 : Hid (Below w.heap.size w y13) := HB_y12.out.trans (hbv.mono HB_y12.out.size)
                  have HS_y13 : Hid (Below y11.heap.size y11 y13) := HS_y12.out.trans (hbv.mono HS_y12.out.size)
                  clear hbv
                  refine hK.out _ _ (HS_y13.out) (fun hHeld => ?_)
                  clear hK K
                  try simp only [Act.put, List.setIfInBounds_toArray, List.set_cons_zero, List.set_cons_succ]
                  refine wpAnyH_take (i := 6) (oi := ⟨some 74, _, _, _, _, _⟩) (v := ?_) rfl (by kernel_rfl) (by kernel_rfl) (by kernel_rfl) (fun _ _ _ h => h) (Or.inl ⟨by rfl, ?_⟩) (by assumption) ?_
                  rotate_left
                  · intro w hSw
                    (try dsimp only at hSw)
                    go_simp
                    all_goals (with_reducible rfl)
                  try simp only [Act.put, List.setIfInBounds_toArray, List.set_cons_zero, List.set_cons_succ]
                  refine wpAnyH_take (i := 7) (oi := ⟨some 75, _, _, _, _, _⟩) (v := ?_) rfl (by kernel_rfl) (by kernel_rfl) (by kernel_rfl) (fun _ _ _ h => h) (Or.inl ⟨by rfl, ?_⟩) (by assumption) ?_
                  rotate_left
                  · intro w hSw
                    (try dsimp only at hSw)
                    go_simp
                    all_goals (with_reducible rfl)
                  try simp only [Act.put, List.setIfInBounds_toArray, List.set_cons_zero, List.set_cons_succ]
                  refine wpAnyH_take (i := 8) (oi := ⟨some 76, _, _, _, _, _⟩) (v := ?_) rfl (by kernel_rfl) (by kernel_rfl) (by kernel_rfl) (fun _ _ _ h => h) (Or.inl ⟨by rfl, ?_⟩) (by assumption) ?_
                  rotate_left
                  · intro w hSw
                    (try dsimp only at hSw)
                    go_simp
                    all_goals (with_reducible rfl)
                  try simp only [Act.put, List.setIfInBounds_toArray, List.set_cons_zero, List.set_cons_succ]
                  refine wpAnyH_take (i := 9) (oi := ⟨some 77, _, _, _, _, _⟩) (v := ?_) rfl (by kernel_rfl) (by kernel_rfl) (by kernel_rfl) (fun _ _ _ h => h) (Or.inl ⟨by rfl, ?_⟩) (by assumption) ?_
                  rotate_left
                  · intro w hSw
                    have kk0 := (hSw.cell (p := ⟨b, 0, none⟩) hbl).trans m0
                    have kk1 := (hSw.cell (p := ⟨b, 1, none⟩) hbl).trans m1
                    have kk2 := (hSw.cell (p := ⟨b, 2, none⟩) hbl).trans m2
                    have kk3 := (hSw.cell (p := ⟨b, 3, none⟩) hbl).trans m3
                    have kk4 := (hSw.cell (p := ⟨b, 4, none⟩) hbl).trans m4
                    clear hSw
                    go_simp
                    all_goals (with_reducible rfl)
                  try simp only [Act.put, List.setIfInBounds_toArray, List.set_cons_zero, List.set_cons_succ]
                  refine wpAnyH_take (i := 11) (oi := ⟨some 79, _, _, _, _, _⟩) (v := ?_) rfl (by kernel_rfl) (by kernel_rfl) (by kernel_rfl) (fun _ _ _ h => h) (Or.inl ⟨by rfl, ?_⟩) (by assumption) ?_
                  rotate_left
                  · intro w hSw
                    (try dsimp only at hSw)
                    go_simp
                    all_goals (with_reducible rfl)
                  try simp only [Act.put, List.setIfInBounds_toArray, List.set_cons_zero, List.set_cons_succ]
                  refine wpAnyH_take (i := 12) (oi := ⟨some 80, _, _, _, _, _⟩) (v := ?_) rfl (by kernel_rfl) (by kernel_rfl) (by kernel_rfl) (fun _ _ _ h => h) (Or.inl ⟨by rfl, ?_⟩) (by assumption) ?_
                  rotate_left
                  · intro w hSw
                    have kk0 := (hSw.cell (p := ⟨b, 0, none⟩) hbl).trans m0
                    have kk1 := (hSw.cell (p := ⟨b, 1, none⟩) hbl).trans m1
                    have kk2 := (hSw.cell (p := ⟨b, 2, none⟩) hbl).trans m2
                    have kk3 := (hSw.cell (p := ⟨b, 3, none⟩) hbl).trans m3
                    have kk4 := (hSw.cell (p := ⟨b, 4, none⟩) hbl).trans m4
                    clear hSw
                    go_simp
                    all_goals (with_reducible rfl)
                  try simp only [Act.put, List.setIfInBounds_toArray, List.set_cons_zero, List.set_cons_succ]
                  refine wpAnyH_ready (rs := [10]) (by kernel_rfl) (by simp) (AllReadyH.cons (o := ⟨some 78, _, _, _, _, _⟩) rfl (fun K hK => ?_) AllReadyH.nil)
                  go_simp
                  refine (rmany_is _ s v need 1 1 HR_y13.out hn E_1.out).mono ?_
                  rintro e y14 ⟨rfl, hbv⟩
                  have HX_y14 := Lib.hid ((hbv.block _ (lt_of_block HX_y13.out)).trans HX_y13.out)
                  have HR_y14 := Lib.hid (HR_y13.out.below hbv (Nat.le_refl _))
                  have HB_y14 : Hid (Below w.heap.size w y14) := HB_y13.out.trans (hbv.mono HB_y13.out.size)
                  have HS_y14 : Hid (Below y11.heap.size y11 y14) := HS_y13.out.trans (hbv.mono HS_y13.out.size)
                  clear hbv
                  refine hK.out _ _ (HS_y14.out) (fun hHeld => ?_)
                  clear hK K
                  try simp only [Act.put, List.setIfInBounds_toArray, List.set_cons_zero, List.set_cons_succ]
                  refine wpAnyH_take (i := 13) (oi := ⟨some 81, _, _, _, _, _⟩) (v := ?_) rfl (by kernel_rfl) (by kernel_rfl) (by kernel_rfl) (fun _ _ _ h => h) (Or.inl ⟨by rfl, ?_⟩) (by assumption) ?_
                  rotate_left
                  · intro w hSw
                    (try dsimp only at hSw)
                    go_simp
                    all_goals (with_reducible rfl)
                  try simp only [Act.put, List.setIfInBounds_toArray, List.set_cons_zero, List.set_cons_succ]
                  refine wpAnyH_take (i := 14) (oi := ⟨some 82, _, _, _, _, _⟩) (v := ?_) rfl (by kernel_rfl) (by kernel_rfl) (by kernel_rfl) (fun _ _ _ h => h) (Or.inl ⟨by rfl, ?_⟩) (by assumption) ?_
                  rotate_left
                  · intro w hSw
                    (try dsimp only at hSw)
                    go_simp
                    all_goals (with_reducible rfl)
                  try simp only [Act.put, List.setIfInBounds_toArray, List.set_cons_zero, List.set_cons_succ]
                  refine wpAnyH_take (i := 15) (oi := ⟨some 83, _, _, _, _, _⟩) (v := ?_) rfl (by kernel_rfl) (by kernel_rfl) (by kernel_rfl) (fun _ _ _ h => h) (Or.inl ⟨by rfl, ?_⟩) (by assumption) ?_
                  rotate_left
                  · intro w hSw
                    (try dsimp only at hSw)
                    go_simp
                    all_goals (with_reducible rfl)
                  try simp only [Act.put, List.setIfInBounds_toArray, List.set_cons_zero, List.set_cons_succ]
                  refine wpAnyH_take (i := 16) (oi := ⟨some 84, _, _, _, _, _⟩) (v := ?_) rfl (by kernel_rfl) (by kernel_rfl) (by kernel_rfl) (fun _ _ _ h => h) (Or.inl ⟨by rfl, ?_⟩) (by assumption) ?_
                  rotate_left
                  · intro w hSw
                    have kk0 := (hSw.cell (p := ⟨b, 0, none⟩) hbl).trans m0
                    have kk1 := (hSw.cell (p := ⟨b, 1, none⟩) hbl).trans m1
                    have kk2 := (hSw.cell (p := ⟨b, 2, none⟩) hbl).trans m2
                    have kk3 := (hSw.cell (p := ⟨b, 3, none⟩) hbl).trans m3
                    have kk4 := (hSw.cell (p := ⟨b, 4, none⟩) hbl).trans m4
                    clear hSw
                    go_simp
                    all_goals (with_reducible rfl)
                  try simp only [Act.put, List.setIfInBounds_toArray, List.set_cons_zero, List.set_cons_succ]
                  refine wpAnyH_take (i := 18) (oi := ⟨some 86, _, _, _, _, _⟩) (v := ?_) rfl (by kernel_rfl) (by kernel_rfl) (by kernel_rfl) (fun _ _ _ h => h) (Or.inl ⟨by rfl, ?_⟩) (by assumption) ?_
                  rotate_left
                  · intro w hSw
                    (try dsimp only at hSw)
                    go_simp
                    all_goals (with_reducible rfl)
                  try simp only [Act.put, List.setIfInBounds_toArray, List.set_cons_zero, List.set_cons_succ]
                  refine wpAnyH_take (i := 19) (oi := ⟨some 87, _, _, _, _, _⟩) (v := ?_) rfl (by kernel_rfl) (by kernel_rfl) (by kernel_rfl) (fun _ _ _ h => h) (Or.inl ⟨by rfl, ?_⟩) (by assumption) ?_
                  rotate_left
                  · intro w hSw
                    (try dsimp only at hSw)
                    go_simp
                    all_goals (with_reducible rfl)
                  try simp only [Act.put, List.setIfInBounds_toArray, List.set_cons_zero, List.set_cons_succ]
                  refine wpAnyH_take (i := 20) (oi := ⟨some 88, _, _, _, _, _⟩) (v := ?_) rfl (by kernel_rfl) (by kernel_rfl) (by kernel_rfl) (fun _ _ _ h => h) (Or.inl ⟨by rfl, ?_⟩) (by assumption) ?_
                  rotate_left
                  · intro w hSw
                    have kk0 := (hSw.cell (p := ⟨b, 0, none⟩) hbl).trans m0
                    have kk1 := (hSw.cell (p := ⟨b, 1, none⟩) hbl).trans m1
                    have kk2 := (hSw.cell (p := ⟨b, 2, none⟩) hbl).trans m2
                    have kk3 := (hSw.cell (p := ⟨b, 3, none⟩) hbl).trans m3
                    have kk4 := (hSw.cell (p := ⟨b, 4, none⟩) hbl).trans m4
                    clear hSw
                    go_simp
                    all_goals (with_reducible rfl)
                  try simp only [Act.put, List.setIfInBounds_toArray, List.set_cons_zero, List.set_cons_succ]
                  refine wpAnyH_take (i := 21) (oi := ⟨some 89, _, _, _, _, _⟩) (v := ?_) rfl (by kernel_rfl) (by kernel_rfl) (by kernel_rfl) (fun _ _ _ h => h) (Or.inl ⟨by rfl, ?_⟩) (by assumption) ?_
                  rotate_left
                  · intro w hSw
                    (try dsimp only at hSw)
                    go_simp
                    all_goals (with_reducible rfl)
                  try simp only [Act.put, List.setIfInBounds_toArray, List.set_cons_zero, List.set_cons_succ]
                  refine wpAnyH_ready (rs := [17]) (by kernel_rfl) (by simp) (AllReadyH.cons (o := ⟨some 85, _, _, _, _, _⟩) rfl (fun K hK => ?_) AllReadyH.nil)
                  go_simp
                  refine (rmany_is _ s v need 1 3 HR_y14.out hn E_3.out).mono ?_
                  rintro e y15 ⟨rfl, hbv⟩
                  have HX_y15 := Lib.hid ((hbv.block _ (lt_of_block HX_y14.out)).trans HX_y14.out)
                  have HR_y15 := Lib.hid (HR_y14.out.below hbv (Nat.le_refl _))
                  have HB_y15 : Hid (Below w.heap.size w y15) := HB_y14.out.trans (hbv.mono HB_y14.out.size)
                  have HS_y15 : Hid (Below y11.heap.size y11 y15) := HS_y14.out.trans (hbv.mono HS_y14.out.size)
                  clear hbv
                  refine hK.out _ _ (HS_y15.out) (fun hHeld => ?_)
                  clear hK K
                  try simp only [Act.put, List.setIfInBounds_toArray, List.set_cons_zero, List.set_cons_succ]
                  refine wpAnyH_take (i := 22) (oi := ⟨some 90, _, _, _, _, _⟩) (v := ?_) rfl (by kernel_rfl) (by kernel_rfl) (by kernel_rfl) (fun _ _ _ h => h) (Or.inl ⟨by rfl, ?_⟩) (by assumption) ?_
                  rotate_left
                  · intro w hSw
                    (try dsimp only at hSw)
                    go_simp
                    all_goals (with_reducible rfl)
                  try simp only [Act.put, List.setIfInBounds_toArray, List.set_cons_zero, List.set_cons_succ]
                  refine wpAnyH_take (i := 23) (oi := ⟨some 91, _, _, _, _, _⟩) (v := ?_) rfl (by kernel_rfl) (by kernel_rfl) (by kernel_rfl) (fun _ _ _ h => h) (Or.inl ⟨by rfl, ?_⟩) (by assumption) ?_
                  rotate_left
                  · intro w hSw
                    (try dsimp only at hSw)
                    go_simp
                    all_goals (with_reducible rfl)
                  try simp only [Act.put, List.setIfInBounds_toArray, List.set_cons_zero, List.set_cons_succ]
                  refine wpAnyH_take (i := 24) (oi := ⟨some 2, _, _, _, _, _⟩) (v := ?_) rfl (by kernel_rfl) (by kernel_rfl) (by kernel_rfl) (fun _ _ _ h => h) (Or.inl ⟨by rfl, ?_⟩) (by assumption) ?_
                  rotate_left
                  · intro w hSw
                    (try dsimp only at hSw)
                    go_simp
                    all_goals (with_reducible rfl)
                  try simp only [Act.put, List.setIfInBounds_toArray, List.set_cons_zero, List.set_cons_succ]
                  refine wpAnyH_done (by kernel_rfl) ?_ _
                  clear m0 m1 m2 m3 m4 hbl
                  go_wp2
                  go_ret
                  exact told_mk rfl HB_y15.out
                · have hg := HG.out
                  obtain rfl : q = false := by rw [← hq2]; exact decide_eq_false (by omega)
                  clear hq2
                  clear hg
                  have t3 := decide_eq_true h1
                  have t4 := decide_eq_false h3
                  have hwr : IntKind.i64.wrap ((n : Int) - need) = (n : Int) - need := IntWalk.i64_in _ (by have := HG.out; omega)
                  subst h2
                  subst h4
                  clear h1 h3
                  go_wp2
                  clear m0 m1 m2 m3 m4 hbl
                  obtain ⟨y16, h_y16⟩ : ∃ z, wr.drew = z := ⟨_, rfl⟩
                  have hbd : Below wr.heap.size wr y16 := h_y16 ▸ (Below.refl _ _).drew
                  have HX_y16 := Lib.hid ((hbd.block _ (lt_of_block HX_wr.out)).trans HX_wr.out)
                  have HR_y16 := Lib.hid (HR_wr.out.below hbd (Nat.le_refl _))
                  have HB_y16 : Hid (Below w.heap.size w y16) := HB_wr.out.trans (hbd.mono HB_wr.out.size)
                  have HS_y16 : Hid (Below y16.heap.size y16 y16) := Below.refl _ _
                  clear hbd
                  obtain ⟨⟨m0, m1, m2, m3, m4⟩, hbl⟩ := five26 HX_y16.out
                  refine wp_region_held_drew (S := fun z => Below y16.heap.size y16 z) (by kernel_rfl) (by show Below _ _ _; rw [h_y16]; exact Below.refl _ _) (fun hHeld => ?_)
                  rw [h_y16]
                  clear h_y16
                  refine wpAnyH_take (i := 0) (oi := ⟨some 68, _, _, _, _, _⟩) (v := ?_) rfl (by kernel_rfl) (by kernel_rfl) (by kernel_rfl) (fun _ _ _ h => h) (Or.inl ⟨by rfl, ?_⟩) (by assumption) ?_
                  rotate_left
                  · intro w hSw
                    have kk0 := (hSw.cell (p := ⟨b, 0, none⟩) hbl).trans m0
                    have kk1 := (hSw.cell (p := ⟨b, 1, none⟩) hbl).trans m1
                    have kk2 := (hSw.cell (p := ⟨b, 2, none⟩) hbl).trans m2
                    have kk3 := (hSw.cell (p := ⟨b, 3, none⟩) hbl).trans m3
                    have kk4 := (hSw.cell (p := ⟨b, 4, none⟩) hbl).trans m4
                    clear hSw
                    go_simp
                    all_goals (with_reducible rfl)
                  try simp only [Act.put, List.setIfInBounds_toArray, List.set_cons_zero, List.set_cons_succ]
                  refine wpAnyH_ready (rs := [1]) (by kernel_rfl) (by simp) (AllReadyH.cons (o := ⟨some 69, _, _, _, _, _⟩) rfl (fun K hK => ?_) AllReadyH.nil)
                  go_simp
                  refine (rmany_is _ s v need 1 2 HR_y16.out hn E_2.out).mono ?_
                  rintro e y17 ⟨rfl, hbv⟩
                  have HX_y17 := Lib.hid ((hbv.block _ (lt_of_block HX_y16.out)).trans HX_y16.out)
                  have HR_y17 := Lib.hid (HR_y16.out.below hbv (Nat.le_refl _))
                  have HB_y17 : Hid (Below w.heap.size w y17) := HB_y16.out.trans (hbv.mono HB_y16.out.size)
                  have HS_y17 : Hid (Below y16.heap.size y16 y17) := HS_y16.out.trans (hbv.mono HS_y16.out.size)
                  clear hbv
                  refine hK.out _ _ (HS_y17.out) (fun hHeld => ?_)
                  clear hK K
                  try simp only [Act.put, List.setIfInBounds_toArray, List.set_cons_zero, List.set_cons_succ]
                  refine wpAnyH_take (i := 2) (oi := ⟨some 70, _, _, _, _, _⟩) (v := ?_) rfl (by kernel_rfl) (by kernel_rfl) (by kernel_rfl) (fun _ _ _ h => h) (Or.inl ⟨by rfl, ?_⟩) (by assumption) ?_
                  rotate_left
                  · intro w hSw
                    (try dsimp only at hSw)
                    go_simp
                    all_goals (with_reducible rfl)
                  try simp only [Act.put, List.setIfInBounds_toArray, List.set_cons_zero, List.set_cons_succ]
                  refine wpAnyH_take (i := 3) (oi := ⟨some 71, _, _, _, _, _⟩) (v := ?_) rfl (by kernel_rfl) (by kernel_rfl) (by kernel_rfl) (fun _ _ _ h => h) (Or.inl ⟨by rfl, ?_⟩) (by assumption) ?_
                  rotate_left
                  · intro w hSw
                    (try dsimp only at hSw)
                    go_simp
                    all_goals (with_reducible rfl)
                  try simp only [Act.put, List.setIfInBounds_toArray, List.set_cons_zero, List.set_cons_succ]
                  refine wpAnyH_take (i := 4) (oi := ⟨some 72, _, _, _, _, _⟩) (v := ?_) rfl (by kernel_rfl) (by kernel_rfl) (by kernel_rfl) (fun _ _ _ h => h) (Or.inl ⟨by rfl, ?_⟩) (by assumption) ?_
                  rotate_left
                  · intro w hSw
                    have kk0 := (hSw.cell (p := ⟨b, 0, none⟩) hbl).trans m0
                    have kk1 := (hSw.cell (p := ⟨b, 1, none⟩) hbl).trans m1
                    have kk2 := (hSw.cell (p := ⟨b, 2, none⟩) hbl).trans m2
                    have kk3 := (hSw.cell (p := ⟨b, 3, none⟩) hbl).trans m3
                    have kk4 := (hSw.cell (p := ⟨b, 4, none⟩) hbl).trans m4
                    clear hSw
                    go_simp
                    all_goals (with_reducible rfl)
                  try simp only [Act.put, List.setIfInBounds_toArray, List.set_cons_zero, List.set_cons_succ]
                  refine wpAnyH_ready (rs := [5]) (by kernel_rfl) (by simp) (AllReadyH.cons (o := ⟨some 73, _, _, _, _, _⟩) rfl (fun K hK => ?_) AllReadyH.nil)
                  go_simp
                  refine (rmany_is _ s v need 1 4 HR_y17.out hn E_4.out).mono ?_
                  rintro e y18 ⟨rfl, hbv⟩
                  have HX_y18 := Lib.hid ((hbv.block _ (lt_of_block HX_y17.out)).trans HX_y17.out)
                  have HR_y18 := Lib.hid (HR_y17.out.below hbv (Nat.le_refl _))
                  have HB_y18 : Hid (Below w.heap.size w y18) := HB_y17.out.trans (hbv.mono HB_y17.out.size)
                  have HS_y18 : Hid (Below y16.heap.size y16 y18) := HS_y17.out.trans (hbv.mono HS_y17.out.size)
                  clear hbv
                  refine hK.out _ _ (HS_y18.out) (fun hHeld => ?_)
                  clear hK K
                  try simp only [Act.put, List.setIfInBounds_toArray, List.set_cons_zero, List.set_cons_succ]
                  refine wpAnyH_take (i := 6) (oi := ⟨some 74, _, _, _, _, _⟩) (v := ?_) rfl (by kernel_rfl) (by kernel_rfl) (by kernel_rfl) (fun _ _ _ h => h) (Or.inl ⟨by rfl, ?_⟩) (by assumption) ?_
                  rotate_left
                  · intro w hSw
                    (try dsimp only at hSw)
                    go_simp
                    all_goals (with_reducible rfl)
                  try simp only [Act.put, List.setIfInBounds_toArray, List.set_cons_zero, List.set_cons_succ]
                  refine wpAnyH_take (i := 7) (oi := ⟨some 75, _, _, _, _, _⟩) (v := ?_) rfl (by kernel_rfl) (by kernel_rfl) (by kernel_rfl) (fun _ _ _ h => h) (Or.inl ⟨by rfl, ?_⟩) (by assumption) ?_
                  rotate_left
                  · intro w hSw
                    (try dsimp only at hSw)
                    go_simp
                    all_goals (with_reducible rfl)
                  try simp only [Act.put, List.setIfInBounds_toArray, List.set_cons_zero, List.set_cons_succ]
                  refine wpAnyH_take (i := 8) (oi := ⟨some 76, _, _, _, _, _⟩) (v := ?_) rfl (by kernel_rfl) (by kernel_rfl) (by kernel_rfl) (fun _ _ _ h => h) (Or.inl ⟨by rfl, ?_⟩) (by assumption) ?_
                  rotate_left
                  · intro w hSw
                    (try dsimp only at hSw)
                    go_simp
                    all_goals (with_reducible rfl)
                  try simp only [Act.put, List.setIfInBounds_toArray, List.set_cons_zero, List.set_cons_succ]
                  refine wpAnyH_take (i := 9) (oi := ⟨some 77, _, _, _, _, _⟩) (v := ?_) rfl (by kernel_rfl) (by kernel_rfl) (by kernel_rfl) (fun _ _ _ h => h) (Or.inl ⟨by rfl, ?_⟩) (by assumption) ?_
                  rotate_left
                  · intro w hSw
                    have kk0 := (hSw.cell (p := ⟨b, 0, none⟩) hbl).trans m0
                    have kk1 := (hSw.cell (p := ⟨b, 1, none⟩) hbl).trans m1
                    have kk2 := (hSw.cell (p := ⟨b, 2, none⟩) hbl).trans m2
                    have kk3 := (hSw.cell (p := ⟨b, 3, none⟩) hbl).trans m3
                    have kk4 := (hSw.cell (p := ⟨b, 4, none⟩) hbl).trans m4
                    clear hSw
                    go_simp
                    all_goals (with_reducible rfl)
                  try simp only [Act.put, List.setIfInBounds_toArray, List.set_cons_zero, List.set_cons_succ]
                  refine wpAnyH_take (i := 11) (oi := ⟨some 79, _, _, _, _, _⟩) (v := ?_) rfl (by kernel_rfl) (by kernel_rfl) (by kernel_rfl) (fun _ _ _ h => h) (Or.inl ⟨by rfl, ?_⟩) (by assumption) ?_
                  rotate_left
                  · intro w hSw
                    (try dsimp only at hSw)
                    go_simp
                    all_goals (with_reducible rfl)
                  try simp only [Act.put, List.setIfInBounds_toArray, List.set_cons_zero, List.set_cons_succ]
                  refine wpAnyH_take (i := 12) (oi := ⟨some 80, _, _, _, _, _⟩) (v := ?_) rfl (by kernel_rfl) (by kernel_rfl) (by kernel_rfl) (fun _ _ _ h => h) (Or.inl ⟨by rfl, ?_⟩) (by assumption) ?_
                  rotate_left
                  · intro w hSw
                    have kk0 := (hSw.cell (p := ⟨b, 0, none⟩) hbl).trans m0
                    have kk1 := (hSw.cell (p := ⟨b, 1, none⟩) hbl).trans m1
                    have kk2 := (hSw.cell (p := ⟨b, 2, none⟩) hbl).trans m2
                    have kk3 := (hSw.cell (p := ⟨b, 3, none⟩) hbl).trans m3
                    have kk4 := (hSw.cell (p := ⟨b, 4, none⟩) hbl).trans m4
                    clear hSw
                    go_simp
                    all_goals (with_reducible rfl)
                  try simp only [Act.put, List.setIfInBounds_toArray, List.set_cons_zero, List.set_cons_succ]
                  refine wpAnyH_ready (rs := [10]) (by kernel_rfl) (by simp) (AllReadyH.cons (o := ⟨some 78, _, _, _, _, _⟩) rfl (fun K hK => ?_) AllReadyH.nil)
                  go_simp
                  refine (rmany_is _ s v need 1 1 HR_y18.out hn E_1.out).mono ?_
                  rintro e y19 ⟨rfl, hbv⟩
                  have HX_y19 := Lib.hid ((hbv.block _ (lt_of_block HX_y18.out)).trans HX_y18.out)
                  have HR_y19 := Lib.hid (HR_y18.out.below hbv (Nat.le_refl _))
                  have HB_y19 : Hid (Below w.heap.size w y19) := HB_y18.out.trans (hbv.mono HB_y18.out.size)
                  have HS_y19 : Hid (Below y16.heap.size y16 y19) := HS_y18.out.trans (hbv.mono HS_y18.out.size)
                  clear hbv
                  refine hK.out _ _ (HS_y19.out) (fun hHeld => ?_)
                  clear hK K
                  try simp only [Act.put, List.setIfInBounds_toArray, List.set_cons_zero, List.set_cons_succ]
                  refine wpAnyH_take (i := 13) (oi := ⟨some 81, _, _, _, _, _⟩) (v := ?_) rfl (by kernel_rfl) (by kernel_rfl) (by kernel_rfl) (fun _ _ _ h => h) (Or.inl ⟨by rfl, ?_⟩) (by assumption) ?_
                  rotate_left
                  · intro w hSw
                    (try dsimp only at hSw)
                    go_simp
                    all_goals (with_reducible rfl)
                  try simp only [Act.put, List.setIfInBounds_toArray, List.set_cons_zero, List.set_cons_succ]
                  refine wpAnyH_take (i := 14) (oi := ⟨some 82, _, _, _, _, _⟩) (v := ?_) rfl (by kernel_rfl) (by kernel_rfl) (by kernel_rfl) (fun _ _ _ h => h) (Or.inl ⟨by rfl, ?_⟩) (by assumption) ?_
                  rotate_left
                  · intro w hSw
                    (try dsimp only at hSw)
                    go_simp
                    all_goals (with_reducible rfl)
                  try simp only [Act.put, List.setIfInBounds_toArray, List.set_cons_zero, List.set_cons_succ]
                  refine wpAnyH_take (i := 15) (oi := ⟨some 83, _, _, _, _, _⟩) (v := ?_) rfl (by kernel_rfl) (by kernel_rfl) (by kernel_rfl) (fun _ _ _ h => h) (Or.inl ⟨by rfl, ?_⟩) (by assumption) ?_
                  rotate_left
                  · intro w hSw
                    (try dsimp only at hSw)
                    go_simp
                    all_goals (with_reducible rfl)
                  try simp only [Act.put, List.setIfInBounds_toArray, List.set_cons_zero, List.set_cons_succ]
                  refine wpAnyH_take (i := 16) (oi := ⟨some 84, _, _, _, _, _⟩) (v := ?_) rfl (by kernel_rfl) (by kernel_rfl) (by kernel_rfl) (fun _ _ _ h => h) (Or.inl ⟨by rfl, ?_⟩) (by assumption) ?_
                  rotate_left
                  · intro w hSw
                    have kk0 := (hSw.cell (p := ⟨b, 0, none⟩) hbl).trans m0
                    have kk1 := (hSw.cell (p := ⟨b, 1, none⟩) hbl).trans m1
                    have kk2 := (hSw.cell (p := ⟨b, 2, none⟩) hbl).trans m2
                    have kk3 := (hSw.cell (p := ⟨b, 3, none⟩) hbl).trans m3
                    have kk4 := (hSw.cell (p := ⟨b, 4, none⟩) hbl).trans m4
                    clear hSw
                    go_simp
                    all_goals (with_reducible rfl)
                  try simp only [Act.put, List.setIfInBounds_toArray, List.set_cons_zero, List.set_cons_succ]
                  refine wpAnyH_take (i := 18) (oi := ⟨some 86, _, _, _, _, _⟩) (v := ?_) rfl (by kernel_rfl) (by kernel_rfl) (by kernel_rfl) (fun _ _ _ h => h) (Or.inl ⟨by rfl, ?_⟩) (by assumption) ?_
                  rotate_left
                  · intro w hSw
                    (try dsimp only at hSw)
                    go_simp
                    all_goals (with_reducible rfl)
                  try simp only [Act.put, List.setIfInBounds_toArray, List.set_cons_zero, List.set_cons_succ]
                  refine wpAnyH_take (i := 19) (oi := ⟨some 87, _, _, _, _, _⟩) (v := ?_) rfl (by kernel_rfl) (by kernel_rfl) (by kernel_rfl) (fun _ _ _ h => h) (Or.inl ⟨by rfl, ?_⟩) (by assumption) ?_
                  rotate_left
                  · intro w hSw
                    (try dsimp only at hSw)
                    go_simp
                    all_goals (with_reducible rfl)
                  try simp only [Act.put, List.setIfInBounds_toArray, List.set_cons_zero, List.set_cons_succ]
                  refine wpAnyH_take (i := 20) (oi := ⟨some 88, _, _, _, _, _⟩) (v := ?_) rfl (by kernel_rfl) (by kernel_rfl) (by kernel_rfl) (fun _ _ _ h => h) (Or.inl ⟨by rfl, ?_⟩) (by assumption) ?_
                  rotate_left
                  · intro w hSw
                    have kk0 := (hSw.cell (p := ⟨b, 0, none⟩) hbl).trans m0
                    have kk1 := (hSw.cell (p := ⟨b, 1, none⟩) hbl).trans m1
                    have kk2 := (hSw.cell (p := ⟨b, 2, none⟩) hbl).trans m2
                    have kk3 := (hSw.cell (p := ⟨b, 3, none⟩) hbl).trans m3
                    have kk4 := (hSw.cell (p := ⟨b, 4, none⟩) hbl).trans m4
                    clear hSw
                    go_simp
                    all_goals (with_reducible rfl)
                  try simp only [Act.put, List.setIfInBounds_toArray, List.set_cons_zero, List.set_cons_succ]
                  refine wpAnyH_take (i := 21) (oi := ⟨some 89, _, _, _, _, _⟩) (v := ?_) rfl (by kernel_rfl) (by kernel_rfl) (by kernel_rfl) (fun _ _ _ h => h) (Or.inl ⟨by rfl, ?_⟩) (by assumption) ?_
                  rotate_left
                  · intro w hSw
                    (try dsimp only at hSw)
                    go_simp
                    all_goals (with_reducible rfl)
                  try simp only [Act.put, List.setIfInBounds_toArray, List.set_cons_zero, List.set_cons_succ]
                  refine wpAnyH_ready (rs := [17]) (by kernel_rfl) (by simp) (AllReadyH.cons (o := ⟨some 85, _, _, _, _, _⟩) rfl (fun K hK => ?_) AllReadyH.nil)
                  go_simp
                  refine (rmany_is _ s v need 1 3 HR_y19.out hn E_3.out).mono ?_
                  rintro e y20 ⟨rfl, hbv⟩
                  have HX_y20 := Lib.hid ((hbv.block _ (lt_of_block HX_y19.out)).trans HX_y19.out)
                  have HR_y20 := Lib.hid (HR_y19.out.below hbv (Nat.le_refl _))
                  have HB_y20 : Hid (Below w.heap.size w y20) := HB_y19.out.trans (hbv.mono HB_y19.out.size)
                  have HS_y20 : Hid (Below y16.heap.size y16 y20) := HS_y19.out.trans (hbv.mono HS_y19.out.size)
                  clear hbv
                  refine hK.out _ _ (HS_y20.out) (fun hHeld => ?_)
                  clear hK K
                  try simp only [Act.put, List.setIfInBounds_toArray, List.set_cons_zero, List.set_cons_succ]
                  refine wpAnyH_take (i := 22) (oi := ⟨some 90, _, _, _, _, _⟩) (v := ?_) rfl (by kernel_rfl) (by kernel_rfl) (by kernel_rfl) (fun _ _ _ h => h) (Or.inl ⟨by rfl, ?_⟩) (by assumption) ?_
                  rotate_left
                  · intro w hSw
                    (try dsimp only at hSw)
                    go_simp
                    all_goals (with_reducible rfl)
                  try simp only [Act.put, List.setIfInBounds_toArray, List.set_cons_zero, List.set_cons_succ]
                  refine wpAnyH_take (i := 23) (oi := ⟨some 91, _, _, _, _, _⟩) (v := ?_) rfl (by kernel_rfl) (by kernel_rfl) (by kernel_rfl) (fun _ _ _ h => h) (Or.inl ⟨by rfl, ?_⟩) (by assumption) ?_
                  rotate_left
                  · intro w hSw
                    (try dsimp only at hSw)
                    go_simp
                    all_goals (with_reducible rfl)
                  try simp only [Act.put, List.setIfInBounds_toArray, List.set_cons_zero, List.set_cons_succ]
                  refine wpAnyH_take (i := 24) (oi := ⟨some 2, _, _, _, _, _⟩) (v := ?_) rfl (by kernel_rfl) (by kernel_rfl) (by kernel_rfl) (fun _ _ _ h => h) (Or.inl ⟨by rfl, ?_⟩) (by assumption) ?_
                  rotate_left
                  · intro w hSw
                    (try dsimp only at hSw)
                    go_simp
                    all_goals (with_reducible rfl)
                  try simp only [Act.put, List.setIfInBounds_toArray, List.set_cons_zero, List.set_cons_succ]
                  refine wpAnyH_done (by kernel_rfl) ?_ _
                  clear m0 m1 m2 m3 m4 hbl
                  go_wp2
                  go_ret
                  exact told_mk rfl HB_y20.out
              · have hg := HG.out
                obtain rfl : q = false := by rw [← hq2]; exact decide_eq_false (by omega)
                clear hq2
                clear hg
                have t3 := decide_eq_false h1
                subst h2
                subst h4
                clear h1
                go_wp2
                clear m0 m1 m2 m3 m4 hbl
                obtain ⟨y21, h_y21⟩ : ∃ z, wr.drew = z := ⟨_, rfl⟩
                have hbd : Below wr.heap.size wr y21 := h_y21 ▸ (Below.refl _ _).drew
                have HX_y21 := Lib.hid ((hbd.block _ (lt_of_block HX_wr.out)).trans HX_wr.out)
                have HR_y21 := Lib.hid (HR_wr.out.below hbd (Nat.le_refl _))
                have HB_y21 : Hid (Below w.heap.size w y21) := HB_wr.out.trans (hbd.mono HB_wr.out.size)
                have HS_y21 : Hid (Below y21.heap.size y21 y21) := Below.refl _ _
                clear hbd
                obtain ⟨⟨m0, m1, m2, m3, m4⟩, hbl⟩ := five26 HX_y21.out
                refine wp_region_held_drew (S := fun z => Below y21.heap.size y21 z) (by kernel_rfl) (by show Below _ _ _; rw [h_y21]; exact Below.refl _ _) (fun hHeld => ?_)
                rw [h_y21]
                clear h_y21
                refine wpAnyH_take (i := 0) (oi := ⟨some 68, _, _, _, _, _⟩) (v := ?_) rfl (by kernel_rfl) (by kernel_rfl) (by kernel_rfl) (fun _ _ _ h => h) (Or.inl ⟨by rfl, ?_⟩) (by assumption) ?_
                rotate_left
                · intro w hSw
                  have kk0 := (hSw.cell (p := ⟨b, 0, none⟩) hbl).trans m0
                  have kk1 := (hSw.cell (p := ⟨b, 1, none⟩) hbl).trans m1
                  have kk2 := (hSw.cell (p := ⟨b, 2, none⟩) hbl).trans m2
                  have kk3 := (hSw.cell (p := ⟨b, 3, none⟩) hbl).trans m3
                  have kk4 := (hSw.cell (p := ⟨b, 4, none⟩) hbl).trans m4
                  clear hSw
                  go_simp
                  all_goals (with_reducible rfl)
                try simp only [Act.put, List.setIfInBounds_toArray, List.set_cons_zero, List.set_cons_succ]
                refine wpAnyH_ready (rs := [1]) (by kernel_rfl) (by simp) (AllReadyH.cons (o := ⟨some 69, _, _, _, _, _⟩) rfl (fun K hK => ?_) AllReadyH.nil)
                go_simp
                refine (rmany_is _ s v need 1 2 HR_y21.out hn E_2.out).mono ?_
                rintro e y22 ⟨rfl, hbv⟩
                have HX_y22 := Lib.hid ((hbv.block _ (lt_of_block HX_y21.out)).trans HX_y21.out)
                have HR_y22 := Lib.hid (HR_y21.out.below hbv (Nat.le_refl _))
                have HB_y22 : Hid (Below w.heap.size w y22) := HB_y21.out.trans (hbv.mono HB_y21.out.size)
                have HS_y22 : Hid (Below y21.heap.size y21 y22) := HS_y21.out.trans (hbv.mono HS_y21.out.size)
                clear hbv
                refine hK.out _ _ (HS_y22.out) (fun hHeld => ?_)
                clear hK K
                try simp only [Act.put, List.setIfInBounds_toArray, List.set_cons_zero, List.set_cons_succ]
                refine wpAnyH_take (i := 2) (oi := ⟨some 70, _, _, _, _, _⟩) (v := ?_) rfl (by kernel_rfl) (by kernel_rfl) (by kernel_rfl) (fun _ _ _ h => h) (Or.inl ⟨by rfl, ?_⟩) (by assumption) ?_
                rotate_left
                · intro w hSw
                  (try dsimp only at hSw)
                  go_simp
                  all_goals (with_reducible rfl)
                try simp only [Act.put, List.setIfInBounds_toArray, List.set_cons_zero, List.set_cons_succ]
                refine wpAnyH_take (i := 3) (oi := ⟨some 71, _, _, _, _, _⟩) (v := ?_) rfl (by kernel_rfl) (by kernel_rfl) (by kernel_rfl) (fun _ _ _ h => h) (Or.inl ⟨by rfl, ?_⟩) (by assumption) ?_
                rotate_left
                · intro w hSw
                  (try dsimp only at hSw)
                  go_simp
                  all_goals (with_reducible rfl)
                try simp only [Act.put, List.setIfInBounds_toArray, List.set_cons_zero, List.set_cons_succ]
                refine wpAnyH_take (i := 4) (oi := ⟨some 72, _, _, _, _, _⟩) (v := ?_) rfl (by kernel_rfl) (by kernel_rfl) (by kernel_rfl) (fun _ _ _ h => h) (Or.inl ⟨by rfl, ?_⟩) (by assumption) ?_
                rotate_left
                · intro w hSw
                  have kk0 := (hSw.cell (p := ⟨b, 0, none⟩) hbl).trans m0
                  have kk1 := (hSw.cell (p := ⟨b, 1, none⟩) hbl).trans m1
                  have kk2 := (hSw.cell (p := ⟨b, 2, none⟩) hbl).trans m2
                  have kk3 := (hSw.cell (p := ⟨b, 3, none⟩) hbl).trans m3
                  have kk4 := (hSw.cell (p := ⟨b, 4, none⟩) hbl).trans m4
                  clear hSw
                  go_simp
                  all_goals (with_reducible rfl)
                try simp only [Act.put, List.setIfInBounds_toArray, List.set_cons_zero, List.set_cons_succ]
                refine wpAnyH_ready (rs := [5]) (by kernel_rfl) (by simp) (AllReadyH.cons (o := ⟨some 73, _, _, _, _, _⟩) rfl (fun K hK => ?_) AllReadyH.nil)
                go_simp
                refine (rmany_is _ s v need 1 4 HR_y22.out hn E_4.out).mono ?_
                rintro e y23 ⟨rfl, hbv⟩
                have HX_y23 := Lib.hid ((hbv.block _ (lt_of_block HX_y22.out)).trans HX_y22.out)
                have HR_y23 := Lib.hid (HR_y22.out.below hbv (Nat.le_refl _))
                have HB_y23 : Hid (Below w.heap.size w y23) := HB_y22.out.trans (hbv.mono HB_y22.out.size)
                have HS_y23 : Hid (Below y21.heap.size y21 y23) := HS_y22.out.trans (hbv.mono HS_y22.out.size)
                clear hbv
                refine hK.out _ _ (HS_y23.out) (fun hHeld => ?_)
                clear hK K
                try simp only [Act.put, List.setIfInBounds_toArray, List.set_cons_zero, List.set_cons_succ]
                refine wpAnyH_take (i := 6) (oi := ⟨some 74, _, _, _, _, _⟩) (v := ?_) rfl (by kernel_rfl) (by kernel_rfl) (by kernel_rfl) (fun _ _ _ h => h) (Or.inl ⟨by rfl, ?_⟩) (by assumption) ?_
                rotate_left
                · intro w hSw
                  (try dsimp only at hSw)
                  go_simp
                  all_goals (with_reducible rfl)
                try simp only [Act.put, List.setIfInBounds_toArray, List.set_cons_zero, List.set_cons_succ]
                refine wpAnyH_take (i := 7) (oi := ⟨some 75, _, _, _, _, _⟩) (v := ?_) rfl (by kernel_rfl) (by kernel_rfl) (by kernel_rfl) (fun _ _ _ h => h) (Or.inl ⟨by rfl, ?_⟩) (by assumption) ?_
                rotate_left
                · intro w hSw
                  (try dsimp only at hSw)
                  go_simp
                  all_goals (with_reducible rfl)
                try simp only [Act.put, List.setIfInBounds_toArray, List.set_cons_zero, List.set_cons_succ]
                refine wpAnyH_take (i := 8) (oi := ⟨some 76, _, _, _, _, _⟩) (v := ?_) rfl (by kernel_rfl) (by kernel_rfl) (by kernel_rfl) (fun _ _ _ h => h) (Or.inl ⟨by rfl, ?_⟩) (by assumption) ?_
                rotate_left
                · intro w hSw
                  (try dsimp only at hSw)
                  go_simp
                  all_goals (with_reducible rfl)
                try simp only [Act.put, List.setIfInBounds_toArray, List.set_cons_zero, List.set_cons_succ]
                refine wpAnyH_take (i := 9) (oi := ⟨some 77, _, _, _, _, _⟩) (v := ?_) rfl (by kernel_rfl) (by kernel_rfl) (by kernel_rfl) (fun _ _ _ h => h) (Or.inl ⟨by rfl, ?_⟩) (by assumption) ?_
                rotate_left
                · intro w hSw
                  have kk0 := (hSw.cell (p := ⟨b, 0, none⟩) hbl).trans m0
                  have kk1 := (hSw.cell (p := ⟨b, 1, none⟩) hbl).trans m1
                  have kk2 := (hSw.cell (p := ⟨b, 2, none⟩) hbl).trans m2
                  have kk3 := (hSw.cell (p := ⟨b, 3, none⟩) hbl).trans m3
                  have kk4 := (hSw.cell (p := ⟨b, 4, none⟩) hbl).trans m4
                  clear hSw
                  go_simp
                  all_goals (with_reducible rfl)
                try simp only [Act.put, List.setIfInBounds_toArray, List.set_cons_zero, List.set_cons_succ]
                refine wpAnyH_take (i := 11) (oi := ⟨some 79, _, _, _, _, _⟩) (v := ?_) rfl (by kernel_rfl) (by kernel_rfl) (by kernel_rfl) (fun _ _ _ h => h) (Or.inl ⟨by rfl, ?_⟩) (by assumption) ?_
                rotate_left
                · intro w hSw
                  (try dsimp only at hSw)
                  go_simp
                  all_goals (with_reducible rfl)
                try simp only [Act.put, List.setIfInBounds_toArray, List.set_cons_zero, List.set_cons_succ]
                refine wpAnyH_take (i := 12) (oi := ⟨some 80, _, _, _, _, _⟩) (v := ?_) rfl (by kernel_rfl) (by kernel_rfl) (by kernel_rfl) (fun _ _ _ h => h) (Or.inl ⟨by rfl, ?_⟩) (by assumption) ?_
                rotate_left
                · intro w hSw
                  have kk0 := (hSw.cell (p := ⟨b, 0, none⟩) hbl).trans m0
                  have kk1 := (hSw.cell (p := ⟨b, 1, none⟩) hbl).trans m1
                  have kk2 := (hSw.cell (p := ⟨b, 2, none⟩) hbl).trans m2
                  have kk3 := (hSw.cell (p := ⟨b, 3, none⟩) hbl).trans m3
                  have kk4 := (hSw.cell (p := ⟨b, 4, none⟩) hbl).trans m4
                  clear hSw
                  go_simp
                  all_goals (with_reducible rfl)
                try simp only [Act.put, List.setIfInBounds_toArray, List.set_cons_zero, List.set_cons_succ]
                refine wpAnyH_ready (rs := [10]) (by kernel_rfl) (by simp) (AllReadyH.cons (o := ⟨some 78, _, _, _, _, _⟩) rfl (fun K hK => ?_) AllReadyH.nil)
                go_simp
                refine (rmany_is _ s v need 1 1 HR_y23.out hn E_1.out).mono ?_
                rintro e y24 ⟨rfl, hbv⟩
                have HX_y24 := Lib.hid ((hbv.block _ (lt_of_block HX_y23.out)).trans HX_y23.out)
                have HR_y24 := Lib.hid (HR_y23.out.below hbv (Nat.le_refl _))
                have HB_y24 : Hid (Below w.heap.size w y24) := HB_y23.out.trans (hbv.mono HB_y23.out.size)
                have HS_y24 : Hid (Below y21.heap.size y21 y24) := HS_y23.out.trans (hbv.mono HS_y23.out.size)
                clear hbv
                refine hK.out _ _ (HS_y24.out) (fun hHeld => ?_)
                clear hK K
                try simp only [Act.put, List.setIfInBounds_toArray, List.set_cons_zero, List.set_cons_succ]
                refine wpAnyH_take (i := 13) (oi := ⟨some 81, _, _, _, _, _⟩) (v := ?_) rfl (by kernel_rfl) (by kernel_rfl) (by kernel_rfl) (fun _ _ _ h => h) (Or.inl ⟨by rfl, ?_⟩) (by assumption) ?_
                rotate_left
                · intro w hSw
                  (try dsimp only at hSw)
                  go_simp
                  all_goals (with_reducible rfl)
                try simp only [Act.put, List.setIfInBounds_toArray, List.set_cons_zero, List.set_cons_succ]
                refine wpAnyH_take (i := 14) (oi := ⟨some 82, _, _, _, _, _⟩) (v := ?_) rfl (by kernel_rfl) (by kernel_rfl) (by kernel_rfl) (fun _ _ _ h => h) (Or.inl ⟨by rfl, ?_⟩) (by assumption) ?_
                rotate_left
                · intro w hSw
                  (try dsimp only at hSw)
                  go_simp
                  all_goals (with_reducible rfl)
                try simp only [Act.put, List.setIfInBounds_toArray, List.set_cons_zero, List.set_cons_succ]
                refine wpAnyH_take (i := 15) (oi := ⟨some 83, _, _, _, _, _⟩) (v := ?_) rfl (by kernel_rfl) (by kernel_rfl) (by kernel_rfl) (fun _ _ _ h => h) (Or.inl ⟨by rfl, ?_⟩) (by assumption) ?_
                rotate_left
                · intro w hSw
                  (try dsimp only at hSw)
                  go_simp
                  all_goals (with_reducible rfl)
                try simp only [Act.put, List.setIfInBounds_toArray, List.set_cons_zero, List.set_cons_succ]
                refine wpAnyH_take (i := 16) (oi := ⟨some 84, _, _, _, _, _⟩) (v := undef) rfl (by kernel_rfl) (by kernel_rfl) (by kernel_rfl) (fun _ _ _ h => h) (Or.inr ⟨by rfl, rfl⟩) (by assumption) ?_
                try simp only [Act.put, List.setIfInBounds_toArray, List.set_cons_zero, List.set_cons_succ]
                refine wpAnyH_take (i := 17) (oi := ⟨some 85, _, _, _, _, _⟩) (v := undef) rfl (by kernel_rfl) (by kernel_rfl) (by kernel_rfl) (fun _ _ _ h => h) (Or.inr ⟨by rfl, rfl⟩) (by assumption) ?_
                try simp only [Act.put, List.setIfInBounds_toArray, List.set_cons_zero, List.set_cons_succ]
                refine wpAnyH_take (i := 18) (oi := ⟨some 86, _, _, _, _, _⟩) (v := undef) rfl (by kernel_rfl) (by kernel_rfl) (by kernel_rfl) (fun _ _ _ h => h) (Or.inr ⟨by rfl, rfl⟩) (by assumption) ?_
                try simp only [Act.put, List.setIfInBounds_toArray, List.set_cons_zero, List.set_cons_succ]
                refine wpAnyH_take (i := 19) (oi := ⟨some 87, _, _, _, _, _⟩) (v := undef) rfl (by kernel_rfl) (by kernel_rfl) (by kernel_rfl) (fun _ _ _ h => h) (Or.inr ⟨by rfl, rfl⟩) (by assumption) ?_
                try simp only [Act.put, List.setIfInBounds_toArray, List.set_cons_zero, List.set_cons_succ]
                refine wpAnyH_take (i := 20) (oi := ⟨some 88, _, _, _, _, _⟩) (v := undef) rfl (by kernel_rfl) (by kernel_rfl) (by kernel_rfl) (fun _ _ _ h => h) (Or.inr ⟨by rfl, rfl⟩) (by assumption) ?_
                try simp only [Act.put, List.setIfInBounds_toArray, List.set_cons_zero, List.set_cons_succ]
                refine wpAnyH_take (i := 21) (oi := ⟨some 89, _, _, _, _, _⟩) (v := undef) rfl (by kernel_rfl) (by kernel_rfl) (by kernel_rfl) (fun _ _ _ h => h) (Or.inr ⟨by rfl, rfl⟩) (by assumption) ?_
                try simp only [Act.put, List.setIfInBounds_toArray, List.set_cons_zero, List.set_cons_succ]
                refine wpAnyH_take (i := 22) (oi := ⟨some 90, _, _, _, _, _⟩) (v := undef) rfl (by kernel_rfl) (by kernel_rfl) (by kernel_rfl) (fun _ _ _ h => h) (Or.inr ⟨by rfl, rfl⟩) (by assumption) ?_
                try simp only [Act.put, List.setIfInBounds_toArray, List.set_cons_zero, List.set_cons_succ]
                refine wpAnyH_take (i := 23) (oi := ⟨some 91, _, _, _, _, _⟩) (v := ?_) rfl (by kernel_rfl) (by kernel_rfl) (by kernel_rfl) (fun _ _ _ h => h) (Or.inl ⟨by rfl, ?_⟩) (by assumption) ?_
                rotate_left
                · intro w hSw
                  (try dsimp only at hSw)
                  go_simp
                  all_goals (with_reducible rfl)
                try simp only [Act.put, List.setIfInBounds_toArray, List.set_cons_zero, List.set_cons_succ]
                refine wpAnyH_take (i := 24) (oi := ⟨some 2, _, _, _, _, _⟩) (v := ?_) rfl (by kernel_rfl) (by kernel_rfl) (by kernel_rfl) (fun _ _ _ h => h) (Or.inl ⟨by rfl, ?_⟩) (by assumption) ?_
                rotate_left
                · intro w hSw
                  (try dsimp only at hSw)
                  go_simp
                  all_goals (with_reducible rfl)
                try simp only [Act.put, List.setIfInBounds_toArray, List.set_cons_zero, List.set_cons_succ]
                refine wpAnyH_done (by kernel_rfl) ?_ _
                clear m0 m1 m2 m3 m4 hbl
                go_wp2
                go_ret
                exact told_mk rfl HB_y24.out
            · have hg := HG.out
              obtain rfl : q = false := by rw [← hq2]; exact decide_eq_false (by omega)
              clear hq2
              clear hg
              subst h2
              have u4 : (c4 == 0) = false := by simpa using h4
              clear h4
              go_wp2
              clear m0 m1 m2 m3 m4 hbl
              obtain ⟨y25, h_y25⟩ : ∃ z, wr.drew = z := ⟨_, rfl⟩
              have hbd : Below wr.heap.size wr y25 := h_y25 ▸ (Below.refl _ _).drew
              have HX_y25 := Lib.hid ((hbd.block _ (lt_of_block HX_wr.out)).trans HX_wr.out)
              have HR_y25 := Lib.hid (HR_wr.out.below hbd (Nat.le_refl _))
              have HB_y25 : Hid (Below w.heap.size w y25) := HB_wr.out.trans (hbd.mono HB_wr.out.size)
              have HS_y25 : Hid (Below y25.heap.size y25 y25) := Below.refl _ _
              clear hbd
              obtain ⟨⟨m0, m1, m2, m3, m4⟩, hbl⟩ := five26 HX_y25.out
              refine wp_region_held_drew (S := fun z => Below y25.heap.size y25 z) (by kernel_rfl) (by show Below _ _ _; rw [h_y25]; exact Below.refl _ _) (fun hHeld => ?_)
              rw [h_y25]
              clear h_y25
              refine wpAnyH_take (i := 0) (oi := ⟨some 68, _, _, _, _, _⟩) (v := ?_) rfl (by kernel_rfl) (by kernel_rfl) (by kernel_rfl) (fun _ _ _ h => h) (Or.inl ⟨by rfl, ?_⟩) (by assumption) ?_
              rotate_left
              · intro w hSw
                have kk0 := (hSw.cell (p := ⟨b, 0, none⟩) hbl).trans m0
                have kk1 := (hSw.cell (p := ⟨b, 1, none⟩) hbl).trans m1
                have kk2 := (hSw.cell (p := ⟨b, 2, none⟩) hbl).trans m2
                have kk3 := (hSw.cell (p := ⟨b, 3, none⟩) hbl).trans m3
                have kk4 := (hSw.cell (p := ⟨b, 4, none⟩) hbl).trans m4
                clear hSw
                go_simp
                all_goals (with_reducible rfl)
              try simp only [Act.put, List.setIfInBounds_toArray, List.set_cons_zero, List.set_cons_succ]
              refine wpAnyH_ready (rs := [1]) (by kernel_rfl) (by simp) (AllReadyH.cons (o := ⟨some 69, _, _, _, _, _⟩) rfl (fun K hK => ?_) AllReadyH.nil)
              go_simp
              refine (rmany_is _ s v need 1 2 HR_y25.out hn E_2.out).mono ?_
              rintro e y26 ⟨rfl, hbv⟩
              have HX_y26 := Lib.hid ((hbv.block _ (lt_of_block HX_y25.out)).trans HX_y25.out)
              have HR_y26 := Lib.hid (HR_y25.out.below hbv (Nat.le_refl _))
              have HB_y26 : Hid (Below w.heap.size w y26) := HB_y25.out.trans (hbv.mono HB_y25.out.size)
              have HS_y26 : Hid (Below y25.heap.size y25 y26) := HS_y25.out.trans (hbv.mono HS_y25.out.size)
              clear hbv
              refine hK.out _ _ (HS_y26.out) (fun hHeld => ?_)
              clear hK K
              try simp only [Act.put, List.setIfInBounds_toArray, List.set_cons_zero, List.set_cons_succ]
              refine wpAnyH_take (i := 2) (oi := ⟨some 70, _, _, _, _, _⟩) (v := ?_) rfl (by kernel_rfl) (by kernel_rfl) (by kernel_rfl) (fun _ _ _ h => h) (Or.inl ⟨by rfl, ?_⟩) (by assumption) ?_
              rotate_left
              · intro w hSw
                (try dsimp only at hSw)
                go_simp
                all_goals (with_reducible rfl)
              try simp only [Act.put, List.setIfInBounds_toArray, List.set_cons_zero, List.set_cons_succ]
              refine wpAnyH_take (i := 3) (oi := ⟨some 71, _, _, _, _, _⟩) (v := ?_) rfl (by kernel_rfl) (by kernel_rfl) (by kernel_rfl) (fun _ _ _ h => h) (Or.inl ⟨by rfl, ?_⟩) (by assumption) ?_
              rotate_left
              · intro w hSw
                (try dsimp only at hSw)
                go_simp
                all_goals (with_reducible rfl)
              try simp only [Act.put, List.setIfInBounds_toArray, List.set_cons_zero, List.set_cons_succ]
              refine wpAnyH_take (i := 4) (oi := ⟨some 72, _, _, _, _, _⟩) (v := ?_) rfl (by kernel_rfl) (by kernel_rfl) (by kernel_rfl) (fun _ _ _ h => h) (Or.inl ⟨by rfl, ?_⟩) (by assumption) ?_
              rotate_left
              · intro w hSw
                have kk0 := (hSw.cell (p := ⟨b, 0, none⟩) hbl).trans m0
                have kk1 := (hSw.cell (p := ⟨b, 1, none⟩) hbl).trans m1
                have kk2 := (hSw.cell (p := ⟨b, 2, none⟩) hbl).trans m2
                have kk3 := (hSw.cell (p := ⟨b, 3, none⟩) hbl).trans m3
                have kk4 := (hSw.cell (p := ⟨b, 4, none⟩) hbl).trans m4
                clear hSw
                go_simp
                all_goals (with_reducible rfl)
              try simp only [Act.put, List.setIfInBounds_toArray, List.set_cons_zero, List.set_cons_succ]
              refine wpAnyH_ready (rs := [5]) (by kernel_rfl) (by simp) (AllReadyH.cons (o := ⟨some 73, _, _, _, _, _⟩) rfl (fun K hK => ?_) AllReadyH.nil)
              go_simp
              refine (rmany_is _ s v need 1 4 HR_y26.out hn E_4.out).mono ?_
              rintro e y27 ⟨rfl, hbv⟩
              have HX_y27 := Lib.hid ((hbv.block _ (lt_of_block HX_y26.out)).trans HX_y26.out)
              have HR_y27 := Lib.hid (HR_y26.out.below hbv (Nat.le_refl _))
              have HB_y27 : Hid (Below w.heap.size w y27) := HB_y26.out.trans (hbv.mono HB_y26.out.size)
              have HS_y27 : Hid (Below y25.heap.size y25 y27) := HS_y26.out.trans (hbv.mono HS_y26.out.size)
              clear hbv
              refine hK.out _ _ (HS_y27.out) (fun hHeld => ?_)
              clear hK K
              try simp only [Act.put, List.setIfInBounds_toArray, List.set_cons_zero, List.set_cons_succ]
              refine wpAnyH_take (i := 6) (oi := ⟨some 74, _, _, _, _, _⟩) (v := ?_) rfl (by kernel_rfl) (by kernel_rfl) (by kernel_rfl) (fun _ _ _ h => h) (Or.inl ⟨by rfl, ?_⟩) (by assumption) ?_
              rotate_left
              · intro w hSw
                (try dsimp only at hSw)
                go_simp
                all_goals (with_reducible rfl)
              try simp only [Act.put, List.setIfInBounds_toArray, List.set_cons_zero, List.set_cons_succ]
              refine wpAnyH_take (i := 7) (oi := ⟨some 75, _, _, _, _, _⟩) (v := ?_) rfl (by kernel_rfl) (by kernel_rfl) (by kernel_rfl) (fun _ _ _ h => h) (Or.inl ⟨by rfl, ?_⟩) (by assumption) ?_
              rotate_left
              · intro w hSw
                (try dsimp only at hSw)
                go_simp
                all_goals (with_reducible rfl)
              try simp only [Act.put, List.setIfInBounds_toArray, List.set_cons_zero, List.set_cons_succ]
              refine wpAnyH_take (i := 8) (oi := ⟨some 76, _, _, _, _, _⟩) (v := ?_) rfl (by kernel_rfl) (by kernel_rfl) (by kernel_rfl) (fun _ _ _ h => h) (Or.inl ⟨by rfl, ?_⟩) (by assumption) ?_
              rotate_left
              · intro w hSw
                (try dsimp only at hSw)
                go_simp
                all_goals (with_reducible rfl)
              try simp only [Act.put, List.setIfInBounds_toArray, List.set_cons_zero, List.set_cons_succ]
              refine wpAnyH_take (i := 9) (oi := ⟨some 77, _, _, _, _, _⟩) (v := undef) rfl (by kernel_rfl) (by kernel_rfl) (by kernel_rfl) (fun _ _ _ h => h) (Or.inr ⟨by rfl, rfl⟩) (by assumption) ?_
              try simp only [Act.put, List.setIfInBounds_toArray, List.set_cons_zero, List.set_cons_succ]
              refine wpAnyH_take (i := 10) (oi := ⟨some 78, _, _, _, _, _⟩) (v := undef) rfl (by kernel_rfl) (by kernel_rfl) (by kernel_rfl) (fun _ _ _ h => h) (Or.inr ⟨by rfl, rfl⟩) (by assumption) ?_
              try simp only [Act.put, List.setIfInBounds_toArray, List.set_cons_zero, List.set_cons_succ]
              refine wpAnyH_take (i := 11) (oi := ⟨some 79, _, _, _, _, _⟩) (v := undef) rfl (by kernel_rfl) (by kernel_rfl) (by kernel_rfl) (fun _ _ _ h => h) (Or.inr ⟨by rfl, rfl⟩) (by assumption) ?_
              try simp only [Act.put, List.setIfInBounds_toArray, List.set_cons_zero, List.set_cons_succ]
              refine wpAnyH_take (i := 12) (oi := ⟨some 80, _, _, _, _, _⟩) (v := undef) rfl (by kernel_rfl) (by kernel_rfl) (by kernel_rfl) (fun _ _ _ h => h) (Or.inr ⟨by rfl, rfl⟩) (by assumption) ?_
              try simp only [Act.put, List.setIfInBounds_toArray, List.set_cons_zero, List.set_cons_succ]
              refine wpAnyH_take (i := 13) (oi := ⟨some 81, _, _, _, _, _⟩) (v := undef) rfl (by kernel_rfl) (by kernel_rfl) (by kernel_rfl) (fun _ _ _ h => h) (Or.inr ⟨by rfl, rfl⟩) (by assumption) ?_
              try simp only [Act.put, List.setIfInBounds_toArray, List.set_cons_zero, List.set_cons_succ]
              refine wpAnyH_take (i := 14) (oi := ⟨some 82, _, _, _, _, _⟩) (v := ?_) rfl (by kernel_rfl) (by kernel_rfl) (by kernel_rfl) (fun _ _ _ h => h) (Or.inl ⟨by rfl, ?_⟩) (by assumption) ?_
              rotate_left
              · intro w hSw
                (try dsimp only at hSw)
                go_simp
                all_goals (with_reducible rfl)
              try simp only [Act.put, List.setIfInBounds_toArray, List.set_cons_zero, List.set_cons_succ]
              refine wpAnyH_take (i := 15) (oi := ⟨some 83, _, _, _, _, _⟩) (v := ?_) rfl (by kernel_rfl) (by kernel_rfl) (by kernel_rfl) (fun _ _ _ h => h) (Or.inl ⟨by rfl, ?_⟩) (by assumption) ?_
              rotate_left
              · intro w hSw
                (try dsimp only at hSw)
                go_simp
                all_goals (with_reducible rfl)
              try simp only [Act.put, List.setIfInBounds_toArray, List.set_cons_zero, List.set_cons_succ]
              refine wpAnyH_take (i := 16) (oi := ⟨some 84, _, _, _, _, _⟩) (v := undef) rfl (by kernel_rfl) (by kernel_rfl) (by kernel_rfl) (fun _ _ _ h => h) (Or.inr ⟨by rfl, rfl⟩) (by assumption) ?_
              try simp only [Act.put, List.setIfInBounds_toArray, List.set_cons_zero, List.set_cons_succ]
              refine wpAnyH_take (i := 17) (oi := ⟨some 85, _, _, _, _, _⟩) (v := undef) rfl (by kernel_rfl) (by kernel_rfl) (by kernel_rfl) (fun _ _ _ h => h) (Or.inr ⟨by rfl, rfl⟩) (by assumption) ?_
              try simp only [Act.put, List.setIfInBounds_toArray, List.set_cons_zero, List.set_cons_succ]
              refine wpAnyH_take (i := 18) (oi := ⟨some 86, _, _, _, _, _⟩) (v := undef) rfl (by kernel_rfl) (by kernel_rfl) (by kernel_rfl) (fun _ _ _ h => h) (Or.inr ⟨by rfl, rfl⟩) (by assumption) ?_
              try simp only [Act.put, List.setIfInBounds_toArray, List.set_cons_zero, List.set_cons_succ]
              refine wpAnyH_take (i := 19) (oi := ⟨some 87, _, _, _, _, _⟩) (v := undef) rfl (by kernel_rfl) (by kernel_rfl) (by kernel_rfl) (fun _ _ _ h => h) (Or.inr ⟨by rfl, rfl⟩) (by assumption) ?_
              try simp only [Act.put, List.setIfInBounds_toArray, List.set_cons_zero, List.set_cons_succ]
              refine wpAnyH_take (i := 20) (oi := ⟨some 88, _, _, _, _, _⟩) (v := undef) rfl (by kernel_rfl) (by kernel_rfl) (by kernel_rfl) (fun _ _ _ h => h) (Or.inr ⟨by rfl, rfl⟩) (by assumption) ?_
              try simp only [Act.put, List.setIfInBounds_toArray, List.set_cons_zero, List.set_cons_succ]
              refine wpAnyH_take (i := 21) (oi := ⟨some 89, _, _, _, _, _⟩) (v := undef) rfl (by kernel_rfl) (by kernel_rfl) (by kernel_rfl) (fun _ _ _ h => h) (Or.inr ⟨by rfl, rfl⟩) (by assumption) ?_
              try simp only [Act.put, List.setIfInBounds_toArray, List.set_cons_zero, List.set_cons_succ]
              refine wpAnyH_take (i := 22) (oi := ⟨some 90, _, _, _, _, _⟩) (v := undef) rfl (by kernel_rfl) (by kernel_rfl) (by kernel_rfl) (fun _ _ _ h => h) (Or.inr ⟨by rfl, rfl⟩) (by assumption) ?_
              try simp only [Act.put, List.setIfInBounds_toArray, List.set_cons_zero, List.set_cons_succ]
              refine wpAnyH_take (i := 23) (oi := ⟨some 91, _, _, _, _, _⟩) (v := ?_) rfl (by kernel_rfl) (by kernel_rfl) (by kernel_rfl) (fun _ _ _ h => h) (Or.inl ⟨by rfl, ?_⟩) (by assumption) ?_
              rotate_left
              · intro w hSw
                (try dsimp only at hSw)
                go_simp
                all_goals (with_reducible rfl)
              try simp only [Act.put, List.setIfInBounds_toArray, List.set_cons_zero, List.set_cons_succ]
              refine wpAnyH_take (i := 24) (oi := ⟨some 2, _, _, _, _, _⟩) (v := ?_) rfl (by kernel_rfl) (by kernel_rfl) (by kernel_rfl) (fun _ _ _ h => h) (Or.inl ⟨by rfl, ?_⟩) (by assumption) ?_
              rotate_left
              · intro w hSw
                (try dsimp only at hSw)
                go_simp
                all_goals (with_reducible rfl)
              try simp only [Act.put, List.setIfInBounds_toArray, List.set_cons_zero, List.set_cons_succ]
              refine wpAnyH_done (by kernel_rfl) ?_ _
              clear m0 m1 m2 m3 m4 hbl
              go_wp2
              go_ret
              exact told_mk rfl HB_y27.out
          · have hg := HG.out
            obtain rfl : q = false := by rw [← hq2]; exact decide_eq_false (by omega)
            clear hq2
            clear hg
            have u2 : (c2 == 0) = false := by simpa using h2
            clear h2
            go_wp2
            clear m0 m1 m2 m3 m4 hbl
            obtain ⟨y28, h_y28⟩ : ∃ z, wr.drew = z := ⟨_, rfl⟩
            have hbd : Below wr.heap.size wr y28 := h_y28 ▸ (Below.refl _ _).drew
            have HX_y28 := Lib.hid ((hbd.block _ (lt_of_block HX_wr.out)).trans HX_wr.out)
            have HR_y28 := Lib.hid (HR_wr.out.below hbd (Nat.le_refl _))
            have HB_y28 : Hid (Below w.heap.size w y28) := HB_wr.out.trans (hbd.mono HB_wr.out.size)
            have HS_y28 : Hid (Below y28.heap.size y28 y28) := Below.refl _ _
            clear hbd
            obtain ⟨⟨m0, m1, m2, m3, m4⟩, hbl⟩ := five26 HX_y28.out
            refine wp_region_held_drew (S := fun z => Below y28.heap.size y28 z) (by kernel_rfl) (by show Below _ _ _; rw [h_y28]; exact Below.refl _ _) (fun hHeld => ?_)
            rw [h_y28]
            clear h_y28
            refine wpAnyH_take (i := 0) (oi := ⟨some 68, _, _, _, _, _⟩) (v := ?_) rfl (by kernel_rfl) (by kernel_rfl) (by kernel_rfl) (fun _ _ _ h => h) (Or.inl ⟨by rfl, ?_⟩) (by assumption) ?_
            rotate_left
            · intro w hSw
              have kk0 := (hSw.cell (p := ⟨b, 0, none⟩) hbl).trans m0
              have kk1 := (hSw.cell (p := ⟨b, 1, none⟩) hbl).trans m1
              have kk2 := (hSw.cell (p := ⟨b, 2, none⟩) hbl).trans m2
              have kk3 := (hSw.cell (p := ⟨b, 3, none⟩) hbl).trans m3
              have kk4 := (hSw.cell (p := ⟨b, 4, none⟩) hbl).trans m4
              clear hSw
              go_simp
              all_goals (with_reducible rfl)
            try simp only [Act.put, List.setIfInBounds_toArray, List.set_cons_zero, List.set_cons_succ]
            refine wpAnyH_ready (rs := [1]) (by kernel_rfl) (by simp) (AllReadyH.cons (o := ⟨some 69, _, _, _, _, _⟩) rfl (fun K hK => ?_) AllReadyH.nil)
            go_simp
            refine (rmany_is _ s v need 1 2 HR_y28.out hn E_2.out).mono ?_
            rintro e y29 ⟨rfl, hbv⟩
            have HX_y29 := Lib.hid ((hbv.block _ (lt_of_block HX_y28.out)).trans HX_y28.out)
            have HR_y29 := Lib.hid (HR_y28.out.below hbv (Nat.le_refl _))
            have HB_y29 : Hid (Below w.heap.size w y29) := HB_y28.out.trans (hbv.mono HB_y28.out.size)
            have HS_y29 : Hid (Below y28.heap.size y28 y29) := HS_y28.out.trans (hbv.mono HS_y28.out.size)
            clear hbv
            refine hK.out _ _ (HS_y29.out) (fun hHeld => ?_)
            clear hK K
            try simp only [Act.put, List.setIfInBounds_toArray, List.set_cons_zero, List.set_cons_succ]
            refine wpAnyH_take (i := 2) (oi := ⟨some 70, _, _, _, _, _⟩) (v := ?_) rfl (by kernel_rfl) (by kernel_rfl) (by kernel_rfl) (fun _ _ _ h => h) (Or.inl ⟨by rfl, ?_⟩) (by assumption) ?_
            rotate_left
            · intro w hSw
              (try dsimp only at hSw)
              go_simp
              all_goals (with_reducible rfl)
            try simp only [Act.put, List.setIfInBounds_toArray, List.set_cons_zero, List.set_cons_succ]
            refine wpAnyH_take (i := 3) (oi := ⟨some 71, _, _, _, _, _⟩) (v := ?_) rfl (by kernel_rfl) (by kernel_rfl) (by kernel_rfl) (fun _ _ _ h => h) (Or.inl ⟨by rfl, ?_⟩) (by assumption) ?_
            rotate_left
            · intro w hSw
              (try dsimp only at hSw)
              go_simp
              all_goals (with_reducible rfl)
            try simp only [Act.put, List.setIfInBounds_toArray, List.set_cons_zero, List.set_cons_succ]
            refine wpAnyH_take (i := 4) (oi := ⟨some 72, _, _, _, _, _⟩) (v := undef) rfl (by kernel_rfl) (by kernel_rfl) (by kernel_rfl) (fun _ _ _ h => h) (Or.inr ⟨by rfl, rfl⟩) (by assumption) ?_
            try simp only [Act.put, List.setIfInBounds_toArray, List.set_cons_zero, List.set_cons_succ]
            refine wpAnyH_take (i := 5) (oi := ⟨some 73, _, _, _, _, _⟩) (v := undef) rfl (by kernel_rfl) (by kernel_rfl) (by kernel_rfl) (fun _ _ _ h => h) (Or.inr ⟨by rfl, rfl⟩) (by assumption) ?_
            try simp only [Act.put, List.setIfInBounds_toArray, List.set_cons_zero, List.set_cons_succ]
            refine wpAnyH_take (i := 6) (oi := ⟨some 74, _, _, _, _, _⟩) (v := undef) rfl (by kernel_rfl) (by kernel_rfl) (by kernel_rfl) (fun _ _ _ h => h) (Or.inr ⟨by rfl, rfl⟩) (by assumption) ?_
            try simp only [Act.put, List.setIfInBounds_toArray, List.set_cons_zero, List.set_cons_succ]
            refine wpAnyH_take (i := 7) (oi := ⟨some 75, _, _, _, _, _⟩) (v := ?_) rfl (by kernel_rfl) (by kernel_rfl) (by kernel_rfl) (fun _ _ _ h => h) (Or.inl ⟨by rfl, ?_⟩) (by assumption) ?_
            rotate_left
            · intro w hSw
              (try dsimp only at hSw)
              go_simp
              all_goals (with_reducible rfl)
            try simp only [Act.put, List.setIfInBounds_toArray, List.set_cons_zero, List.set_cons_succ]
            refine wpAnyH_take (i := 8) (oi := ⟨some 76, _, _, _, _, _⟩) (v := ?_) rfl (by kernel_rfl) (by kernel_rfl) (by kernel_rfl) (fun _ _ _ h => h) (Or.inl ⟨by rfl, ?_⟩) (by assumption) ?_
            rotate_left
            · intro w hSw
              (try dsimp only at hSw)
              go_simp
              all_goals (with_reducible rfl)
            try simp only [Act.put, List.setIfInBounds_toArray, List.set_cons_zero, List.set_cons_succ]
            refine wpAnyH_take (i := 9) (oi := ⟨some 77, _, _, _, _, _⟩) (v := undef) rfl (by kernel_rfl) (by kernel_rfl) (by kernel_rfl) (fun _ _ _ h => h) (Or.inr ⟨by rfl, rfl⟩) (by assumption) ?_
            try simp only [Act.put, List.setIfInBounds_toArray, List.set_cons_zero, List.set_cons_succ]
            refine wpAnyH_take (i := 10) (oi := ⟨some 78, _, _, _, _, _⟩) (v := undef) rfl (by kernel_rfl) (by kernel_rfl) (by kernel_rfl) (fun _ _ _ h => h) (Or.inr ⟨by rfl, rfl⟩) (by assumption) ?_
            try simp only [Act.put, List.setIfInBounds_toArray, List.set_cons_zero, List.set_cons_succ]
            refine wpAnyH_take (i := 11) (oi := ⟨some 79, _, _, _, _, _⟩) (v := undef) rfl (by kernel_rfl) (by kernel_rfl) (by kernel_rfl) (fun _ _ _ h => h) (Or.inr ⟨by rfl, rfl⟩) (by assumption) ?_
            try simp only [Act.put, List.setIfInBounds_toArray, List.set_cons_zero, List.set_cons_succ]
            refine wpAnyH_take (i := 12) (oi := ⟨some 80, _, _, _, _, _⟩) (v := undef) rfl (by kernel_rfl) (by kernel_rfl) (by kernel_rfl) (fun _ _ _ h => h) (Or.inr ⟨by rfl, rfl⟩) (by assumption) ?_
            try simp only [Act.put, List.setIfInBounds_toArray, List.set_cons_zero, List.set_cons_succ]
            refine wpAnyH_take (i := 13) (oi := ⟨some 81, _, _, _, _, _⟩) (v := undef) rfl (by kernel_rfl) (by kernel_rfl) (by kernel_rfl) (fun _ _ _ h => h) (Or.inr ⟨by rfl, rfl⟩) (by assumption) ?_
            try simp only [Act.put, List.setIfInBounds_toArray, List.set_cons_zero, List.set_cons_succ]
            refine wpAnyH_take (i := 14) (oi := ⟨some 82, _, _, _, _, _⟩) (v := ?_) rfl (by kernel_rfl) (by kernel_rfl) (by kernel_rfl) (fun _ _ _ h => h) (Or.inl ⟨by rfl, ?_⟩) (by assumption) ?_
            rotate_left
            · intro w hSw
              (try dsimp only at hSw)
              go_simp
              all_goals (with_reducible rfl)
            try simp only [Act.put, List.setIfInBounds_toArray, List.set_cons_zero, List.set_cons_succ]
            refine wpAnyH_take (i := 15) (oi := ⟨some 83, _, _, _, _, _⟩) (v := ?_) rfl (by kernel_rfl) (by kernel_rfl) (by kernel_rfl) (fun _ _ _ h => h) (Or.inl ⟨by rfl, ?_⟩) (by assumption) ?_
            rotate_left
            · intro w hSw
              (try dsimp only at hSw)
              go_simp
              all_goals (with_reducible rfl)
            try simp only [Act.put, List.setIfInBounds_toArray, List.set_cons_zero, List.set_cons_succ]
            refine wpAnyH_take (i := 16) (oi := ⟨some 84, _, _, _, _, _⟩) (v := undef) rfl (by kernel_rfl) (by kernel_rfl) (by kernel_rfl) (fun _ _ _ h => h) (Or.inr ⟨by rfl, rfl⟩) (by assumption) ?_
            try simp only [Act.put, List.setIfInBounds_toArray, List.set_cons_zero, List.set_cons_succ]
            refine wpAnyH_take (i := 17) (oi := ⟨some 85, _, _, _, _, _⟩) (v := undef) rfl (by kernel_rfl) (by kernel_rfl) (by kernel_rfl) (fun _ _ _ h => h) (Or.inr ⟨by rfl, rfl⟩) (by assumption) ?_
            try simp only [Act.put, List.setIfInBounds_toArray, List.set_cons_zero, List.set_cons_succ]
            refine wpAnyH_take (i := 18) (oi := ⟨some 86, _, _, _, _, _⟩) (v := undef) rfl (by kernel_rfl) (by kernel_rfl) (by kernel_rfl) (fun _ _ _ h => h) (Or.inr ⟨by rfl, rfl⟩) (by assumption) ?_
            try simp only [Act.put, List.setIfInBounds_toArray, List.set_cons_zero, List.set_cons_succ]
            refine wpAnyH_take (i := 19) (oi := ⟨some 87, _, _, _, _, _⟩) (v := undef) rfl (by kernel_rfl) (by kernel_rfl) (by kernel_rfl) (fun _ _ _ h => h) (Or.inr ⟨by rfl, rfl⟩) (by assumption) ?_
            try simp only [Act.put, List.setIfInBounds_toArray, List.set_cons_zero, List.set_cons_succ]
            refine wpAnyH_take (i := 20) (oi := ⟨some 88, _, _, _, _, _⟩) (v := undef) rfl (by kernel_rfl) (by kernel_rfl) (by kernel_rfl) (fun _ _ _ h => h) (Or.inr ⟨by rfl, rfl⟩) (by assumption) ?_
            try simp only [Act.put, List.setIfInBounds_toArray, List.set_cons_zero, List.set_cons_succ]
            refine wpAnyH_take (i := 21) (oi := ⟨some 89, _, _, _, _, _⟩) (v := undef) rfl (by kernel_rfl) (by kernel_rfl) (by kernel_rfl) (fun _ _ _ h => h) (Or.inr ⟨by rfl, rfl⟩) (by assumption) ?_
            try simp only [Act.put, List.setIfInBounds_toArray, List.set_cons_zero, List.set_cons_succ]
            refine wpAnyH_take (i := 22) (oi := ⟨some 90, _, _, _, _, _⟩) (v := undef) rfl (by kernel_rfl) (by kernel_rfl) (by kernel_rfl) (fun _ _ _ h => h) (Or.inr ⟨by rfl, rfl⟩) (by assumption) ?_
            try simp only [Act.put, List.setIfInBounds_toArray, List.set_cons_zero, List.set_cons_succ]
            refine wpAnyH_take (i := 23) (oi := ⟨some 91, _, _, _, _, _⟩) (v := ?_) rfl (by kernel_rfl) (by kernel_rfl) (by kernel_rfl) (fun _ _ _ h => h) (Or.inl ⟨by rfl, ?_⟩) (by assumption) ?_
            rotate_left
            · intro w hSw
              (try dsimp only at hSw)
              go_simp
              all_goals (with_reducible rfl)
            try simp only [Act.put, List.setIfInBounds_toArray, List.set_cons_zero, List.set_cons_succ]
            refine wpAnyH_take (i := 24) (oi := ⟨some 2, _, _, _, _, _⟩) (v := ?_) rfl (by kernel_rfl) (by kernel_rfl) (by kernel_rfl) (fun _ _ _ h => h) (Or.inl ⟨by rfl, ?_⟩) (by assumption) ?_
            rotate_left
            · intro w hSw
              (try dsimp only at hSw)
              go_simp
              all_goals (with_reducible rfl)
            try simp only [Act.put, List.setIfInBounds_toArray, List.set_cons_zero, List.set_cons_succ]
            refine wpAnyH_done (by kernel_rfl) ?_ _
            clear m0 m1 m2 m3 m4 hbl
            go_wp2
            go_ret
            exact told_mk rfl HB_y29.out
        · by_cases hp2 : ph = 2
          · subst hp2
            by_cases h2 : c2 = 0
            · by_cases h4 : c4 = 0
              · by_cases h1 : need ≤ c1
                · have hg := HG.out
                  obtain rfl : q = true := by rw [← hq2]; exact decide_eq_true (by omega)
                  clear hq2
                  clear hg
                  have t3 := decide_eq_true h1
                  subst h2
                  subst h4
                  clear h1
                  go_wp2
                  clear m0 m1 m2 m3 m4 hbl
                  obtain ⟨y30, h_y30⟩ : ∃ z, wr.drew = z := ⟨_, rfl⟩
                  have hbd : Below wr.heap.size wr y30 := h_y30 ▸ (Below.refl _ _).drew
                  have HX_y30 := Lib.hid ((hbd.block _ (lt_of_block HX_wr.out)).trans HX_wr.out)
                  have HR_y30 := Lib.hid (HR_wr.out.below hbd (Nat.le_refl _))
                  have HB_y30 : Hid (Below w.heap.size w y30) := HB_wr.out.trans (hbd.mono HB_wr.out.size)
                  have HS_y30 : Hid (Below y30.heap.size y30 y30) := Below.refl _ _
                  clear hbd
                  obtain ⟨⟨m0, m1, m2, m3, m4⟩, hbl⟩ := five26 HX_y30.out
                  refine wp_region_held_drew (S := fun z => Below y30.heap.size y30 z) (by kernel_rfl) (by show Below _ _ _; rw [h_y30]; exact Below.refl _ _) (fun hHeld => ?_)
                  rw [h_y30]
                  clear h_y30
                  refine wpAnyH_take (i := 0) (oi := ⟨some 94, _, _, _, _, _⟩) (v := ?_) rfl (by kernel_rfl) (by kernel_rfl) (by kernel_rfl) (fun _ _ _ h => h) (Or.inl ⟨by rfl, ?_⟩) (by assumption) ?_
                  rotate_left
                  · intro w hSw
                    have kk0 := (hSw.cell (p := ⟨b, 0, none⟩) hbl).trans m0
                    have kk1 := (hSw.cell (p := ⟨b, 1, none⟩) hbl).trans m1
                    have kk2 := (hSw.cell (p := ⟨b, 2, none⟩) hbl).trans m2
                    have kk3 := (hSw.cell (p := ⟨b, 3, none⟩) hbl).trans m3
                    have kk4 := (hSw.cell (p := ⟨b, 4, none⟩) hbl).trans m4
                    clear hSw
                    go_simp
                    all_goals (with_reducible rfl)
                  try simp only [Act.put, List.setIfInBounds_toArray, List.set_cons_zero, List.set_cons_succ]
                  refine wpAnyH_ready (rs := [1]) (by kernel_rfl) (by simp) (AllReadyH.cons (o := ⟨some 95, _, _, _, _, _⟩) rfl (fun K hK => ?_) AllReadyH.nil)
                  go_simp
                  refine (rmany_is _ s v need 2 2 HR_y30.out hn E_2.out).mono ?_
                  rintro e y31 ⟨rfl, hbv⟩
                  have HX_y31 := Lib.hid ((hbv.block _ (lt_of_block HX_y30.out)).trans HX_y30.out)
                  have HR_y31 := Lib.hid (HR_y30.out.below hbv (Nat.le_refl _))
                  have HB_y31 : Hid (Below w.heap.size w y31) := HB_y30.out.trans (hbv.mono HB_y30.out.size)
                  have HS_y31 : Hid (Below y30.heap.size y30 y31) := HS_y30.out.trans (hbv.mono HS_y30.out.size)
                  clear hbv
                  refine hK.out _ _ (HS_y31.out) (fun hHeld => ?_)
                  clear hK K
                  try simp only [Act.put, List.setIfInBounds_toArray, List.set_cons_zero, List.set_cons_succ]
                  refine wpAnyH_take (i := 2) (oi := ⟨some 96, _, _, _, _, _⟩) (v := ?_) rfl (by kernel_rfl) (by kernel_rfl) (by kernel_rfl) (fun _ _ _ h => h) (Or.inl ⟨by rfl, ?_⟩) (by assumption) ?_
                  rotate_left
                  · intro w hSw
                    (try dsimp only at hSw)
                    go_simp
                    all_goals (with_reducible rfl)
                  try simp only [Act.put, List.setIfInBounds_toArray, List.set_cons_zero, List.set_cons_succ]
                  refine wpAnyH_take (i := 3) (oi := ⟨some 97, _, _, _, _, _⟩) (v := ?_) rfl (by kernel_rfl) (by kernel_rfl) (by kernel_rfl) (fun _ _ _ h => h) (Or.inl ⟨by rfl, ?_⟩) (by assumption) ?_
                  rotate_left
                  · intro w hSw
                    (try dsimp only at hSw)
                    go_simp
                    all_goals (with_reducible rfl)
                  try simp only [Act.put, List.setIfInBounds_toArray, List.set_cons_zero, List.set_cons_succ]
                  refine wpAnyH_take (i := 4) (oi := ⟨some 98, _, _, _, _, _⟩) (v := ?_) rfl (by kernel_rfl) (by kernel_rfl) (by kernel_rfl) (fun _ _ _ h => h) (Or.inl ⟨by rfl, ?_⟩) (by assumption) ?_
                  rotate_left
                  · intro w hSw
                    have kk0 := (hSw.cell (p := ⟨b, 0, none⟩) hbl).trans m0
                    have kk1 := (hSw.cell (p := ⟨b, 1, none⟩) hbl).trans m1
                    have kk2 := (hSw.cell (p := ⟨b, 2, none⟩) hbl).trans m2
                    have kk3 := (hSw.cell (p := ⟨b, 3, none⟩) hbl).trans m3
                    have kk4 := (hSw.cell (p := ⟨b, 4, none⟩) hbl).trans m4
                    clear hSw
                    go_simp
                    all_goals (with_reducible rfl)
                  try simp only [Act.put, List.setIfInBounds_toArray, List.set_cons_zero, List.set_cons_succ]
                  refine wpAnyH_ready (rs := [5]) (by kernel_rfl) (by simp) (AllReadyH.cons (o := ⟨some 99, _, _, _, _, _⟩) rfl (fun K hK => ?_) AllReadyH.nil)
                  go_simp
                  refine (rmany_is _ s v need 2 4 HR_y31.out hn E_4.out).mono ?_
                  rintro e y32 ⟨rfl, hbv⟩
                  have HX_y32 := Lib.hid ((hbv.block _ (lt_of_block HX_y31.out)).trans HX_y31.out)
                  have HR_y32 := Lib.hid (HR_y31.out.below hbv (Nat.le_refl _))
                  have HB_y32 : Hid (Below w.heap.size w y32) := HB_y31.out.trans (hbv.mono HB_y31.out.size)
                  have HS_y32 : Hid (Below y30.heap.size y30 y32) := HS_y31.out.trans (hbv.mono HS_y31.out.size)
                  clear hbv
                  refine hK.out _ _ (HS_y32.out) (fun hHeld => ?_)
                  clear hK K
                  try simp only [Act.put, List.setIfInBounds_toArray, List.set_cons_zero, List.set_cons_succ]
                  refine wpAnyH_take (i := 6) (oi := ⟨some 100, _, _, _, _, _⟩) (v := ?_) rfl (by kernel_rfl) (by kernel_rfl) (by kernel_rfl) (fun _ _ _ h => h) (Or.inl ⟨by rfl, ?_⟩) (by assumption) ?_
                  rotate_left
                  · intro w hSw
                    (try dsimp only at hSw)
                    go_simp
                    all_goals (with_reducible rfl)
                  try simp only [Act.put, List.setIfInBounds_toArray, List.set_cons_zero, List.set_cons_succ]
                  refine wpAnyH_take (i := 7) (oi := ⟨some 101, _, _, _, _, _⟩) (v := ?_) rfl (by kernel_rfl) (by kernel_rfl) (by kernel_rfl) (fun _ _ _ h => h) (Or.inl ⟨by rfl, ?_⟩) (by assumption) ?_
                  rotate_left
                  · intro w hSw
                    (try dsimp only at hSw)
                    go_simp
                    all_goals (with_reducible rfl)
                  try simp only [Act.put, List.setIfInBounds_toArray, List.set_cons_zero, List.set_cons_succ]
                  refine wpAnyH_take (i := 8) (oi := ⟨some 102, _, _, _, _, _⟩) (v := ?_) rfl (by kernel_rfl) (by kernel_rfl) (by kernel_rfl) (fun _ _ _ h => h) (Or.inl ⟨by rfl, ?_⟩) (by assumption) ?_
                  rotate_left
                  · intro w hSw
                    (try dsimp only at hSw)
                    go_simp
                    all_goals (with_reducible rfl)
                  try simp only [Act.put, List.setIfInBounds_toArray, List.set_cons_zero, List.set_cons_succ]
                  refine wpAnyH_take (i := 9) (oi := ⟨some 103, _, _, _, _, _⟩) (v := ?_) rfl (by kernel_rfl) (by kernel_rfl) (by kernel_rfl) (fun _ _ _ h => h) (Or.inl ⟨by rfl, ?_⟩) (by assumption) ?_
                  rotate_left
                  · intro w hSw
                    have kk0 := (hSw.cell (p := ⟨b, 0, none⟩) hbl).trans m0
                    have kk1 := (hSw.cell (p := ⟨b, 1, none⟩) hbl).trans m1
                    have kk2 := (hSw.cell (p := ⟨b, 2, none⟩) hbl).trans m2
                    have kk3 := (hSw.cell (p := ⟨b, 3, none⟩) hbl).trans m3
                    have kk4 := (hSw.cell (p := ⟨b, 4, none⟩) hbl).trans m4
                    clear hSw
                    go_simp
                    all_goals (with_reducible rfl)
                  try simp only [Act.put, List.setIfInBounds_toArray, List.set_cons_zero, List.set_cons_succ]
                  refine wpAnyH_take (i := 11) (oi := ⟨some 105, _, _, _, _, _⟩) (v := ?_) rfl (by kernel_rfl) (by kernel_rfl) (by kernel_rfl) (fun _ _ _ h => h) (Or.inl ⟨by rfl, ?_⟩) (by assumption) ?_
                  rotate_left
                  · intro w hSw
                    (try dsimp only at hSw)
                    go_simp
                    all_goals (with_reducible rfl)
                  try simp only [Act.put, List.setIfInBounds_toArray, List.set_cons_zero, List.set_cons_succ]
                  refine wpAnyH_take (i := 12) (oi := ⟨some 106, _, _, _, _, _⟩) (v := ?_) rfl (by kernel_rfl) (by kernel_rfl) (by kernel_rfl) (fun _ _ _ h => h) (Or.inl ⟨by rfl, ?_⟩) (by assumption) ?_
                  rotate_left
                  · intro w hSw
                    have kk0 := (hSw.cell (p := ⟨b, 0, none⟩) hbl).trans m0
                    have kk1 := (hSw.cell (p := ⟨b, 1, none⟩) hbl).trans m1
                    have kk2 := (hSw.cell (p := ⟨b, 2, none⟩) hbl).trans m2
                    have kk3 := (hSw.cell (p := ⟨b, 3, none⟩) hbl).trans m3
                    have kk4 := (hSw.cell (p := ⟨b, 4, none⟩) hbl).trans m4
                    clear hSw
                    go_simp
                    all_goals (with_reducible rfl)
                  try simp only [Act.put, List.setIfInBounds_toArray, List.set_cons_zero, List.set_cons_succ]
                  refine wpAnyH_ready (rs := [10]) (by kernel_rfl) (by simp) (AllReadyH.cons (o := ⟨some 104, _, _, _, _, _⟩) rfl (fun K hK => ?_) AllReadyH.nil)
                  go_simp
                  refine (rmany_is _ s v need 2 1 HR_y32.out hn E_1.out).mono ?_
                  rintro e y33 ⟨rfl, hbv⟩
                  have HX_y33 := Lib.hid ((hbv.block _ (lt_of_block HX_y32.out)).trans HX_y32.out)
                  have HR_y33 := Lib.hid (HR_y32.out.below hbv (Nat.le_refl _))
                  have HB_y33 : Hid (Below w.heap.size w y33) := HB_y32.out.trans (hbv.mono HB_y32.out.size)
                  have HS_y33 : Hid (Below y30.heap.size y30 y33) := HS_y32.out.trans (hbv.mono HS_y32.out.size)
                  clear hbv
                  refine hK.out _ _ (HS_y33.out) (fun hHeld => ?_)
                  clear hK K
                  try simp only [Act.put, List.setIfInBounds_toArray, List.set_cons_zero, List.set_cons_succ]
                  refine wpAnyH_take (i := 13) (oi := ⟨some 107, _, _, _, _, _⟩) (v := ?_) rfl (by kernel_rfl) (by kernel_rfl) (by kernel_rfl) (fun _ _ _ h => h) (Or.inl ⟨by rfl, ?_⟩) (by assumption) ?_
                  rotate_left
                  · intro w hSw
                    (try dsimp only at hSw)
                    go_simp
                    all_goals (with_reducible rfl)
                  try simp only [Act.put, List.setIfInBounds_toArray, List.set_cons_zero, List.set_cons_succ]
                  refine wpAnyH_take (i := 14) (oi := ⟨some 108, _, _, _, _, _⟩) (v := ?_) rfl (by kernel_rfl) (by kernel_rfl) (by kernel_rfl) (fun _ _ _ h => h) (Or.inl ⟨by rfl, ?_⟩) (by assumption) ?_
                  rotate_left
                  · intro w hSw
                    (try dsimp only at hSw)
                    go_simp
                    all_goals (with_reducible rfl)
                  try simp only [Act.put, List.setIfInBounds_toArray, List.set_cons_zero, List.set_cons_succ]
                  refine wpAnyH_take (i := 15) (oi := ⟨some 2, _, _, _, _, _⟩) (v := ?_) rfl (by kernel_rfl) (by kernel_rfl) (by kernel_rfl) (fun _ _ _ h => h) (Or.inl ⟨by rfl, ?_⟩) (by assumption) ?_
                  rotate_left
                  · intro w hSw
                    (try dsimp only at hSw)
                    go_simp
                    all_goals (with_reducible rfl)
                  try simp only [Act.put, List.setIfInBounds_toArray, List.set_cons_zero, List.set_cons_succ]
                  refine wpAnyH_done (by kernel_rfl) ?_ _
                  clear m0 m1 m2 m3 m4 hbl
                  go_wp2
                  go_ret
                  exact told_mk rfl HB_y33.out
                · have hg := HG.out
                  obtain rfl : q = false := by rw [← hq2]; exact decide_eq_false (by omega)
                  clear hq2
                  clear hg
                  have t3 := decide_eq_false h1
                  subst h2
                  subst h4
                  clear h1
                  go_wp2
                  clear m0 m1 m2 m3 m4 hbl
                  obtain ⟨y34, h_y34⟩ : ∃ z, wr.drew = z := ⟨_, rfl⟩
                  have hbd : Below wr.heap.size wr y34 := h_y34 ▸ (Below.refl _ _).drew
                  have HX_y34 := Lib.hid ((hbd.block _ (lt_of_block HX_wr.out)).trans HX_wr.out)
                  have HR_y34 := Lib.hid (HR_wr.out.below hbd (Nat.le_refl _))
                  have HB_y34 : Hid (Below w.heap.size w y34) := HB_wr.out.trans (hbd.mono HB_wr.out.size)
                  have HS_y34 : Hid (Below y34.heap.size y34 y34) := Below.refl _ _
                  clear hbd
                  obtain ⟨⟨m0, m1, m2, m3, m4⟩, hbl⟩ := five26 HX_y34.out
                  refine wp_region_held_drew (S := fun z => Below y34.heap.size y34 z) (by kernel_rfl) (by show Below _ _ _; rw [h_y34]; exact Below.refl _ _) (fun hHeld => ?_)
                  rw [h_y34]
                  clear h_y34
                  refine wpAnyH_take (i := 0) (oi := ⟨some 94, _, _, _, _, _⟩) (v := ?_) rfl (by kernel_rfl) (by kernel_rfl) (by kernel_rfl) (fun _ _ _ h => h) (Or.inl ⟨by rfl, ?_⟩) (by assumption) ?_
                  rotate_left
                  · intro w hSw
                    have kk0 := (hSw.cell (p := ⟨b, 0, none⟩) hbl).trans m0
                    have kk1 := (hSw.cell (p := ⟨b, 1, none⟩) hbl).trans m1
                    have kk2 := (hSw.cell (p := ⟨b, 2, none⟩) hbl).trans m2
                    have kk3 := (hSw.cell (p := ⟨b, 3, none⟩) hbl).trans m3
                    have kk4 := (hSw.cell (p := ⟨b, 4, none⟩) hbl).trans m4
                    clear hSw
                    go_simp
                    all_goals (with_reducible rfl)
                  try simp only [Act.put, List.setIfInBounds_toArray, List.set_cons_zero, List.set_cons_succ]
                  refine wpAnyH_ready (rs := [1]) (by kernel_rfl) (by simp) (AllReadyH.cons (o := ⟨some 95, _, _, _, _, _⟩) rfl (fun K hK => ?_) AllReadyH.nil)
                  go_simp
                  refine (rmany_is _ s v need 2 2 HR_y34.out hn E_2.out).mono ?_
                  rintro e y35 ⟨rfl, hbv⟩
                  have HX_y35 := Lib.hid ((hbv.block _ (lt_of_block HX_y34.out)).trans HX_y34.out)
                  have HR_y35 := Lib.hid (HR_y34.out.below hbv (Nat.le_refl _))
                  have HB_y35 : Hid (Below w.heap.size w y35) := HB_y34.out.trans (hbv.mono HB_y34.out.size)
                  have HS_y35 : Hid (Below y34.heap.size y34 y35) := HS_y34.out.trans (hbv.mono HS_y34.out.size)
                  clear hbv
                  refine hK.out _ _ (HS_y35.out) (fun hHeld => ?_)
                  clear hK K
                  try simp only [Act.put, List.setIfInBounds_toArray, List.set_cons_zero, List.set_cons_succ]
                  refine wpAnyH_take (i := 2) (oi := ⟨some 96, _, _, _, _, _⟩) (v := ?_) rfl (by kernel_rfl) (by kernel_rfl) (by kernel_rfl) (fun _ _ _ h => h) (Or.inl ⟨by rfl, ?_⟩) (by assumption) ?_
                  rotate_left
                  · intro w hSw
                    (try dsimp only at hSw)
                    go_simp
                    all_goals (with_reducible rfl)
                  try simp only [Act.put, List.setIfInBounds_toArray, List.set_cons_zero, List.set_cons_succ]
                  refine wpAnyH_take (i := 3) (oi := ⟨some 97, _, _, _, _, _⟩) (v := ?_) rfl (by kernel_rfl) (by kernel_rfl) (by kernel_rfl) (fun _ _ _ h => h) (Or.inl ⟨by rfl, ?_⟩) (by assumption) ?_
                  rotate_left
                  · intro w hSw
                    (try dsimp only at hSw)
                    go_simp
                    all_goals (with_reducible rfl)
                  try simp only [Act.put, List.setIfInBounds_toArray, List.set_cons_zero, List.set_cons_succ]
                  refine wpAnyH_take (i := 4) (oi := ⟨some 98, _, _, _, _, _⟩) (v := ?_) rfl (by kernel_rfl) (by kernel_rfl) (by kernel_rfl) (fun _ _ _ h => h) (Or.inl ⟨by rfl, ?_⟩) (by assumption) ?_
                  rotate_left
                  · intro w hSw
                    have kk0 := (hSw.cell (p := ⟨b, 0, none⟩) hbl).trans m0
                    have kk1 := (hSw.cell (p := ⟨b, 1, none⟩) hbl).trans m1
                    have kk2 := (hSw.cell (p := ⟨b, 2, none⟩) hbl).trans m2
                    have kk3 := (hSw.cell (p := ⟨b, 3, none⟩) hbl).trans m3
                    have kk4 := (hSw.cell (p := ⟨b, 4, none⟩) hbl).trans m4
                    clear hSw
                    go_simp
                    all_goals (with_reducible rfl)
                  try simp only [Act.put, List.setIfInBounds_toArray, List.set_cons_zero, List.set_cons_succ]
                  refine wpAnyH_ready (rs := [5]) (by kernel_rfl) (by simp) (AllReadyH.cons (o := ⟨some 99, _, _, _, _, _⟩) rfl (fun K hK => ?_) AllReadyH.nil)
                  go_simp
                  refine (rmany_is _ s v need 2 4 HR_y35.out hn E_4.out).mono ?_
                  rintro e y36 ⟨rfl, hbv⟩
                  have HX_y36 := Lib.hid ((hbv.block _ (lt_of_block HX_y35.out)).trans HX_y35.out)
                  have HR_y36 := Lib.hid (HR_y35.out.below hbv (Nat.le_refl _))
                  have HB_y36 : Hid (Below w.heap.size w y36) := HB_y35.out.trans (hbv.mono HB_y35.out.size)
                  have HS_y36 : Hid (Below y34.heap.size y34 y36) := HS_y35.out.trans (hbv.mono HS_y35.out.size)
                  clear hbv
                  refine hK.out _ _ (HS_y36.out) (fun hHeld => ?_)
                  clear hK K
                  try simp only [Act.put, List.setIfInBounds_toArray, List.set_cons_zero, List.set_cons_succ]
                  refine wpAnyH_take (i := 6) (oi := ⟨some 100, _, _, _, _, _⟩) (v := ?_) rfl (by kernel_rfl) (by kernel_rfl) (by kernel_rfl) (fun _ _ _ h => h) (Or.inl ⟨by rfl, ?_⟩) (by assumption) ?_
                  rotate_left
                  · intro w hSw
                    (try dsimp only at hSw)
                    go_simp
                    all_goals (with_reducible rfl)
                  try simp only [Act.put, List.setIfInBounds_toArray, List.set_cons_zero, List.set_cons_succ]
                  refine wpAnyH_take (i := 7) (oi := ⟨some 101, _, _, _, _, _⟩) (v := ?_) rfl (by kernel_rfl) (by kernel_rfl) (by kernel_rfl) (fun _ _ _ h => h) (Or.inl ⟨by rfl, ?_⟩) (by assumption) ?_
                  rotate_left
                  · intro w hSw
                    (try dsimp only at hSw)
                    go_simp
                    all_goals (with_reducible rfl)
                  try simp only [Act.put, List.setIfInBounds_toArray, List.set_cons_zero, List.set_cons_succ]
                  refine wpAnyH_take (i := 8) (oi := ⟨some 102, _, _, _, _, _⟩) (v := ?_) rfl (by kernel_rfl) (by kernel_rfl) (by kernel_rfl) (fun _ _ _ h => h) (Or.inl ⟨by rfl, ?_⟩) (by assumption) ?_
                  rotate_left
                  · intro w hSw
                    (try dsimp only at hSw)
                    go_simp
                    all_goals (with_reducible rfl)
                  try simp only [Act.put, List.setIfInBounds_toArray, List.set_cons_zero, List.set_cons_succ]
                  refine wpAnyH_take (i := 9) (oi := ⟨some 103, _, _, _, _, _⟩) (v := ?_) rfl (by kernel_rfl) (by kernel_rfl) (by kernel_rfl) (fun _ _ _ h => h) (Or.inl ⟨by rfl, ?_⟩) (by assumption) ?_
                  rotate_left
                  · intro w hSw
                    have kk0 := (hSw.cell (p := ⟨b, 0, none⟩) hbl).trans m0
                    have kk1 := (hSw.cell (p := ⟨b, 1, none⟩) hbl).trans m1
                    have kk2 := (hSw.cell (p := ⟨b, 2, none⟩) hbl).trans m2
                    have kk3 := (hSw.cell (p := ⟨b, 3, none⟩) hbl).trans m3
                    have kk4 := (hSw.cell (p := ⟨b, 4, none⟩) hbl).trans m4
                    clear hSw
                    go_simp
                    all_goals (with_reducible rfl)
                  try simp only [Act.put, List.setIfInBounds_toArray, List.set_cons_zero, List.set_cons_succ]
                  refine wpAnyH_take (i := 11) (oi := ⟨some 105, _, _, _, _, _⟩) (v := ?_) rfl (by kernel_rfl) (by kernel_rfl) (by kernel_rfl) (fun _ _ _ h => h) (Or.inl ⟨by rfl, ?_⟩) (by assumption) ?_
                  rotate_left
                  · intro w hSw
                    (try dsimp only at hSw)
                    go_simp
                    all_goals (with_reducible rfl)
                  try simp only [Act.put, List.setIfInBounds_toArray, List.set_cons_zero, List.set_cons_succ]
                  refine wpAnyH_take (i := 12) (oi := ⟨some 106, _, _, _, _, _⟩) (v := ?_) rfl (by kernel_rfl) (by kernel_rfl) (by kernel_rfl) (fun _ _ _ h => h) (Or.inl ⟨by rfl, ?_⟩) (by assumption) ?_
                  rotate_left
                  · intro w hSw
                    have kk0 := (hSw.cell (p := ⟨b, 0, none⟩) hbl).trans m0
                    have kk1 := (hSw.cell (p := ⟨b, 1, none⟩) hbl).trans m1
                    have kk2 := (hSw.cell (p := ⟨b, 2, none⟩) hbl).trans m2
                    have kk3 := (hSw.cell (p := ⟨b, 3, none⟩) hbl).trans m3
                    have kk4 := (hSw.cell (p := ⟨b, 4, none⟩) hbl).trans m4
                    clear hSw
                    go_simp
                    all_goals (with_reducible rfl)
                  try simp only [Act.put, List.setIfInBounds_toArray, List.set_cons_zero, List.set_cons_succ]
                  refine wpAnyH_ready (rs := [10]) (by kernel_rfl) (by simp) (AllReadyH.cons (o := ⟨some 104, _, _, _, _, _⟩) rfl (fun K hK => ?_) AllReadyH.nil)
                  go_simp
                  refine (rmany_is _ s v need 2 1 HR_y36.out hn E_1.out).mono ?_
                  rintro e y37 ⟨rfl, hbv⟩
                  have HX_y37 := Lib.hid ((hbv.block _ (lt_of_block HX_y36.out)).trans HX_y36.out)
                  have HR_y37 := Lib.hid (HR_y36.out.below hbv (Nat.le_refl _))
                  have HB_y37 : Hid (Below w.heap.size w y37) := HB_y36.out.trans (hbv.mono HB_y36.out.size)
                  have HS_y37 : Hid (Below y34.heap.size y34 y37) := HS_y36.out.trans (hbv.mono HS_y36.out.size)
                  clear hbv
                  refine hK.out _ _ (HS_y37.out) (fun hHeld => ?_)
                  clear hK K
                  try simp only [Act.put, List.setIfInBounds_toArray, List.set_cons_zero, List.set_cons_succ]
                  refine wpAnyH_take (i := 13) (oi := ⟨some 107, _, _, _, _, _⟩) (v := ?_) rfl (by kernel_rfl) (by kernel_rfl) (by kernel_rfl) (fun _ _ _ h => h) (Or.inl ⟨by rfl, ?_⟩) (by assumption) ?_
                  rotate_left
                  · intro w hSw
                    (try dsimp only at hSw)
                    go_simp
                    all_goals (with_reducible rfl)
                  try simp only [Act.put, List.setIfInBounds_toArray, List.set_cons_zero, List.set_cons_succ]
                  refine wpAnyH_take (i := 14) (oi := ⟨some 108, _, _, _, _, _⟩) (v := ?_) rfl (by kernel_rfl) (by kernel_rfl) (by kernel_rfl) (fun _ _ _ h => h) (Or.inl ⟨by rfl, ?_⟩) (by assumption) ?_
                  rotate_left
                  · intro w hSw
                    (try dsimp only at hSw)
                    go_simp
                    all_goals (with_reducible rfl)
                  try simp only [Act.put, List.setIfInBounds_toArray, List.set_cons_zero, List.set_cons_succ]
                  refine wpAnyH_take (i := 15) (oi := ⟨some 2, _, _, _, _, _⟩) (v := ?_) rfl (by kernel_rfl) (by kernel_rfl) (by kernel_rfl) (fun _ _ _ h => h) (Or.inl ⟨by rfl, ?_⟩) (by assumption) ?_
                  rotate_left
                  · intro w hSw
                    (try dsimp only at hSw)
                    go_simp
                    all_goals (with_reducible rfl)
                  try simp only [Act.put, List.setIfInBounds_toArray, List.set_cons_zero, List.set_cons_succ]
                  refine wpAnyH_done (by kernel_rfl) ?_ _
                  clear m0 m1 m2 m3 m4 hbl
                  go_wp2
                  go_ret
                  exact told_mk rfl HB_y37.out
              · have hg := HG.out
                obtain rfl : q = false := by rw [← hq2]; exact decide_eq_false (by omega)
                clear hq2
                clear hg
                subst h2
                have u4 : (c4 == 0) = false := by simpa using h4
                clear h4
                go_wp2
                clear m0 m1 m2 m3 m4 hbl
                obtain ⟨y38, h_y38⟩ : ∃ z, wr.drew = z := ⟨_, rfl⟩
                have hbd : Below wr.heap.size wr y38 := h_y38 ▸ (Below.refl _ _).drew
                have HX_y38 := Lib.hid ((hbd.block _ (lt_of_block HX_wr.out)).trans HX_wr.out)
                have HR_y38 := Lib.hid (HR_wr.out.below hbd (Nat.le_refl _))
                have HB_y38 : Hid (Below w.heap.size w y38) := HB_wr.out.trans (hbd.mono HB_wr.out.size)
                have HS_y38 : Hid (Below y38.heap.size y38 y38) := Below.refl _ _
                clear hbd
                obtain ⟨⟨m0, m1, m2, m3, m4⟩, hbl⟩ := five26 HX_y38.out
                refine wp_region_held_drew (S := fun z => Below y38.heap.size y38 z) (by kernel_rfl) (by show Below _ _ _; rw [h_y38]; exact Below.refl _ _) (fun hHeld => ?_)
                rw [h_y38]
                clear h_y38
                refine wpAnyH_take (i := 0) (oi := ⟨some 94, _, _, _, _, _⟩) (v := ?_) rfl (by kernel_rfl) (by kernel_rfl) (by kernel_rfl) (fun _ _ _ h => h) (Or.inl ⟨by rfl, ?_⟩) (by assumption) ?_
                rotate_left
                · intro w hSw
                  have kk0 := (hSw.cell (p := ⟨b, 0, none⟩) hbl).trans m0
                  have kk1 := (hSw.cell (p := ⟨b, 1, none⟩) hbl).trans m1
                  have kk2 := (hSw.cell (p := ⟨b, 2, none⟩) hbl).trans m2
                  have kk3 := (hSw.cell (p := ⟨b, 3, none⟩) hbl).trans m3
                  have kk4 := (hSw.cell (p := ⟨b, 4, none⟩) hbl).trans m4
                  clear hSw
                  go_simp
                  all_goals (with_reducible rfl)
                try simp only [Act.put, List.setIfInBounds_toArray, List.set_cons_zero, List.set_cons_succ]
                refine wpAnyH_ready (rs := [1]) (by kernel_rfl) (by simp) (AllReadyH.cons (o := ⟨some 95, _, _, _, _, _⟩) rfl (fun K hK => ?_) AllReadyH.nil)
                go_simp
                refine (rmany_is _ s v need 2 2 HR_y38.out hn E_2.out).mono ?_
                rintro e y39 ⟨rfl, hbv⟩
                have HX_y39 := Lib.hid ((hbv.block _ (lt_of_block HX_y38.out)).trans HX_y38.out)
                have HR_y39 := Lib.hid (HR_y38.out.below hbv (Nat.le_refl _))
                have HB_y39 : Hid (Below w.heap.size w y39) := HB_y38.out.trans (hbv.mono HB_y38.out.size)
                have HS_y39 : Hid (Below y38.heap.size y38 y39) := HS_y38.out.trans (hbv.mono HS_y38.out.size)
                clear hbv
                refine hK.out _ _ (HS_y39.out) (fun hHeld => ?_)
                clear hK K
                try simp only [Act.put, List.setIfInBounds_toArray, List.set_cons_zero, List.set_cons_succ]
                refine wpAnyH_take (i := 2) (oi := ⟨some 96, _, _, _, _, _⟩) (v := ?_) rfl (by kernel_rfl) (by kernel_rfl) (by kernel_rfl) (fun _ _ _ h => h) (Or.inl ⟨by rfl, ?_⟩) (by assumption) ?_
                rotate_left
                · intro w hSw
                  (try dsimp only at hSw)
                  go_simp
                  all_goals (with_reducible rfl)
                try simp only [Act.put, List.setIfInBounds_toArray, List.set_cons_zero, List.set_cons_succ]
                refine wpAnyH_take (i := 3) (oi := ⟨some 97, _, _, _, _, _⟩) (v := ?_) rfl (by kernel_rfl) (by kernel_rfl) (by kernel_rfl) (fun _ _ _ h => h) (Or.inl ⟨by rfl, ?_⟩) (by assumption) ?_
                rotate_left
                · intro w hSw
                  (try dsimp only at hSw)
                  go_simp
                  all_goals (with_reducible rfl)
                try simp only [Act.put, List.setIfInBounds_toArray, List.set_cons_zero, List.set_cons_succ]
                refine wpAnyH_take (i := 4) (oi := ⟨some 98, _, _, _, _, _⟩) (v := ?_) rfl (by kernel_rfl) (by kernel_rfl) (by kernel_rfl) (fun _ _ _ h => h) (Or.inl ⟨by rfl, ?_⟩) (by assumption) ?_
                rotate_left
                · intro w hSw
                  have kk0 := (hSw.cell (p := ⟨b, 0, none⟩) hbl).trans m0
                  have kk1 := (hSw.cell (p := ⟨b, 1, none⟩) hbl).trans m1
                  have kk2 := (hSw.cell (p := ⟨b, 2, none⟩) hbl).trans m2
                  have kk3 := (hSw.cell (p := ⟨b, 3, none⟩) hbl).trans m3
                  have kk4 := (hSw.cell (p := ⟨b, 4, none⟩) hbl).trans m4
                  clear hSw
                  go_simp
                  all_goals (with_reducible rfl)
                try simp only [Act.put, List.setIfInBounds_toArray, List.set_cons_zero, List.set_cons_succ]
                refine wpAnyH_ready (rs := [5]) (by kernel_rfl) (by simp) (AllReadyH.cons (o := ⟨some 99, _, _, _, _, _⟩) rfl (fun K hK => ?_) AllReadyH.nil)
                go_simp
                refine (rmany_is _ s v need 2 4 HR_y39.out hn E_4.out).mono ?_
                rintro e y40 ⟨rfl, hbv⟩
                have HX_y40 := Lib.hid ((hbv.block _ (lt_of_block HX_y39.out)).trans HX_y39.out)
                have HR_y40 := Lib.hid (HR_y39.out.below hbv (Nat.le_refl _))
                have HB_y40 : Hid (Below w.heap.size w y40) := HB_y39.out.trans (hbv.mono HB_y39.out.size)
                have HS_y40 : Hid (Below y38.heap.size y38 y40) := HS_y39.out.trans (hbv.mono HS_y39.out.size)
                clear hbv
                refine hK.out _ _ (HS_y40.out) (fun hHeld => ?_)
                clear hK K
                try simp only [Act.put, List.setIfInBounds_toArray, List.set_cons_zero, List.set_cons_succ]
                refine wpAnyH_take (i := 6) (oi := ⟨some 100, _, _, _, _, _⟩) (v := ?_) rfl (by kernel_rfl) (by kernel_rfl) (by kernel_rfl) (fun _ _ _ h => h) (Or.inl ⟨by rfl, ?_⟩) (by assumption) ?_
                rotate_left
                · intro w hSw
                  (try dsimp only at hSw)
                  go_simp
                  all_goals (with_reducible rfl)
                try simp only [Act.put, List.setIfInBounds_toArray, List.set_cons_zero, List.set_cons_succ]
                refine wpAnyH_take (i := 7) (oi := ⟨some 101, _, _, _, _, _⟩) (v := ?_) rfl (by kernel_rfl) (by kernel_rfl) (by kernel_rfl) (fun _ _ _ h => h) (Or.inl ⟨by rfl, ?_⟩) (by assumption) ?_
                rotate_left
                · intro w hSw
                  (try dsimp only at hSw)
                  go_simp
                  all_goals (with_reducible rfl)
                try simp only [Act.put, List.setIfInBounds_toArray, List.set_cons_zero, List.set_cons_succ]
                refine wpAnyH_take (i := 8) (oi := ⟨some 102, _, _, _, _, _⟩) (v := ?_) rfl (by kernel_rfl) (by kernel_rfl) (by kernel_rfl) (fun _ _ _ h => h) (Or.inl ⟨by rfl, ?_⟩) (by assumption) ?_
                rotate_left
                · intro w hSw
                  (try dsimp only at hSw)
                  go_simp
                  all_goals (with_reducible rfl)
                try simp only [Act.put, List.setIfInBounds_toArray, List.set_cons_zero, List.set_cons_succ]
                refine wpAnyH_take (i := 9) (oi := ⟨some 103, _, _, _, _, _⟩) (v := undef) rfl (by kernel_rfl) (by kernel_rfl) (by kernel_rfl) (fun _ _ _ h => h) (Or.inr ⟨by rfl, rfl⟩) (by assumption) ?_
                try simp only [Act.put, List.setIfInBounds_toArray, List.set_cons_zero, List.set_cons_succ]
                refine wpAnyH_take (i := 10) (oi := ⟨some 104, _, _, _, _, _⟩) (v := undef) rfl (by kernel_rfl) (by kernel_rfl) (by kernel_rfl) (fun _ _ _ h => h) (Or.inr ⟨by rfl, rfl⟩) (by assumption) ?_
                try simp only [Act.put, List.setIfInBounds_toArray, List.set_cons_zero, List.set_cons_succ]
                refine wpAnyH_take (i := 11) (oi := ⟨some 105, _, _, _, _, _⟩) (v := undef) rfl (by kernel_rfl) (by kernel_rfl) (by kernel_rfl) (fun _ _ _ h => h) (Or.inr ⟨by rfl, rfl⟩) (by assumption) ?_
                try simp only [Act.put, List.setIfInBounds_toArray, List.set_cons_zero, List.set_cons_succ]
                refine wpAnyH_take (i := 12) (oi := ⟨some 106, _, _, _, _, _⟩) (v := undef) rfl (by kernel_rfl) (by kernel_rfl) (by kernel_rfl) (fun _ _ _ h => h) (Or.inr ⟨by rfl, rfl⟩) (by assumption) ?_
                try simp only [Act.put, List.setIfInBounds_toArray, List.set_cons_zero, List.set_cons_succ]
                refine wpAnyH_take (i := 13) (oi := ⟨some 107, _, _, _, _, _⟩) (v := undef) rfl (by kernel_rfl) (by kernel_rfl) (by kernel_rfl) (fun _ _ _ h => h) (Or.inr ⟨by rfl, rfl⟩) (by assumption) ?_
                try simp only [Act.put, List.setIfInBounds_toArray, List.set_cons_zero, List.set_cons_succ]
                refine wpAnyH_take (i := 14) (oi := ⟨some 108, _, _, _, _, _⟩) (v := ?_) rfl (by kernel_rfl) (by kernel_rfl) (by kernel_rfl) (fun _ _ _ h => h) (Or.inl ⟨by rfl, ?_⟩) (by assumption) ?_
                rotate_left
                · intro w hSw
                  (try dsimp only at hSw)
                  go_simp
                  all_goals (with_reducible rfl)
                try simp only [Act.put, List.setIfInBounds_toArray, List.set_cons_zero, List.set_cons_succ]
                refine wpAnyH_take (i := 15) (oi := ⟨some 2, _, _, _, _, _⟩) (v := ?_) rfl (by kernel_rfl) (by kernel_rfl) (by kernel_rfl) (fun _ _ _ h => h) (Or.inl ⟨by rfl, ?_⟩) (by assumption) ?_
                rotate_left
                · intro w hSw
                  (try dsimp only at hSw)
                  go_simp
                  all_goals (with_reducible rfl)
                try simp only [Act.put, List.setIfInBounds_toArray, List.set_cons_zero, List.set_cons_succ]
                refine wpAnyH_done (by kernel_rfl) ?_ _
                clear m0 m1 m2 m3 m4 hbl
                go_wp2
                go_ret
                exact told_mk rfl HB_y40.out
            · have hg := HG.out
              obtain rfl : q = false := by rw [← hq2]; exact decide_eq_false (by omega)
              clear hq2
              clear hg
              have u2 : (c2 == 0) = false := by simpa using h2
              clear h2
              go_wp2
              clear m0 m1 m2 m3 m4 hbl
              obtain ⟨y41, h_y41⟩ : ∃ z, wr.drew = z := ⟨_, rfl⟩
              have hbd : Below wr.heap.size wr y41 := h_y41 ▸ (Below.refl _ _).drew
              have HX_y41 := Lib.hid ((hbd.block _ (lt_of_block HX_wr.out)).trans HX_wr.out)
              have HR_y41 := Lib.hid (HR_wr.out.below hbd (Nat.le_refl _))
              have HB_y41 : Hid (Below w.heap.size w y41) := HB_wr.out.trans (hbd.mono HB_wr.out.size)
              have HS_y41 : Hid (Below y41.heap.size y41 y41) := Below.refl _ _
              clear hbd
              obtain ⟨⟨m0, m1, m2, m3, m4⟩, hbl⟩ := five26 HX_y41.out
              refine wp_region_held_drew (S := fun z => Below y41.heap.size y41 z) (by kernel_rfl) (by show Below _ _ _; rw [h_y41]; exact Below.refl _ _) (fun hHeld => ?_)
              rw [h_y41]
              clear h_y41
              refine wpAnyH_take (i := 0) (oi := ⟨some 94, _, _, _, _, _⟩) (v := ?_) rfl (by kernel_rfl) (by kernel_rfl) (by kernel_rfl) (fun _ _ _ h => h) (Or.inl ⟨by rfl, ?_⟩) (by assumption) ?_
              rotate_left
              · intro w hSw
                have kk0 := (hSw.cell (p := ⟨b, 0, none⟩) hbl).trans m0
                have kk1 := (hSw.cell (p := ⟨b, 1, none⟩) hbl).trans m1
                have kk2 := (hSw.cell (p := ⟨b, 2, none⟩) hbl).trans m2
                have kk3 := (hSw.cell (p := ⟨b, 3, none⟩) hbl).trans m3
                have kk4 := (hSw.cell (p := ⟨b, 4, none⟩) hbl).trans m4
                clear hSw
                go_simp
                all_goals (with_reducible rfl)
              try simp only [Act.put, List.setIfInBounds_toArray, List.set_cons_zero, List.set_cons_succ]
              refine wpAnyH_ready (rs := [1]) (by kernel_rfl) (by simp) (AllReadyH.cons (o := ⟨some 95, _, _, _, _, _⟩) rfl (fun K hK => ?_) AllReadyH.nil)
              go_simp
              refine (rmany_is _ s v need 2 2 HR_y41.out hn E_2.out).mono ?_
              rintro e y42 ⟨rfl, hbv⟩
              have HX_y42 := Lib.hid ((hbv.block _ (lt_of_block HX_y41.out)).trans HX_y41.out)
              have HR_y42 := Lib.hid (HR_y41.out.below hbv (Nat.le_refl _))
              have HB_y42 : Hid (Below w.heap.size w y42) := HB_y41.out.trans (hbv.mono HB_y41.out.size)
              have HS_y42 : Hid (Below y41.heap.size y41 y42) := HS_y41.out.trans (hbv.mono HS_y41.out.size)
              clear hbv
              refine hK.out _ _ (HS_y42.out) (fun hHeld => ?_)
              clear hK K
              try simp only [Act.put, List.setIfInBounds_toArray, List.set_cons_zero, List.set_cons_succ]
              refine wpAnyH_take (i := 2) (oi := ⟨some 96, _, _, _, _, _⟩) (v := ?_) rfl (by kernel_rfl) (by kernel_rfl) (by kernel_rfl) (fun _ _ _ h => h) (Or.inl ⟨by rfl, ?_⟩) (by assumption) ?_
              rotate_left
              · intro w hSw
                (try dsimp only at hSw)
                go_simp
                all_goals (with_reducible rfl)
              try simp only [Act.put, List.setIfInBounds_toArray, List.set_cons_zero, List.set_cons_succ]
              refine wpAnyH_take (i := 3) (oi := ⟨some 97, _, _, _, _, _⟩) (v := ?_) rfl (by kernel_rfl) (by kernel_rfl) (by kernel_rfl) (fun _ _ _ h => h) (Or.inl ⟨by rfl, ?_⟩) (by assumption) ?_
              rotate_left
              · intro w hSw
                (try dsimp only at hSw)
                go_simp
                all_goals (with_reducible rfl)
              try simp only [Act.put, List.setIfInBounds_toArray, List.set_cons_zero, List.set_cons_succ]
              refine wpAnyH_take (i := 4) (oi := ⟨some 98, _, _, _, _, _⟩) (v := undef) rfl (by kernel_rfl) (by kernel_rfl) (by kernel_rfl) (fun _ _ _ h => h) (Or.inr ⟨by rfl, rfl⟩) (by assumption) ?_
              try simp only [Act.put, List.setIfInBounds_toArray, List.set_cons_zero, List.set_cons_succ]
              refine wpAnyH_take (i := 5) (oi := ⟨some 99, _, _, _, _, _⟩) (v := undef) rfl (by kernel_rfl) (by kernel_rfl) (by kernel_rfl) (fun _ _ _ h => h) (Or.inr ⟨by rfl, rfl⟩) (by assumption) ?_
              try simp only [Act.put, List.setIfInBounds_toArray, List.set_cons_zero, List.set_cons_succ]
              refine wpAnyH_take (i := 6) (oi := ⟨some 100, _, _, _, _, _⟩) (v := undef) rfl (by kernel_rfl) (by kernel_rfl) (by kernel_rfl) (fun _ _ _ h => h) (Or.inr ⟨by rfl, rfl⟩) (by assumption) ?_
              try simp only [Act.put, List.setIfInBounds_toArray, List.set_cons_zero, List.set_cons_succ]
              refine wpAnyH_take (i := 7) (oi := ⟨some 101, _, _, _, _, _⟩) (v := ?_) rfl (by kernel_rfl) (by kernel_rfl) (by kernel_rfl) (fun _ _ _ h => h) (Or.inl ⟨by rfl, ?_⟩) (by assumption) ?_
              rotate_left
              · intro w hSw
                (try dsimp only at hSw)
                go_simp
                all_goals (with_reducible rfl)
              try simp only [Act.put, List.setIfInBounds_toArray, List.set_cons_zero, List.set_cons_succ]
              refine wpAnyH_take (i := 8) (oi := ⟨some 102, _, _, _, _, _⟩) (v := ?_) rfl (by kernel_rfl) (by kernel_rfl) (by kernel_rfl) (fun _ _ _ h => h) (Or.inl ⟨by rfl, ?_⟩) (by assumption) ?_
              rotate_left
              · intro w hSw
                (try dsimp only at hSw)
                go_simp
                all_goals (with_reducible rfl)
              try simp only [Act.put, List.setIfInBounds_toArray, List.set_cons_zero, List.set_cons_succ]
              refine wpAnyH_take (i := 9) (oi := ⟨some 103, _, _, _, _, _⟩) (v := undef) rfl (by kernel_rfl) (by kernel_rfl) (by kernel_rfl) (fun _ _ _ h => h) (Or.inr ⟨by rfl, rfl⟩) (by assumption) ?_
              try simp only [Act.put, List.setIfInBounds_toArray, List.set_cons_zero, List.set_cons_succ]
              refine wpAnyH_take (i := 10) (oi := ⟨some 104, _, _, _, _, _⟩) (v := undef) rfl (by kernel_rfl) (by kernel_rfl) (by kernel_rfl) (fun _ _ _ h => h) (Or.inr ⟨by rfl, rfl⟩) (by assumption) ?_
              try simp only [Act.put, List.setIfInBounds_toArray, List.set_cons_zero, List.set_cons_succ]
              refine wpAnyH_take (i := 11) (oi := ⟨some 105, _, _, _, _, _⟩) (v := undef) rfl (by kernel_rfl) (by kernel_rfl) (by kernel_rfl) (fun _ _ _ h => h) (Or.inr ⟨by rfl, rfl⟩) (by assumption) ?_
              try simp only [Act.put, List.setIfInBounds_toArray, List.set_cons_zero, List.set_cons_succ]
              refine wpAnyH_take (i := 12) (oi := ⟨some 106, _, _, _, _, _⟩) (v := undef) rfl (by kernel_rfl) (by kernel_rfl) (by kernel_rfl) (fun _ _ _ h => h) (Or.inr ⟨by rfl, rfl⟩) (by assumption) ?_
              try simp only [Act.put, List.setIfInBounds_toArray, List.set_cons_zero, List.set_cons_succ]
              refine wpAnyH_take (i := 13) (oi := ⟨some 107, _, _, _, _, _⟩) (v := undef) rfl (by kernel_rfl) (by kernel_rfl) (by kernel_rfl) (fun _ _ _ h => h) (Or.inr ⟨by rfl, rfl⟩) (by assumption) ?_
              try simp only [Act.put, List.setIfInBounds_toArray, List.set_cons_zero, List.set_cons_succ]
              refine wpAnyH_take (i := 14) (oi := ⟨some 108, _, _, _, _, _⟩) (v := ?_) rfl (by kernel_rfl) (by kernel_rfl) (by kernel_rfl) (fun _ _ _ h => h) (Or.inl ⟨by rfl, ?_⟩) (by assumption) ?_
              rotate_left
              · intro w hSw
                (try dsimp only at hSw)
                go_simp
                all_goals (with_reducible rfl)
              try simp only [Act.put, List.setIfInBounds_toArray, List.set_cons_zero, List.set_cons_succ]
              refine wpAnyH_take (i := 15) (oi := ⟨some 2, _, _, _, _, _⟩) (v := ?_) rfl (by kernel_rfl) (by kernel_rfl) (by kernel_rfl) (fun _ _ _ h => h) (Or.inl ⟨by rfl, ?_⟩) (by assumption) ?_
              rotate_left
              · intro w hSw
                (try dsimp only at hSw)
                go_simp
                all_goals (with_reducible rfl)
              try simp only [Act.put, List.setIfInBounds_toArray, List.set_cons_zero, List.set_cons_succ]
              refine wpAnyH_done (by kernel_rfl) ?_ _
              clear m0 m1 m2 m3 m4 hbl
              go_wp2
              go_ret
              exact told_mk rfl HB_y42.out
          · by_cases hp3 : ph = 3
            · subst hp3
              by_cases h2 : c4 = 0
              · by_cases h1 : c2 = n
                · have hg := HG.out
                  obtain rfl : q = false := by rw [← hq2]; exact decide_eq_false (by omega)
                  clear hq2
                  clear hg
                  subst h2
                  have t3 : (c2 == (n : Int)) = true := by simpa using h1
                  have t4 : (c2 != (n : Int)) = false := by simpa using h1
                  clear h1
                  clear m0 m1 m2 m3 m4 hbl
                  obtain ⟨⟨m0, m1, m2, m3, m4⟩, hbl⟩ := five26 HX_wr.out
                  go_wp2_with fail
                  refine (rmany_is _ s v need 3 4 HR_wr.out hn E_4.out).mono ?_
                  rintro e y43 ⟨rfl, hbv⟩
                  have HX_y43 := Lib.hid ((hbv.block _ (lt_of_block HX_wr.out)).trans HX_wr.out)
                  have HR_y43 := Lib.hid (HR_wr.out.below hbv (Nat.le_refl _))
                  have HB_y43 : Hid (Below w.heap.size w y43) := HB_wr.out.trans (hbv.mono HB_wr.out.size)
                  clear hbv m0 m1 m2 m3 m4 hbl
                  obtain ⟨⟨m0, m1, m2, m3, m4⟩, hbl⟩ := five26 HX_y43.out
                  go_wp2_with fail
                  refine (rmany_is _ s v need 3 2 HR_y43.out hn E_2.out).mono ?_
                  rintro e y44 ⟨rfl, hbv⟩
                  have HX_y44 := Lib.hid ((hbv.block _ (lt_of_block HX_y43.out)).trans HX_y43.out)
                  have HR_y44 := Lib.hid (HR_y43.out.below hbv (Nat.le_refl _))
                  have HB_y44 : Hid (Below w.heap.size w y44) := HB_y43.out.trans (hbv.mono HB_y43.out.size)
                  clear hbv m0 m1 m2 m3 m4 hbl
                  obtain ⟨⟨m0, m1, m2, m3, m4⟩, hbl⟩ := five26 HX_y44.out
                  go_wp2
                  go_ret
                  exact told_mk rfl HB_y44.out
                · have hg := HG.out
                  obtain rfl : q = true := by rw [← hq2]; exact decide_eq_true (by omega)
                  clear hq2
                  clear hg
                  subst h2
                  have t3 : (c2 == (n : Int)) = false := by simpa using h1
                  have t4 : (c2 != (n : Int)) = true := by simpa using h1
                  clear h1
                  clear m0 m1 m2 m3 m4 hbl
                  obtain ⟨⟨m0, m1, m2, m3, m4⟩, hbl⟩ := five26 HX_wr.out
                  go_wp2_with fail
                  refine (rmany_is _ s v need 3 4 HR_wr.out hn E_4.out).mono ?_
                  rintro e y45 ⟨rfl, hbv⟩
                  have HX_y45 := Lib.hid ((hbv.block _ (lt_of_block HX_wr.out)).trans HX_wr.out)
                  have HR_y45 := Lib.hid (HR_wr.out.below hbv (Nat.le_refl _))
                  have HB_y45 : Hid (Below w.heap.size w y45) := HB_wr.out.trans (hbv.mono HB_wr.out.size)
                  clear hbv m0 m1 m2 m3 m4 hbl
                  obtain ⟨⟨m0, m1, m2, m3, m4⟩, hbl⟩ := five26 HX_y45.out
                  go_wp2_with fail
                  refine (rmany_is _ s v need 3 2 HR_y45.out hn E_2.out).mono ?_
                  rintro e y46 ⟨rfl, hbv⟩
                  have HX_y46 := Lib.hid ((hbv.block _ (lt_of_block HX_y45.out)).trans HX_y45.out)
                  have HR_y46 := Lib.hid (HR_y45.out.below hbv (Nat.le_refl _))
                  have HB_y46 : Hid (Below w.heap.size w y46) := HB_y45.out.trans (hbv.mono HB_y45.out.size)
                  clear hbv m0 m1 m2 m3 m4 hbl
                  obtain ⟨⟨m0, m1, m2, m3, m4⟩, hbl⟩ := five26 HX_y46.out
                  go_wp2
                  go_ret
                  exact told_mk rfl HB_y46.out
              · have hg := HG.out
                obtain rfl : q = false := by rw [← hq2]; exact decide_eq_false (by omega)
                clear hq2
                clear hg
                have u2 : (c4 == 0) = false := by simpa using h2
                clear h2
                clear m0 m1 m2 m3 m4 hbl
                obtain ⟨⟨m0, m1, m2, m3, m4⟩, hbl⟩ := five26 HX_wr.out
                go_wp2_with fail
                refine (rmany_is _ s v need 3 4 HR_wr.out hn E_4.out).mono ?_
                rintro e y47 ⟨rfl, hbv⟩
                have HX_y47 := Lib.hid ((hbv.block _ (lt_of_block HX_wr.out)).trans HX_wr.out)
                have HR_y47 := Lib.hid (HR_wr.out.below hbv (Nat.le_refl _))
                have HB_y47 : Hid (Below w.heap.size w y47) := HB_wr.out.trans (hbv.mono HB_wr.out.size)
                clear hbv m0 m1 m2 m3 m4 hbl
                obtain ⟨⟨m0, m1, m2, m3, m4⟩, hbl⟩ := five26 HX_y47.out
                go_wp2
                go_ret
                exact told_mk rfl HB_y47.out
            · by_cases hp4 : ph = 4
              · subst hp4
                by_cases h1 : c2 = n
                · have hg := HG.out
                  obtain rfl : q = true := by rw [← hq2]; exact decide_eq_true (by omega)
                  clear hq2
                  clear hg
                  have t3 : (c2 == (n : Int)) = true := by simpa using h1
                  clear h1
                  clear m0 m1 m2 m3 m4 hbl
                  obtain ⟨⟨m0, m1, m2, m3, m4⟩, hbl⟩ := five26 HX_wr.out
                  go_wp2_with fail
                  refine (rmany_is _ s v need 4 2 HR_wr.out hn E_2.out).mono ?_
                  rintro e y48 ⟨rfl, hbv⟩
                  have HX_y48 := Lib.hid ((hbv.block _ (lt_of_block HX_wr.out)).trans HX_wr.out)
                  have HR_y48 := Lib.hid (HR_wr.out.below hbv (Nat.le_refl _))
                  have HB_y48 : Hid (Below w.heap.size w y48) := HB_wr.out.trans (hbv.mono HB_wr.out.size)
                  clear hbv m0 m1 m2 m3 m4 hbl
                  obtain ⟨⟨m0, m1, m2, m3, m4⟩, hbl⟩ := five26 HX_y48.out
                  go_wp2
                  go_ret
                  exact told_mk rfl HB_y48.out
                · have hg := HG.out
                  obtain rfl : q = false := by rw [← hq2]; exact decide_eq_false (by omega)
                  clear hq2
                  clear hg
                  have t3 : (c2 == (n : Int)) = false := by simpa using h1
                  clear h1
                  clear m0 m1 m2 m3 m4 hbl
                  obtain ⟨⟨m0, m1, m2, m3, m4⟩, hbl⟩ := five26 HX_wr.out
                  go_wp2_with fail
                  refine (rmany_is _ s v need 4 2 HR_wr.out hn E_2.out).mono ?_
                  rintro e y49 ⟨rfl, hbv⟩
                  have HX_y49 := Lib.hid ((hbv.block _ (lt_of_block HX_wr.out)).trans HX_wr.out)
                  have HR_y49 := Lib.hid (HR_wr.out.below hbv (Nat.le_refl _))
                  have HB_y49 : Hid (Below w.heap.size w y49) := HB_wr.out.trans (hbv.mono HB_wr.out.size)
                  clear hbv m0 m1 m2 m3 m4 hbl
                  obtain ⟨⟨m0, m1, m2, m3, m4⟩, hbl⟩ := five26 HX_y49.out
                  go_wp2
                  go_ret
                  exact told_mk rfl HB_y49.out
              · by_cases hp5 : ph = 5
                · subst hp5
                  by_cases h2 : c2 = 0
                  · by_cases h1 : c4 = n
                    · have hg := HG.out
                      obtain rfl : q = false := by rw [← hq2]; exact decide_eq_false (by omega)
                      clear hq2
                      clear hg
                      subst h2
                      have t3 : (c4 == (n : Int)) = true := by simpa using h1
                      have t4 : (c4 != (n : Int)) = false := by simpa using h1
                      clear h1
                      clear m0 m1 m2 m3 m4 hbl
                      obtain ⟨⟨m0, m1, m2, m3, m4⟩, hbl⟩ := five26 HX_wr.out
                      go_wp2_with fail
                      refine (rmany_is _ s v need 5 2 HR_wr.out hn E_2.out).mono ?_
                      rintro e y50 ⟨rfl, hbv⟩
                      have HX_y50 := Lib.hid ((hbv.block _ (lt_of_block HX_wr.out)).trans HX_wr.out)
                      have HR_y50 := Lib.hid (HR_wr.out.below hbv (Nat.le_refl _))
                      have HB_y50 : Hid (Below w.heap.size w y50) := HB_wr.out.trans (hbv.mono HB_wr.out.size)
                      clear hbv m0 m1 m2 m3 m4 hbl
                      obtain ⟨⟨m0, m1, m2, m3, m4⟩, hbl⟩ := five26 HX_y50.out
                      go_wp2_with fail
                      refine (rmany_is _ s v need 5 4 HR_y50.out hn E_4.out).mono ?_
                      rintro e y51 ⟨rfl, hbv⟩
                      have HX_y51 := Lib.hid ((hbv.block _ (lt_of_block HX_y50.out)).trans HX_y50.out)
                      have HR_y51 := Lib.hid (HR_y50.out.below hbv (Nat.le_refl _))
                      have HB_y51 : Hid (Below w.heap.size w y51) := HB_y50.out.trans (hbv.mono HB_y50.out.size)
                      clear hbv m0 m1 m2 m3 m4 hbl
                      obtain ⟨⟨m0, m1, m2, m3, m4⟩, hbl⟩ := five26 HX_y51.out
                      go_wp2
                      go_ret
                      exact told_mk rfl HB_y51.out
                    · have hg := HG.out
                      obtain rfl : q = true := by rw [← hq2]; exact decide_eq_true (by omega)
                      clear hq2
                      clear hg
                      subst h2
                      have t3 : (c4 == (n : Int)) = false := by simpa using h1
                      have t4 : (c4 != (n : Int)) = true := by simpa using h1
                      clear h1
                      clear m0 m1 m2 m3 m4 hbl
                      obtain ⟨⟨m0, m1, m2, m3, m4⟩, hbl⟩ := five26 HX_wr.out
                      go_wp2_with fail
                      refine (rmany_is _ s v need 5 2 HR_wr.out hn E_2.out).mono ?_
                      rintro e y52 ⟨rfl, hbv⟩
                      have HX_y52 := Lib.hid ((hbv.block _ (lt_of_block HX_wr.out)).trans HX_wr.out)
                      have HR_y52 := Lib.hid (HR_wr.out.below hbv (Nat.le_refl _))
                      have HB_y52 : Hid (Below w.heap.size w y52) := HB_wr.out.trans (hbv.mono HB_wr.out.size)
                      clear hbv m0 m1 m2 m3 m4 hbl
                      obtain ⟨⟨m0, m1, m2, m3, m4⟩, hbl⟩ := five26 HX_y52.out
                      go_wp2_with fail
                      refine (rmany_is _ s v need 5 4 HR_y52.out hn E_4.out).mono ?_
                      rintro e y53 ⟨rfl, hbv⟩
                      have HX_y53 := Lib.hid ((hbv.block _ (lt_of_block HX_y52.out)).trans HX_y52.out)
                      have HR_y53 := Lib.hid (HR_y52.out.below hbv (Nat.le_refl _))
                      have HB_y53 : Hid (Below w.heap.size w y53) := HB_y52.out.trans (hbv.mono HB_y52.out.size)
                      clear hbv m0 m1 m2 m3 m4 hbl
                      obtain ⟨⟨m0, m1, m2, m3, m4⟩, hbl⟩ := five26 HX_y53.out
                      go_wp2
                      go_ret
                      exact told_mk rfl HB_y53.out
                  · have hg := HG.out
                    obtain rfl : q = false := by rw [← hq2]; exact decide_eq_false (by omega)
                    clear hq2
                    clear hg
                    have u2 : (c2 == 0) = false := by simpa using h2
                    clear h2
                    clear m0 m1 m2 m3 m4 hbl
                    obtain ⟨⟨m0, m1, m2, m3, m4⟩, hbl⟩ := five26 HX_wr.out
                    go_wp2_with fail
                    refine (rmany_is _ s v need 5 2 HR_wr.out hn E_2.out).mono ?_
                    rintro e y54 ⟨rfl, hbv⟩
                    have HX_y54 := Lib.hid ((hbv.block _ (lt_of_block HX_wr.out)).trans HX_wr.out)
                    have HR_y54 := Lib.hid (HR_wr.out.below hbv (Nat.le_refl _))
                    have HB_y54 : Hid (Below w.heap.size w y54) := HB_wr.out.trans (hbv.mono HB_wr.out.size)
                    clear hbv m0 m1 m2 m3 m4 hbl
                    obtain ⟨⟨m0, m1, m2, m3, m4⟩, hbl⟩ := five26 HX_y54.out
                    go_wp2
                    go_ret
                    exact told_mk rfl HB_y54.out
                · by_cases hp6 : ph = 6
                  · subst hp6
                    by_cases h1 : c4 = n
                    · have hg := HG.out
                      obtain rfl : q = true := by rw [← hq2]; exact decide_eq_true (by omega)
                      clear hq2
                      clear hg
                      have t3 : (c4 == (n : Int)) = true := by simpa using h1
                      clear h1
                      clear m0 m1 m2 m3 m4 hbl
                      obtain ⟨⟨m0, m1, m2, m3, m4⟩, hbl⟩ := five26 HX_wr.out
                      go_wp2_with fail
                      refine (rmany_is _ s v need 6 4 HR_wr.out hn E_4.out).mono ?_
                      rintro e y55 ⟨rfl, hbv⟩
                      have HX_y55 := Lib.hid ((hbv.block _ (lt_of_block HX_wr.out)).trans HX_wr.out)
                      have HR_y55 := Lib.hid (HR_wr.out.below hbv (Nat.le_refl _))
                      have HB_y55 : Hid (Below w.heap.size w y55) := HB_wr.out.trans (hbv.mono HB_wr.out.size)
                      clear hbv m0 m1 m2 m3 m4 hbl
                      obtain ⟨⟨m0, m1, m2, m3, m4⟩, hbl⟩ := five26 HX_y55.out
                      go_wp2
                      go_ret
                      exact told_mk rfl HB_y55.out
                    · have hg := HG.out
                      obtain rfl : q = false := by rw [← hq2]; exact decide_eq_false (by omega)
                      clear hq2
                      clear hg
                      have t3 : (c4 == (n : Int)) = false := by simpa using h1
                      clear h1
                      clear m0 m1 m2 m3 m4 hbl
                      obtain ⟨⟨m0, m1, m2, m3, m4⟩, hbl⟩ := five26 HX_wr.out
                      go_wp2_with fail
                      refine (rmany_is _ s v need 6 4 HR_wr.out hn E_4.out).mono ?_
                      rintro e y56 ⟨rfl, hbv⟩
                      have HX_y56 := Lib.hid ((hbv.block _ (lt_of_block HX_wr.out)).trans HX_wr.out)
                      have HR_y56 := Lib.hid (HR_wr.out.below hbv (Nat.le_refl _))
                      have HB_y56 : Hid (Below w.heap.size w y56) := HB_wr.out.trans (hbv.mono HB_wr.out.size)
                      clear hbv m0 m1 m2 m3 m4 hbl
                      obtain ⟨⟨m0, m1, m2, m3, m4⟩, hbl⟩ := five26 HX_y56.out
                      go_wp2
                      go_ret
                      exact told_mk rfl HB_y56.out
                  · have hg := HG.out
                    obtain rfl : q = false := by rw [← hq2]; exact decide_eq_false (by omega)
                    clear hq2
                    clear hg
                    have d1 : (ph == 1) = false := by simpa using hp1
                    have d2 : (ph == 2) = false := by simpa using hp2
                    have d3 : (ph == 3) = false := by simpa using hp3
                    have d4 : (ph == 4) = false := by simpa using hp4
                    have d5 : (ph == 5) = false := by simpa using hp5
                    have d6 : (ph == 6) = false := by simpa using hp6
                    clear hp1 hp2 hp3 hp4 hp5 hp6
                    go_wp2
                    go_ret
                    exact told_mk rfl HB_wr.out
  · obtain rfl : q = false := by rw [← hq]; exact decide_eq_false (fun h => hmay (hln ▸ h.1))
    clear hq
    by_cases g0 : s < 0
    · have z0 : decide (s < 0) = true := decide_eq_true g0
      clear hmay g0
      go_enter Try.func28, Try.ntmps28
      go_wp2
      (try rw [hw1]); (try rw [hb])
      go_ret
      exact told_mk rfl HB_w1.out
    · have z0 : decide (s < 0) = false := decide_eq_false g0
      by_cases g1 : 1099511627776 < s
      · have z1 : decide (1099511627776 < s) = true := decide_eq_true g1
        clear hmay g0 g1
        go_enter Try.func28, Try.ntmps28
        go_wp2
        (try rw [hw1]); (try rw [hb])
        go_ret
        exact told_mk rfl HB_w1.out
      · have z1 : decide (1099511627776 < s) = false := decide_eq_false g1
        by_cases g2 : v < 1
        · have z2 : decide (v < 1) = true := decide_eq_true g2
          clear hmay g0 g1 g2
          go_enter Try.func28, Try.ntmps28
          go_wp2
          (try rw [hw1]); (try rw [hb])
          go_ret
          exact told_mk rfl HB_w1.out
        · have z2 : decide (v < 1) = false := decide_eq_false g2
          by_cases g3 : 1099511627776 < v
          · have z3 : decide (1099511627776 < v) = true := decide_eq_true g3
            clear hmay g0 g1 g2 g3
            go_enter Try.func28, Try.ntmps28
            go_wp2
            (try rw [hw1]); (try rw [hb])
            go_ret
            exact told_mk rfl HB_w1.out
          · have z3 : decide (1099511627776 < v) = false := decide_eq_false g3
            by_cases g4 : (n : Int) < 1
            · have z4 : decide ((n : Int) < 1) = true := decide_eq_true g4
              clear hmay g0 g1 g2 g3 g4
              go_enter Try.func28, Try.ntmps28
              go_wp2
              (try rw [hw1]); (try rw [hb])
              go_ret
              exact told_mk rfl HB_w1.out
            · have z4 : decide ((n : Int) < 1) = false := decide_eq_false g4
              by_cases g5 : 255 < (n : Int)
              · have z5 : decide (255 < (n : Int)) = true := decide_eq_true g5
                clear hmay g0 g1 g2 g3 g4 g5
                go_enter Try.func28, Try.ntmps28
                go_wp2
                (try rw [hw1]); (try rw [hb])
                go_ret
                exact told_mk rfl HB_w1.out
              · have z5 : decide (255 < (n : Int)) = false := decide_eq_false g5
                by_cases g6 : need < 1
                · have z6 : decide (need < 1) = true := decide_eq_true g6
                  clear hmay g0 g1 g2 g3 g4 g5 g6
                  go_enter Try.func28, Try.ntmps28
                  go_wp2
                  (try rw [hw1]); (try rw [hb])
                  go_ret
                  exact told_mk rfl HB_w1.out
                · have z6 : decide (need < 1) = false := decide_eq_false g6
                  by_cases g7 : (n : Int) < need
                  · have z7 : decide ((n : Int) < need) = true := decide_eq_true g7
                    clear hmay g0 g1 g2 g3 g4 g5 g6 g7
                    go_enter Try.func28, Try.ntmps28
                    go_wp2
                    (try rw [hw1]); (try rw [hb])
                    go_ret
                    exact told_mk rfl HB_w1.out
                  · have z7 : decide ((n : Int) < need) = false := decide_eq_false g7
                    exact absurd (show MayR s v n need by unfold MayR; omega) hmay
end
end Go.Proofs.Ytciihebaameccaa
