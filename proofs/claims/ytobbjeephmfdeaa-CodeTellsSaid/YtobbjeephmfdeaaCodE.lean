/- Right and Mul, of rows that are only read. -/
import Derived.Test.YtobbjeephmfdeaaCodD
namespace Go.Proofs.Ytobbjeephmfdeaa
open Go.RowKit Go.Coop
set_option maxRecDepth 100000

theorem right_mr (A : Option Addr) (n c : Nat) (M : List (List UInt8)) (w : World) (h : MR w A n M) (hn : n ≤ 140737488355328) :
    Calls Try.prog 75 #[.slice A n c] w fun e w' => e = .returned (.bool (rightB M)) ∧ w = w' := by
  by_cases h1 : n < 1 ∨ 255 < n
  · have e : rightB M = false := by
      unfold rightB; rw [decide_eq_false (by rw [h.len]; omega)]; rfl
    rw [e]
    go_enter Try.func75, Try.ntmps75
    go_wp2_with (go_at_call 68; refine (side_no _ _ (by omega)).mono ?_; rintro e w' ⟨rfl, rfl⟩)
    go_ret
    exact ⟨rfl, rfl⟩
  obtain ⟨g, B, d, r, rfl, _, hr0, hc0, ho0⟩ := h.row (show 0 < n by omega)
  rw [addr_add_0] at hc0
  have hh := headD_at hr0
  obtain ⟨K, hK⟩ : ∃ K, r.length = K := ⟨_, rfl⟩
  rw [hK] at hc0 ho0
  have HB : Hid (rightB M = (decide (1 ≤ K ∧ K ≤ 255) && M.all fun r => r.length == K)) := by
    show rightB M = _
    unfold rightB; rw [hh, hK, decide_eq_true (show 1 ≤ M.length ∧ M.length ≤ 255 by rw [h.len]; omega)]; rfl
  have HM := Lib.hid h
  clear hh hK hr0 ho0 h
  by_cases h2 : K < 1 ∨ 255 < K
  · have e : rightB M = false := by rw [HB.out, decide_eq_false (by omega)]; rfl
    rw [e]
    clear e
    go_enter Try.func75, Try.ntmps75
    go_wp2_with (go_at_call 68; first | (refine (side_yes _ _ (by omega) (by omega)).mono ?_; rintro e w' ⟨rfl, rfl⟩) | (refine (side_no _ _ (by omega)).mono ?_; rintro e w' ⟨rfl, rfl⟩))
    go_ret
    exact ⟨rfl, rfl⟩
  go_enter Try.func75, Try.ntmps75
  go_wp2_with (go_at_call 68; refine (side_yes _ _ (by omega) (by omega)).mono ?_; rintro e w' ⟨rfl, rfl⟩)
  go_loop [19] (fun i => ∃ q : Nat, q ≤ n ∧ i = .int .i64 q ∧ Hid (∀ (j : Nat) (r : List UInt8), j < q → M[j]? = some r → r.length = K)) (fun i => n - (intOf i).toNat)
  case atStart => exact ⟨0, by omega, rfl, fun j r hj => by omega⟩
  case round =>
    obtain ⟨q, hq, rfl, HQ⟩ := hrel
    by_cases hlt : q < n
    · obtain ⟨g', B', d', r', e', _, hr', hc', _⟩ := HM.out.row hlt
      injection e' with e'
      subst e'
      by_cases hl : r'.length = K
      · rw [hl] at hc'
        have HL := Lib.hid (And.intro hr' hl)
        clear hr' hl
        go_wp2
        go_round
        case rel =>
          refine ⟨q + 1, by omega, by go_num, fun j r hj hjr => ?_⟩
          by_cases e : j < q
          · exact HQ.out j r e hjr
          · obtain rfl : j = q := by omega
            have := HL.out.1
            rw [hjr] at this
            injection this with this
            rw [this]; exact HL.out.2
        case measure => simp [intOf]; omega
      · have e : rightB M = false := by
          rw [HB.out, Bool.and_eq_false_iff]
          exact .inr (List.all_eq_false.2 ⟨r', List.mem_of_getElem? hr', by simpa using hl⟩)
        have HE := Lib.hid e
        have HR := Lib.hid hr'
        obtain ⟨L, hL⟩ : ∃ L, r'.length = L := ⟨_, rfl⟩
        rw [hL] at hc' hl
        have hq1 : ((L : Int) == (K : Int)) = false := beq_eq_false_iff_ne.2 (by omega)
        clear e hL hr'
        go_wp2
        go_ret
        exact ⟨by rw [HE.out]; rfl, rfl⟩
    · obtain rfl : q = n := by omega
      have e : rightB M = true := by
        rw [HB.out, decide_eq_true (by omega), Bool.true_and, List.all_eq_true]
        intro r hr
        obtain ⟨j, hj⟩ := List.mem_iff_getElem?.1 hr
        have hjl := (List.getElem?_eq_some_iff.1 hj).1
        rw [HM.out.len] at hjl
        simpa using HQ.out j r hjl hj
      have HE := Lib.hid e
      clear e
      go_wp2
      go_ret
      exact ⟨by rw [HE.out]; rfl, rfl⟩
theorem right_mry (A : Option Addr) (n c k : Nat) (F : Fn2) (w : World) (h : MR w A n (tabM n k F)) (h1 : 1 ≤ n) (h2 : n ≤ 255) (h3 : 1 ≤ k) (h4 : k ≤ 255) :
    Calls Try.prog 75 #[.slice A n c] w fun e w' => e = .returned (.bool true) ∧ w = w' := by
  have := right_mr A n c _ w h (by omega)
  rwa [right_tab h1 h2 h3 h4] at this

theorem mul_mr {bo' br' : Nat} (g : Nat) (A : Option Addr) (n c k : Nat) (F : Fn2) (B : Option Addr) (d m : Nat) (G : Fn2) (w : World) (hf : FldAt w g) (h : MR w A n (tabM n k F)) (h' : MO w bo' br' B k d (tabM k m G))
    (hn1 : 1 ≤ n) (hn2 : n ≤ 255) (hk1 : 1 ≤ k) (hk2 : k ≤ 255) (hm1 : 1 ≤ m) (hm2 : m ≤ 255) :
    Calls Try.prog 50 #[.pointer (some ⟨g, 0, none⟩), .slice A n c, .slice B k d] w (GotM w n (tabM n m (mulF k F G))) := by
  have HF := Lib.hid hf
  have HM := Lib.hid h
  have HN := Lib.hid h'
  obtain ⟨ga, Ba, da, ra, rfl, _, hra, hca, _⟩ := h.row (show 0 < n by omega)
  rw [addr_add_0] at hca
  obtain ⟨gb, Bb, db, rb, rfl, _, _, _, hrb, hcb, _⟩ := h'.row (show 0 < k by omega)
  rw [tabM_at k F (show 0 < n by omega)] at hra
  rw [tabM_at m G (show 0 < k by omega)] at hrb
  injection hra with hra
  injection hrb with hrb
  rw [← hra, rowL_len] at hca
  rw [← hrb, rowL_len] at hcb
  have HC := Lib.hid (And.intro hca hcb)
  clear hf h h' hra hrb hca hcb
  go_enter Try.func50, Try.ntmps50
  go_wp2_with fail
  refine (mmade_yes _ _ HF.out).mono ?_
  rintro e w' ⟨rfl, n0, hw0⟩
  have HW0 := Lib.hid hw0
  clear hw0
  have HF0 : Hid (FldAt w' g) := by show FldAt w' g; rw [HW0.out]; exact HF.out.drewN n0
  have HM0 : Hid (MR w' (some ga) n (tabM n k F)) := by show MR _ _ _ _; rw [HW0.out]; exact HM.out.drewN n0
  have HN0 : Hid (MO w' bo' br' (some ⟨gb, 0, none⟩) k d (tabM k m G)) := by show MO _ _ _ _ _ _ _; rw [HW0.out]; exact HN.out.drewN n0
  have hca : w'.cell? ga = some (.slice Ba k da) := by rw [HW0.out]; exact HC.out.1
  have hcb : w'.cell? ⟨gb, 0, none⟩ = some (.slice Bb m db) := by rw [HW0.out]; exact HC.out.2
  have HB0 : Hid (Below w.heap.size w w' ∧ w'.heap.size = w.heap.size) := by rw [HW0.out]; exact ⟨⟨rfl, rfl, rfl, Nat.le_refl _, fun _ _ => rfl⟩, rfl⟩
  clear HF HM HN HC HW0
  go_wp2_with fail
  refine (right_mry _ n c k F _ HM0.out hn1 hn2 hk1 hk2).mono ?_
  rintro e w1 ⟨rfl, rfl⟩
  go_wp2_with fail
  refine (right_yes _ k d m G _ HN0.out hk1 hk2 hm1 hm2).mono ?_
  rintro e w1 ⟨rfl, rfl⟩
  go_wp2_with fail
  refine (noughts_any n m _ (by omega) (by omega)).mono ?_
  rintro e w1 ⟨rfl, hG, hB⟩
  have hcb1 : w1.cell? ⟨gb, 0, none⟩ = some (.slice Bb m db) := (hB.cell (p := ⟨gb, 0, none⟩) (block_lt_of_cell hcb)).trans hcb
  have HG1 := Lib.hid hG
  have HB1 := Lib.hid hB
  clear hG hB hca hcb
  go_wp2_with fail
  clear hcb1
  generalize hg0 : w'.heap.size = g0 at *
  go_loopw [44] (fun j wr => ∃ q : Nat, q ≤ m ∧ j = .int .i64 q ∧ Hid (Grid wr g0 n m (fun a b => if b < q then mulF k F G a b else 0)) ∧ Hid (Below g0 w' wr)) (fun j _ => m - (intOf j).toNat)
  case atStart => exact ⟨0, by omega, rfl, HG1.out.congr fun i j _ _ => by rw [if_neg (by omega)], HB1.out⟩
  case round =>
    obtain ⟨q, hq, rfl, HG, HB⟩ := hrel
    clear HG1 HB1
    by_cases hlt : q < m
    · go_wp2_with fail
      refine (column_any _ k d m q G _ (HN0.out.below HB.out (by omega)) hk2 hlt hm2).mono ?_
      rintro e w2 ⟨D, cd, rfl, hoD, hbD⟩
      have HG2 := Lib.hid (HG.out.below hbD (Nat.le_refl _))
      have HB2 := Lib.hid (HB.out.trans (hbD.mono (by have := HB.out.size; omega)))
      have HO2 := Lib.hid hoD
      have HGs : Hid (∀ i, i < n → g0 + 1 + i < wr.heap.size) := fun i hi => (Array.getElem?_eq_some_iff.1 (HG.out.rows i hi)).1
      obtain ⟨b1, hb1⟩ : ∃ b1, wr.heap.size = b1 := ⟨_, rfl⟩
      rw [hb1] at HO2 HGs
      clear hoD hbD HG HB hb1
      go_wp2_with fail
      go_loopw [52] (fun i wr => ∃ p : Nat, p ≤ n ∧ i = .int .i64 p ∧ Hid (Grid wr g0 n m (fun a b => if b < q ∨ (b = q ∧ a < p) then mulF k F G a b else 0)) ∧ Hid (Below g0 w' wr) ∧ Hid (Own wr b1 5 D k cd (rowL k fun l => G l q))) (fun i _ => n - (intOf i).toNat)
      case atStart => exact ⟨0, by omega, rfl, HG2.out.congr fun i j _ _ => by by_cases e : j < q; rw [if_pos e, if_pos (.inl e)]; rw [if_neg e, if_neg (by omega)], HB2.out, HO2.out⟩
      case round =>
        rename_i wr0
        obtain ⟨p, hp, rfl, HG, HB, HO⟩ := hrel
        by_cases hpn : p < n
        · have hrow := HG.out.rowAt hpn
          obtain ⟨hc, hfz⟩ := HG.out.cellAt hpn hlt
          unfold BV at hc
          generalize ((if q < q ∨ (q = q ∧ p < p) then mulF k F G p q else 0 : UInt8).toNat : Int) = X at *
          obtain ⟨ga', Br, dr, rr, ea, _, hrr, hcr, hor⟩ := (HM0.out.below HB.out (by omega)).row hpn
          injection ea with ea
          subst ea
          rw [tabM_at k F hpn] at hrr
          injection hrr with hrr
          rw [← hrr, rowL_len] at hcr hor
          have HRR := Lib.hid hor
          have HFF := Lib.hid (HF0.out.below HB.out (by have := HF0.out.lt; omega))
          have HX := Lib.hid (And.intro hc hfz)
          clear hrr hor hc hfz
          go_wp2_with fail
          refine wp_region_held_drew (S := fun u => u.cell? ⟨g0, p, none⟩ = some (.slice (some ⟨g0 + 1 + p, 0, none⟩) m m)) (by kernel_rfl) (by exact hrow) (fun hHeld => ?_)
          clear hrow hcr
          refine wpAnyH_take (i := 0) (oi := ⟨some 57, _, _, _, _, _⟩) (v := ?_) rfl (by kernel_rfl) (by kernel_rfl) (by kernel_rfl) (fun _ _ _ h => h) (Or.inl ⟨by rfl, ?_⟩) (by assumption) ?_
          rotate_left
          · intro w hSw
            (try dsimp only at hSw)
            go_simp
            all_goals (with_reducible rfl)
          try simp only [Act.put, List.setIfInBounds_toArray, List.set_cons_zero, List.set_cons_succ]
          refine wpAnyH_take (i := 1) (oi := ⟨some 58, _, _, _, _, _⟩) (v := ?_) rfl (by kernel_rfl) (by kernel_rfl) (by kernel_rfl) (fun _ _ _ h => h) (Or.inl ⟨by rfl, ?_⟩) (by assumption) ?_
          rotate_left
          · intro w hSw
            (try dsimp only at hSw)
            go_simp
            all_goals (with_reducible rfl)
          try simp only [Act.put, List.setIfInBounds_toArray, List.set_cons_zero, List.set_cons_succ]
          refine wpAnyH_take (i := 2) (oi := ⟨some 59, _, _, _, _, _⟩) (v := ?_) rfl (by kernel_rfl) (by kernel_rfl) (by kernel_rfl) (fun _ _ _ h => h) (Or.inl ⟨by rfl, ?_⟩) (by assumption) ?_
          rotate_left
          · intro w hSw
            (try dsimp only at hSw)
            go_simp
            all_goals (with_reducible rfl)
          try simp only [Act.put, List.setIfInBounds_toArray, List.set_cons_zero, List.set_cons_succ]
          refine wpAnyH_take (i := 3) (oi := ⟨some 60, _, _, _, _, _⟩) (v := ?_) rfl (by kernel_rfl) (by kernel_rfl) (by kernel_rfl) (fun _ _ _ h => h) (Or.inl ⟨by rfl, ?_⟩) (by assumption) ?_
          rotate_left
          · intro w hSw
            (try dsimp only at hSw)
            go_simp
            all_goals (with_reducible rfl)
          try simp only [Act.put, List.setIfInBounds_toArray, List.set_cons_zero, List.set_cons_succ]
          refine wpAnyH_take (i := 4) (oi := ⟨some 61, _, _, _, _, _⟩) (v := ?_) rfl (by kernel_rfl) (by kernel_rfl) (by kernel_rfl) (fun _ _ _ h => h) (Or.inl ⟨by rfl, ?_⟩) (by assumption) ?_
          rotate_left
          · intro w hSw
            (try dsimp only at hSw)
            go_simp
            all_goals (with_reducible rfl)
          try simp only [Act.put, List.setIfInBounds_toArray, List.set_cons_zero, List.set_cons_succ]
          refine wpAnyH_take (i := 5) (oi := ⟨some 62, _, _, _, _, _⟩) (v := ?_) rfl (by kernel_rfl) (by kernel_rfl) (by kernel_rfl) (fun _ _ _ h => h) (Or.inl ⟨by rfl, ?_⟩) (by assumption) ?_
          rotate_left
          · intro w hSw
            (try dsimp only at hSw)
            go_simp
            all_goals (with_reducible rfl)
          try simp only [Act.put, List.setIfInBounds_toArray, List.set_cons_zero, List.set_cons_succ]
          refine wpAnyH_take (i := 6) (oi := ⟨some 63, _, _, _, _, _⟩) (v := ?_) rfl (by kernel_rfl) (by kernel_rfl) (by kernel_rfl) (fun _ _ _ h => h) (Or.inl ⟨by rfl, ?_⟩) (by assumption) ?_
          rotate_left
          · intro w hSw
            (try dsimp only at hSw)
            go_simp
            all_goals (with_reducible rfl)
          try simp only [Act.put, List.setIfInBounds_toArray, List.set_cons_zero, List.set_cons_succ]
          refine wpAnyH_take (i := 7) (oi := ⟨some 64, _, _, _, _, _⟩) (v := ?_) rfl (by kernel_rfl) (by kernel_rfl) (by kernel_rfl) (fun _ _ _ h => h) (Or.inl ⟨by rfl, ?_⟩) (by assumption) ?_
          rotate_left
          · intro w hSw
            (try dsimp only at hSw)
            go_simp
            all_goals (with_reducible rfl)
          try simp only [Act.put, List.setIfInBounds_toArray, List.set_cons_zero, List.set_cons_succ]
          have hH := hHeld
          refine wpAnyH_ready (rs := [8]) (by kernel_rfl) (by simp) (AllReadyH.cons (o := ⟨some 65, _, _, _, _, _⟩) rfl (fun K hK => ?_) AllReadyH.nil)
          go_simp
          refine (dot_any g _ k dr _ _ k cd _ _ (by exact HFF.out.drew) (by exact HRR.out.drew) (by exact HO.out.rd.drew) (by omega)).mono ?_
          rintro e w3 ⟨rfl, nq, hw3⟩
          refine hK.out _ _ (by rw [hw3]; exact hH) (fun hHeld => ?_)
          clear hK K
          try simp only [Act.put, List.setIfInBounds_toArray, List.set_cons_zero, List.set_cons_succ]
          have hc3 : w3.cell? ⟨g0 + 1 + p, q, none⟩ = some (.int .u8 X) := by rw [hw3]; exact HX.out.1
          have hf3 : w3.frozen? ⟨g0 + 1 + p, q, none⟩ = false := by rw [hw3]; exact HX.out.2
          have hr3 : w3.cell? ⟨g0, p, none⟩ = some (.slice (some ⟨g0 + 1 + p, 0, none⟩) m m) := by rw [hw3]; exact hH
          have HW3 := Lib.hid hw3
          clear hw3 hH
          obtain ⟨Y, hY⟩ : ∃ Y, dot (rowL k (F p)) (rowL k fun l => G l q) = Y := ⟨_, rfl⟩
          rw [hY]
          have HY := Lib.hid hY
          clear hY
          refine wpAnyH_take (i := 9) (oi := ⟨some 66, _, _, _, _, _⟩) (v := ?_) rfl (by kernel_rfl) (by kernel_rfl) (by kernel_rfl) (fun _ _ _ h => h) (Or.inl ⟨by rfl, ?_⟩) (by assumption) ?_
          rotate_left
          · intro w hSw
            (try dsimp only at hSw)
            go_simp
            all_goals (with_reducible rfl)
          try simp only [Act.put, List.setIfInBounds_toArray, List.set_cons_zero, List.set_cons_succ]
          refine wpAnyH_ready (rs := [10]) (by kernel_rfl) (by simp) (AllReadyH.cons (o := ⟨none, _, _, _, _, _⟩) rfl (fun K hK => ?_) AllReadyH.nil)
          go_simp
          refine hK.out _ _ (by exact (World.cell?_of_block (w := w3) (Below.heap_setCell _ _ _ _ (by show g0 ≠ g0 + 1 + p; omega))).trans hr3) (fun hHeld => ?_)
          clear hK K
          try simp only [Act.put, List.setIfInBounds_toArray, List.set_cons_zero, List.set_cons_succ]
          refine wpAnyH_done (by kernel_rfl) ?_ _
          go_wp2
          go_roundw
          case rel =>
            have hbv : Value.int .u8 (Y : Int) = BV (mulF k F G p q) := by unfold BV; rw [mulF_dot, HY.out]
            rw [hbv]
            have hG3 : Grid w3 g0 n m (fun a b => if b < q ∨ (b = q ∧ a < p) then mulF k F G a b else 0) := by rw [HW3.out]; exact ⟨HG.out.out, HG.out.rows⟩
            have hB3 : Below g0 w' w3 := by rw [HW3.out]; exact ⟨HB.out.os, HB.out.tape, HB.out.output, HB.out.size, HB.out.block⟩
            have hO3 : Own w3 b1 5 D k cd (rowL k fun l => G l q) := by rw [HW3.out]; exact ⟨HO.out.len, HO.out.row⟩
            refine ⟨p + 1, by omega, by go_num, ?_, hB3.setCell (by show g0 ≤ g0 + 1 + p; omega) _, ?_⟩
            · exact (hG3.set p q _).congr fun i j _ _ => by
                by_cases e : i = p ∧ j = q
                · rw [if_pos e, if_pos (by omega), e.1, e.2]
                · rw [if_neg e]
                  by_cases e2 : j < q ∨ (j = q ∧ i < p)
                  · rw [if_pos e2, if_pos (by omega)]
                  · rw [if_neg e2, if_neg (by omega)]
            · refine hO3.at_block fun gd hD => Below.heap_setCell _ _ _ _ ?_
              obtain ⟨_, _, hge⟩ := hO3.cells_at gd hD
              have := HGs.out p hpn
              show gd ≠ g0 + 1 + p
              omega
          case measure => simp [intOf]; omega
        · obtain rfl : p = n := by omega
          go_wp2
          go_roundw
          case rel =>
            refine ⟨q + 1, by omega, by go_num, ?_, HB.out⟩
            exact HG.out.congr fun i j hi _ => by
              by_cases e2 : j < q ∨ (j = q ∧ i < p)
              · rw [if_pos e2, if_pos (by omega)]
              · rw [if_neg e2, if_neg (by omega)]
          case measure => simp [intOf]; omega
    · obtain rfl : q = m := by omega
      go_wp2
      go_ret2
      have hgg : g0 = w.heap.size := HB0.out.2
      refine ⟨_, _, rfl, ?_, ?_⟩
      · rw [← hgg]
        exact (HG.out.congr (G := mulF k F G) fun i j _ hj => if_pos hj).mo (by simp [maxLen]; omega) (by simp [maxLen]; omega)
      · exact HB0.out.1.trans (HB.out.mono (by omega))
end Go.Proofs.Ytobbjeephmfdeaa
