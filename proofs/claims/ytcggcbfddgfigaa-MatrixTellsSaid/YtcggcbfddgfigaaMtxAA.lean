/- The reference's Mul of wrong shapes, Unit, Pick, Cauchy. -/
import Derived.Test.YtcggcbfddgfigaaMtxZ
namespace Go.Proofs.Ytcggcbfddgfigaa
open Go.RowKit Go.Coop

theorem below_drewN (w : World) (j : Nat) : Below w.heap.size w (w.drewN j) := ⟨rfl, rfl, rfl, Nat.le_refl _, fun _ _ => rfl⟩

theorem rmulm_shape (A : Option Addr) (n c : Nat) (M : List (List UInt8)) (B : Option Addr) (m d : Nat) (N : List (List UInt8)) (w : World) (h : MR w A n M) (h' : MR w B m N)
    (hr : rightB M = false ∨ rightB N = false ∨ (M.headD []).length ≠ N.length) :
    Calls Try.prog 21 #[.slice A n c, .slice B m d] w (NotM w 30) := by
  have HM := Lib.hid h
  have HN := Lib.hid h'
  clear h h'
  have K1 := rright_any A n c M w HM.out
  by_cases h1 : rightB M = false
  · rw [h1] at K1
    go_enter Try.func21, Try.ntmps21
    go_wp2_with fail
    refine K1.mono ?_
    rintro e w' ⟨rfl, j, rfl⟩
    clear K1
    go_wp2
    go_ret2
    exact ⟨rfl, below_drewN w j⟩
  have h1' : rightB M = true := by simpa using h1
  rw [h1'] at K1
  by_cases h2 : rightB N = false
  · go_enter Try.func21, Try.ntmps21
    go_wp2_with fail
    refine K1.mono ?_
    rintro e w' ⟨rfl, j, hw⟩
    have K2 := rright_any B m d N w' (by rw [hw]; exact HN.out.drewN j)
    rw [h2] at K2
    have HW := Lib.hid hw
    clear K1 hw
    go_wp2_with fail
    refine K2.mono ?_
    rintro e w2 ⟨rfl, j2, hw2⟩
    have HW2 := Lib.hid hw2
    clear K2 hw2
    go_wp2
    go_ret2
    exact ⟨rfl, by rw [HW2.out, HW.out, World.drewN_drewN]; exact below_drewN w _⟩
  have h2' : rightB N = true := by simpa using h2
  have hn1 : 1 ≤ n := by
    have := h1'
    unfold rightB at this
    simp only [Bool.and_eq_true, decide_eq_true_eq] at this
    have := this.1.1
    rw [HM.out.len] at this
    exact this.1
  have h3 : (M.headD []).length ≠ m := by
    rcases hr with e | e | e
    · exact absurd e h1
    · exact absurd e h2
    · rwa [HN.out.len] at e
  obtain ⟨ad, Ba, da, ra, rfl, _, hra, hca, _⟩ := HM.out.row (show 0 < n by omega)
  rw [headD_at hra] at h3
  obtain ⟨L, hL⟩ : ∃ L, ra.length = L := ⟨_, rfl⟩
  rw [hL] at hca h3
  have hq1 : ((L : Int) == (m : Int)) = false := beq_eq_false_iff_ne.2 (by omega)
  have HC := Lib.hid (show w.cell? ad = some (.slice Ba L da) from hca)
  have hn0 : (0 : Int) < n := by omega
  have hn0' : 0 < n := by omega
  clear hL hra hca
  go_enter Try.func21, Try.ntmps21
  go_wp2_with fail
  refine K1.mono ?_
  rintro e w' ⟨rfl, j, hw⟩
  have K2 := rright_any B m d N w' (by rw [hw]; exact HN.out.drewN j)
  rw [h2'] at K2
  have HW := Lib.hid hw
  clear K1 hw
  go_wp2_with fail
  refine K2.mono ?_
  rintro e w2 ⟨rfl, j2, hw2⟩
  have hc : w2.cell? ad = some (.slice Ba L da) := by rw [hw2, HW.out]; exact HC.out
  have HW2 := Lib.hid hw2
  clear K2 hw2
  go_wp2
  go_ret2
  exact ⟨rfl, by rw [HW2.out, HW.out, World.drewN_drewN]; exact below_drewN w _⟩

theorem runit_low (x : Int) (w : World) (h : x < 1) : Calls Try.prog 28 #[.int .i64 x] w (NotM w 2) := by
  go_enter Try.func28, Try.ntmps28
  go_wp2
  go_ret2
  exact ⟨rfl, Below.refl _ _⟩
set_option maxRecDepth 100000 in
theorem runit_yes (n : Nat) (w : World) (h1 : 1 ≤ n) (h2 : n ≤ 255) : Calls Try.prog 28 #[.int .i64 (n : Int)] w (GotM w n (tabM n n unitF)) := by
  have hm2 := make26 n (by omega)
  have hd : decide (255 < (n : Int)) = false := by simp; omega
  go_enter Try.func28, Try.ntmps28
  go_wp2
  go_loopw [4, 5] (fun v i wr => ∃ (q : Nat) (A : Option Addr) (c : Nat), q ≤ n ∧ i = .int .i64 q ∧ v = .slice A q c ∧ Hid (MO wr w.heap.size w.heap.size A q c (tabM q n unitF)) ∧ Hid (Below w.heap.size w wr)) (fun _ i _ => n - (intOf i).toNat)
  case atStart => exact ⟨0, none, 0, by omega, rfl, rfl, MO.nil _ _ _, Below.refl _ _⟩
  case round =>
    obtain ⟨q, A, c, hq, rfl, rfl, HM, HB⟩ := hrel
    by_cases hlt : q < n
    · have hcb := cell_of_row _ wr.heap.size q _ 5 (0, 0) (heap_alloc_new wr (.cells (rowC n (fun _ => 0)) 5))
      rw [rowC_at _ hlt] at hcb
      have hfb := frozen_of_row _ wr.heap.size q _ 5 (heap_alloc_new wr (.cells (rowC n (fun _ => 0)) 5))
      have hset : (rowC n (fun _ => 0)).setIfInBounds q (.int .u8 1) = rowC n (unitF q) := by
        have := rowC_set n q (fun _ => 0) 1
        refine this.trans ?_
        congr 1
        funext b
        unfold unitF
        by_cases e : b = q
        · rw [if_pos e, if_pos e.symm]
        · rw [if_neg e, if_neg (fun h => e h.symm)]
      generalize hR : rowC n (fun _ => (0 : UInt8)) = R at *
      have HR := Lib.hid hR
      have HST := Lib.hid hset
      have hbs := HB.out.size
      clear hR hset
      have HO : Hid (Own (wr.alloc (.cells (R.setIfInBounds q (.int .u8 1)) 5)) wr.heap.size 5 (some ⟨wr.heap.size, 0, none⟩) n n (rowL n (unitF q))) := by
        show Own _ _ _ _ _ _ _
        rw [HST.out]
        exact own_new wr (rowL n (unitF q)) n (rowL_len _ _) (by simp [maxLen]; omega)
      have HRD : Hid (RdV ((wr.alloc (.cells (R.setIfInBounds q (.int .u8 1)) 5)).alloc (.cells #[.slice (some ⟨wr.heap.size, 0, none⟩) n n] 26)) (some ⟨wr.heap.size + 1, 0, none⟩) 1 [.slice (some ⟨wr.heap.size, 0, none⟩) n n]) := by
        have := RdV.one (wr.alloc (.cells (R.setIfInBounds q (.int .u8 1)) 5)) (.slice (some ⟨wr.heap.size, 0, none⟩) n n) 26 (0, 0)
        rw [size_alloc] at this
        exact this
      go_wp2_with (at_builtin; refine wpList_appM _ rfl (.tmp 23) (.tmp 25) rfl rfl ((HM.out.alloc _).alloc _) rfl HRD.out (rowL_len n (unitF q)) ((HO.out.lower hbs).alloc _) (by omega) (by rw [size_alloc, size_alloc]; omega) (q + 1) rfl ?_; intro A2 c2 w3 hM2 hg2)
      have HM3 := Lib.hid hM2
      have HB3 : Hid (Below w.heap.size w w3) := ((HB.out.alloc hbs _).alloc (by rw [size_alloc]; omega) _).grown hg2 (by rw [size_alloc, size_alloc]; omega) (fun k hk => (mo_block HM.out k hk).1)
      clear hM2 hg2
      go_roundw
      case rel => exact ⟨q + 1, A2, c2, by omega, by go_num, rfl, by rw [tabM_snoc]; exact HM3.out, HB3.out⟩
      case measure => simp [intOf]; omega
    · obtain rfl : q = n := by omega
      go_wp2
      go_ret2
      exact ⟨A, c, rfl, HM.out, HB.out⟩

theorem rpick_shape (A : Option Addr) (n c : Nat) (M : List (List UInt8)) (R : Option Addr) (m d : Nat) (w : World) (h : MR w A n M) (hr : rightB M = false) :
    Calls Try.prog 23 #[.slice A n c, .slice R m d] w (NotM w 30) := by
  have K1 := rright_any A n c M w h
  rw [hr] at K1
  go_enter Try.func23, Try.ntmps23
  go_wp2_with fail
  refine K1.mono ?_
  rintro e w' ⟨rfl, j, rfl⟩
  clear K1
  go_wp2
  go_ret2
  exact ⟨rfl, below_drewN w j⟩
theorem rpick_len (A : Option Addr) (n c : Nat) (M : List (List UInt8)) (R : Option Addr) (m d : Nat) (w : World) (h : MR w A n M) (hr : rightB M = true) (hm : m < 1) :
    Calls Try.prog 23 #[.slice A n c, .slice R m d] w (NotM w 2) := by
  have K1 := rright_any A n c M w h
  rw [hr] at K1
  go_enter Try.func23, Try.ntmps23
  go_wp2_with fail
  refine K1.mono ?_
  rintro e w' ⟨rfl, j, rfl⟩
  clear K1
  go_wp2
  go_ret2
  exact ⟨rfl, below_drewN w j⟩

set_option maxHeartbeats 1000000 in
set_option maxRecDepth 100000 in
theorem rpick_any (A : Option Addr) (n c : Nat) (M : List (List UInt8)) (R : Option Addr) (m d : Nat) (ls : List Int) (w : World) (h : MR w A n M) (hr : rightB M = true) (hR : RdV w R m (ivs ls)) (hm1 : 1 ≤ m) (hm2 : m ≤ 255)
    (hls : ∀ x ∈ ls, -9223372036854775808 ≤ x ∧ x ≤ 9223372036854775807) :
    Calls Try.prog 23 #[.slice A n c, .slice R m d] w (Picked w M m ls) := by
  have hn : 1 ≤ n ∧ n ≤ 255 := by
    unfold rightB at hr
    simp only [Bool.and_eq_true, decide_eq_true_eq] at hr
    have := hr.1.1
    rw [h.len] at this
    exact this
  have hrows : Hid (∀ (i : Nat) (r : List UInt8), M[i]? = some r → r.length ≤ 255) := by
    unfold rightB at hr
    simp only [Bool.and_eq_true, decide_eq_true_eq, List.all_eq_true, beq_iff_eq] at hr
    intro i r hi
    have := hr.2 r (List.mem_of_getElem? hi)
    have := hr.1.2.2
    omega
  obtain ⟨hn1, hn2⟩ := hn
  have K1 := rright_any A n c M w h
  rw [hr] at K1
  have HM := Lib.hid h
  have HR := Lib.hid hR
  have HLS := Lib.hid hls
  have HMl := Lib.hid h.len
  have HLl : Hid (ls.length = m) := by have := hR.len; show ls.length = m; simpa [ivs] using this
  have hd255 : decide (255 < (m : Int)) = false := by simp; omega
  clear h hR hr hls
  go_enter Try.func23, Try.ntmps23
  go_wp2_with fail
  refine K1.mono ?_
  rintro e w1 ⟨rfl, j, hw⟩
  have HB0 : Hid (Below w.heap.size w w1 ∧ w1.heap.size = w.heap.size) := by rw [hw]; exact ⟨below_drewN w j, rfl⟩
  clear K1 hw
  go_wp2_with fail
  go_loopw [6, 7] (fun v i wr => ∃ (q : Nat) (A' : Option Addr) (c' : Nat), q ≤ m ∧ i = .int .i64 q ∧ v = .slice A' q c' ∧ Hid (MO wr w.heap.size w.heap.size A' q c' (pickL M (ls.take q))) ∧ Hid (Below w.heap.size w wr) ∧ Hid (∀ x ∈ ls.take q, 0 ≤ x ∧ x < M.length)) (fun _ i _ => m - (intOf i).toNat)
  case atStart => exact ⟨0, none, 0, by omega, rfl, rfl, MO.nil _ _ _, HB0.out.1, by intro x hx; simp at hx⟩
  case round =>
    obtain ⟨q, A', c', hq, rfl, rfl, HO, HB, HQ⟩ := hrel
    by_cases hlt : q < m
    · obtain ⟨ad, v, rfl, _, hv, hcv⟩ := (HR.out.below HB.out (Nat.le_refl _)).at_ hlt
      obtain ⟨x, hx, rfl⟩ := ivs_at hv
      clear hv
      have hqm : (q : Int) < m := by omega
      by_cases hin : 0 ≤ x ∧ x < n
      · obtain ⟨X, rfl⟩ := Int.eq_ofNat_of_zero_le hin.1
        have hXn : X < n := by omega
        obtain ⟨am, B, e, r, rfl, _, hrr, hcr, hor⟩ := (HM.out.below HB.out (Nat.le_refl _)).row hXn
        have hrl := hrows.out X r hrr
        obtain ⟨k, hk⟩ : ∃ k, r.length = k := ⟨_, rfl⟩
        rw [hk] at hcr hor hrl
        have HX := Lib.hid (And.intro hx (And.intro hrr hk))
        have HOR := Lib.hid hor
        have hin1 : (X : Int) < n := by omega
        have hd : decide ((X : Int) < 0) = false := by simp
        have hd2 : decide ((n : Int) ≤ (X : Int)) = false := by simp; omega
        have hbs := HB.out.size
        clear hx hrr hk hor hin
        go_wp2_with (at_builtin; first
          | (refine wpList_app _ rfl (.tmp 41) (.tmp 48) _ rfl wr.heap.size 5 Try.underlying26 info5 (A := none) (n := 0) (c := 0) rfl (Own.nil _ _ _) rfl HOR.out (by omega) (Nat.le_refl _) k (by omega) ?_; intro A1 c1 w2 ho hg _; have HO1 : Hid (Own w2 wr.heap.size 5 A1 k c1 r) := (by show Own w2 wr.heap.size 5 A1 k c1 r; exact ho); have HG1 : Hid (Below wr.heap.size wr w2) := ((Below.refl _ _).grown hg (Nat.le_refl _) (by simp)); clear ho hg)
          | (refine wpList_appM _ rfl (.tmp 40) (.tmp 50) rfl rfl ((HO.out.below HG1.out (Nat.le_refl _)).alloc _) rfl (RdV.one _ _ _ _) HX.out.2.2 ((HO1.out.lower hbs).alloc _) (by omega) (by rw [size_alloc]; have := HG1.out.size; omega) (q + 1) rfl ?_; intro A2 c2 w3 hM2 hg2; have HM2 := Lib.hid hM2; have HB2 : Hid (Below w.heap.size w w3) := (((HB.out.trans (HG1.out.mono hbs)).alloc (by have := HG1.out.size; omega) _).grown hg2 (by rw [size_alloc]; have := HG1.out.size; omega) (fun k hk => (mo_block HO.out k hk).1)); clear hM2 hg2))
        go_roundw
        case rel =>
          refine ⟨q + 1, A2, c2, by omega, by go_num, rfl, ?_, HB2.out, ?_⟩
          · rw [pickL_snoc HX.out.1 HX.out.2.1]; exact HM2.out
          · intro y hy
            rw [List.take_add_one, HX.out.1] at hy
            rcases List.mem_append.1 hy with hy | hy
            · exact HQ.out y hy
            · simp at hy
              subst hy
              rw [HMl.out]
              omega
        case measure => simp [intOf]; omega
      · have HE : Hid (¬ ∀ x ∈ ls, 0 ≤ x ∧ x < M.length) := fun hall => hin (by have := hall x (List.mem_of_getElem? hx); rw [HMl.out] at this; exact this)
        clear hx
        by_cases hx0 : x < 0
        · go_wp2
          go_ret2
          exact .inr ⟨HE.out, rfl, HB.out⟩
        · have hd : decide (x < 0) = false := by simp; omega
          have hd2 : decide ((n : Int) ≤ x) = true := by simp; omega
          go_wp2
          go_ret2
          exact .inr ⟨HE.out, rfl, HB.out⟩
    · obtain rfl : q = m := by omega
      go_wp2
      go_ret2
      have e : ls.take q = ls := List.take_of_length_le (by rw [HLl.out]; omega)
      have h1 := HO.out
      have h2 := HQ.out
      rw [e] at h1 h2
      exact .inl ⟨h2, A', c', rfl, h1, HB.out⟩

theorem rcauchy_arg (x y : Int) (w : World) (h : x < 1 ∨ y < 1) : Calls Try.prog 29 #[.int .i64 x, .int .i64 y] w (NotM w 2) := by
  by_cases h1 : x < 1
  · go_enter Try.func29, Try.ntmps29
    go_wp2
    go_ret2
    exact ⟨rfl, Below.refl _ _⟩
  · have h2 : y < 1 := by omega
    go_enter Try.func29, Try.ntmps29
    go_wp2
    go_ret2
    exact ⟨rfl, Below.refl _ _⟩

set_option maxHeartbeats 1000000 in
set_option maxRecDepth 100000 in
theorem rcauchy_yes (n k : Nat) (w : World) (h1 : 1 ≤ n) (h2 : 1 ≤ k) (h3 : n ≤ 30) (h4 : k ≤ 30) : Calls Try.prog 29 #[.int .i64 (n : Int), .int .i64 (k : Int)] w (GotM w n (tabM n k (cauF k))) := by
  have hd1 : decide (256 < (n : Int)) = false := by simp; omega
  have hd2 : decide (256 < (k : Int)) = false := by simp; omega
  have hd3 : decide (256 < (n : Int) + (k : Int)) = false := by simp; omega
  go_enter Try.func29, Try.ntmps29
  go_wp2
  go_loopw [6, 7] (fun v i wr => ∃ (q : Nat) (A : Option Addr) (c : Nat), q ≤ n ∧ i = .int .i64 q ∧ v = .slice A q c ∧ Hid (MO wr w.heap.size w.heap.size A q c (tabM q k (cauF k))) ∧ Hid (Below w.heap.size w wr)) (fun _ i _ => n - (intOf i).toNat)
  case atStart => exact ⟨0, none, 0, by omega, rfl, rfl, MO.nil _ _ _, Below.refl _ _⟩
  case round =>
    obtain ⟨q, A, c, hq, rfl, rfl, HM, HB⟩ := hrel
    by_cases hlt : q < n
    · obtain ⟨wo, rfl⟩ : ∃ wo : World, wo = wr := ⟨_, rfl⟩
      go_wp2_with fail
      obtain ⟨b0, hb0⟩ : ∃ b0, wo.heap.size = b0 := ⟨_, rfl⟩
      go_loopw [8, 9] (fun v i wr => RRow b0 k q (cauF k) wo v i wr) (fun _ i _ => k - (intOf i).toNat)
      case atStart => exact ⟨0, none, 0, by omega, rfl, rfl, Own.nil _ _ _, Below.refl _ _⟩
      case round =>
        obtain ⟨j, A', c', hj, rfl, rfl, HO, HI⟩ := hrel
        by_cases hjk : j < k
        · have hxl : (k + q) ^^^ j < 256 := xor_lt _ _ (by omega) (by omega)
          have hw1 : ((k : Int) + (q : Int)) % 256 = ((k + q : Nat) : Int) := by omega
          have hw2 : (j : Int) % 256 = (j : Int) := by omega
          have hxor := u8_xor_nat (k + q) j (by omega) (by omega)
          have hxne := cau_ne (k := k) (i := q) hjk
          obtain ⟨X, hX⟩ : ∃ X, (k + q) ^^^ j = X := ⟨_, rfl⟩
          rw [hX] at hxl hxor hxne
          rw [Int.natCast_add] at hxor hw1
          have HX := Lib.hid hX
          have hbs := HI.out.size
          have hvl := iv_lt X
          clear hX
          go_wp2_with (first
            | (go_at_call 48; refine (rinv_any X wr hxl hxne).mono ?_; rintro e w3 ⟨rfl, rfl⟩)
            | (at_builtin; refine wpList_app _ rfl (.tmp 40) (.tmp 49) _ rfl b0 5 Try.underlying26 info5 rfl (HO.out.alloc _) rfl (Rd.one wr (iv X : Int) (by omega) (by omega) 5 (0, 0)) (by omega) (by rw [size_alloc]; omega) (j + 1) rfl ?_; intro A2 c2 w3 ho hg _; have HO3 := Lib.hid ho; have HI3 : Hid (Below b0 wo w3) := ((HI.out.alloc (by omega) _).grown hg (by rw [size_alloc]; omega) (fun k hk => (HO.out.block k hk).1)); clear ho hg))
          go_roundw
          case rel =>
            refine ⟨j + 1, A2, c2, by omega, by go_num, rfl, ?_, HI3.out⟩
            have e : UInt8.ofNat (iv X : Int).toNat = cauF k q j := by
              unfold cauF
              rw [HX.out, Int.toNat_natCast]
            rw [rowL_snoc, ← e]
            exact HO3.out
          case measure => simp [intOf]; omega
        · obtain rfl : j = k := by omega
          have hbs := HB.out.size
          have HM2 := Lib.hid (HM.out.below HI.out (by omega))
          have HBI : Hid (Below w.heap.size w wr) := HB.out.trans (HI.out.mono (by omega))
          have HO2 : Hid (Own wr w.heap.size 5 A' j c' (rowL j (cauF j q))) := HO.out.lower (by omega)
          go_wp2_with (at_builtin; refine wpList_appM _ rfl (.tmp 51) (.tmp 53) rfl rfl (HM2.out.alloc _) rfl (RdV.one _ _ _ _) (rowL_len _ _) (HO2.out.alloc _) (by omega) (by rw [size_alloc]; have := HBI.out.size; omega) (q + 1) rfl ?_; intro A2 c2 w3 hM2 hg2)
          have HM3 := Lib.hid hM2
          have HB3 : Hid (Below w.heap.size w w3) := (HBI.out.alloc HBI.out.size _).grown hg2 (by rw [size_alloc]; have := HBI.out.size; omega) (fun k hk => (mo_block HM2.out k hk).1)
          clear hM2 hg2
          go_roundw
          case rel => exact ⟨q + 1, A2, c2, by omega, by go_num, rfl, by rw [tabM_snoc]; exact HM3.out, HB3.out⟩
          case measure => simp [intOf]; omega
    · obtain rfl : q = n := by omega
      go_wp2
      go_ret2
      exact ⟨A, c, rfl, HM.out, HB.out⟩
end Go.Proofs.Ytcggcbfddgfigaa
