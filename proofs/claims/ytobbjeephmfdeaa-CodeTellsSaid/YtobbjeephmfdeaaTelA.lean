/- CodeTells: the law's walk. -/
import Derived.Test.YtobbjeephmfdeaaRefK
namespace Go.Proofs.Ytobbjeephmfdeaa
open Go.RowKit Go.Coop
set_option maxRecDepth 100000
/-- a box -/
def BX (w : World) (b : Nat) (T : TypeId) (xs : Array Value) : Prop := w.heap[b]? = some (.cells xs T (0, 0))
theorem BX.below {w w' : World} {b B : Nat} {T : TypeId} {xs : Array Value} (h : BX w b T xs) (hb : Below B w w') (hB : w.heap.size ≤ B) : BX w' b T xs := by
  unfold BX at h ⊢
  have hlt : b < w.heap.size := (Array.getElem?_eq_some_iff.1 h).1
  rw [hb.block b (by omega)]
  exact h
def caseV (K N I Z L : Int) (D : Option Addr) (dl dc : Nat) (E : Option Addr) (el ec : Nat) (F : Option Addr) (fl fc : Nat) (B : Option Addr) (bl bc : Nat) : Array Value := #[.int .i64 K, .int .i64 N, .int .i64 I, .int .i64 Z, .int .i64 L, .slice D dl dc, .slice E el ec, .slice F fl fc, .slice B bl bc]
/-- what two copies answer -/
def CopR (D E : Nat × List (List UInt8)) (w4 w5 : World) (v8 v9 : Value) : Prop := ∃ A8 c8 A9 c9, v8 = .slice A8 D.1 c8 ∧ v9 = .slice A9 E.1 c9 ∧ MR w5 A8 D.1 D.2 ∧ D.1 ≤ c8 ∧ MR w5 A9 E.1 E.2 ∧ E.1 ≤ c9 ∧ Below w4.heap.size w4 w5
set_option maxHeartbeats 4000000 in
theorem tells_law (K N I Z L : Int) (D : Option Addr) (dl dc : Nat) (E : Option Addr) (el ec : Nat) (F : Option Addr) (fl fc : Nat) (B : Option Addr) (bl bc : Nat) (MD ME : List (List UInt8)) (MF : List Int) (MB : List UInt8) (w : World)
    (bK : -9223372036854775808 ≤ K ∧ K ≤ 9223372036854775807) (bN : -9223372036854775808 ≤ N ∧ N ≤ 9223372036854775807)
    (hD : MR w D dl MD ∧ (∀ r ∈ MD, r.length ≤ maxLen) ∧ dl ≤ dc ∧ dc ≤ maxLen) (hE : MR w E el ME ∧ (∀ r ∈ ME, r.length ≤ maxLen) ∧ el ≤ ec ∧ ec ≤ maxLen) (hF : RdV w F fl (MF.map (Value.int .i64)) ∧ fl ≤ fc ∧ fc ≤ maxLen) (hB : Rd w B bl MB ∧ bl ≤ bc ∧ bc ≤ maxLen) :
    Calls Try.prog 4 #[.agg #[.int .i64 K, .int .i64 N, .int .i64 I, .int .i64 Z, .int .i64 L, .slice D dl dc, .slice E el ec, .slice F fl fc, .slice B bl bc]] w fun e w' => e = .returned (.bool true) ∧ Below w.heap.size w w' := by
  obtain ⟨hD, hD1, hD2, hD3⟩ := hD
  obtain ⟨hE, hE1, hE2, hE3⟩ := hE
  obtain ⟨hF, hF2, hF3⟩ := hF
  obtain ⟨hB, hB2, hB3⟩ := hB
  have HD0 := Lib.hid hD
  have HE0 := Lib.hid hE
  have HF0 := Lib.hid hF
  have HL0 := Lib.hid hB
  have HD1 : Hid (∀ r ∈ MD, r.length ≤ 9223372036854775807) := fun r hr => by have := hD1 r hr; unfold maxLen at this; omega
  have HE1 : Hid (∀ r ∈ ME, r.length ≤ 9223372036854775807) := fun r hr => by have := hE1 r hr; unfold maxLen at this; omega
  unfold maxLen at hD3 hE3 hF3 hB3
  clear hD hE hF hB hD1 hE1
  by_cases hN : N > 20
  · go_enter Try.func4, Try.ntmps4
    go_wp2_with fail
    refine (awake_any (w.alloc _)).mono ?_
    rintro e w' ⟨rfl, hB⟩
    have HBB := Lib.hid (bhop (balloc (Below.refl w.heap.size w) _) hB)
    clear hB
    go_wp2
    go_ret
    exact ⟨rfl, HBB.out⟩
  go_enter Try.func4, Try.ntmps4
  go_wp2_with fail
  refine (small_any D dl dc MD _ (HD0.out.below (balloc (Below.refl _ _) _) (Nat.le_refl _)) (by omega) HD1.out).mono ?_
  rintro e w' ⟨rfl, rfl⟩
  cases hs1 : smallB MD
  · go_wp2_with fail
    refine (awake_any (w.alloc _)).mono ?_
    rintro e w' ⟨rfl, hB⟩
    have HBB := Lib.hid (bhop (balloc (Below.refl w.heap.size w) _) hB)
    clear hB
    go_wp2
    go_ret
    exact ⟨rfl, HBB.out⟩
  go_wp2_with fail
  refine (small_any E el ec ME _ (HE0.out.below (balloc (Below.refl _ _) _) (Nat.le_refl _)) (by omega) HE1.out).mono ?_
  rintro e w' ⟨rfl, rfl⟩
  cases hs2 : smallB ME
  · go_wp2_with fail
    refine (awake_any (w.alloc _)).mono ?_
    rintro e w' ⟨rfl, hB⟩
    have HBB := Lib.hid (bhop (balloc (Below.refl w.heap.size w) _) hB)
    clear hB
    go_wp2
    go_ret
    exact ⟨rfl, HBB.out⟩
  by_cases hf : (30 : Int) < fl
  · go_wp2_with fail
    refine (awake_any (w.alloc _)).mono ?_
    rintro e w' ⟨rfl, hB⟩
    have HBB := Lib.hid (bhop (balloc (Below.refl w.heap.size w) _) hB)
    clear hB
    go_wp2
    go_ret
    exact ⟨rfl, HBB.out⟩
  by_cases hb : (200 : Int) < bl
  · go_wp2_with fail
    refine (awake_any (w.alloc _)).mono ?_
    rintro e w' ⟨rfl, hB⟩
    have HBB := Lib.hid (bhop (balloc (Below.refl w.heap.size w) _) hB)
    clear hB
    go_wp2
    go_ret
    exact ⟨rfl, HBB.out⟩
  go_wp2_with fail
  have hbx0 : BX (w.alloc (.cells #[.int .i64 K, .int .i64 N, .int .i64 I, .int .i64 Z, .int .i64 L, .slice D dl dc, .slice E el ec, .slice F fl fc, .slice B bl bc] 46)) w.heap.size 46 #[.int .i64 K, .int .i64 N, .int .i64 I, .int .i64 Z, .int .i64 L, .slice D dl dc, .slice E el ec, .slice F fl fc, .slice B bl bc] := heap_alloc_new w _
  have hw1 : Below w.heap.size w (w.alloc (.cells #[.int .i64 K, .int .i64 N, .int .i64 I, .int .i64 Z, .int .i64 L, .slice D dl dc, .slice E el ec, .slice F fl fc, .slice B bl bc] 46)) := balloc (Below.refl _ _) _
  refine (new_any (w.alloc _)).mono ?_
  rintro e w1 ⟨f, rfl, hf, hfs, hB⟩
  have HX1 := Lib.hid (hbx0.below hB (Nat.le_refl _))
  have hW := bhop hw1 hB
  have HD1 := Lib.hid (HD0.out.below hW (Nat.le_refl _))
  have HE1 := Lib.hid (HE0.out.below hW (Nat.le_refl _))
  have HF1 := Lib.hid (HF0.out.below hW (Nat.le_refl _))
  have HL1 := Lib.hid (HL0.out.below hW (Nat.le_refl _))
  have HB1 : Hid (Below w.heap.size w w1) := hW
  have HG1 := Lib.hid hf
  clear hbx0 hw1 hB hW HD0 HE0 HF0 HL0 hf hfs
  have b0 := cell_of_row w1 w.heap.size 0 _ 46 (0, 0) HX1.out
  have b1 := cell_of_row w1 w.heap.size 1 _ 46 (0, 0) HX1.out
  simp at b0 b1
  by_cases hkn : K < 1 ∨ N < K ∨ 255 < N
  · go_wp2_with fail
    refine (cnew_arg f K N w1 HG1.out hkn).mono ?_
    rintro e w2 ⟨rfl, hB⟩
    have HX2 := Lib.hid (HX1.out.below hB (Nat.le_refl _))
    have HW2 := Lib.hid (bhop HB1.out hB)
    clear HX1 hB b0 b1
    have b0 := cell_of_row w2 w.heap.size 0 _ 46 (0, 0) HX2.out
    have b1 := cell_of_row w2 w.heap.size 1 _ 46 (0, 0) HX2.out
    simp at b0 b1
    go_wp2_with fail
    refine (rnew_arg K N w2 hkn).mono ?_
    rintro e w3 ⟨rfl, hB⟩
    have HW3 := Lib.hid (bhop HW2.out hB)
    clear HX2 HW2 hB b0 b1
    go_wp2_with fail
    refine (awake_any _).mono ?_
    rintro e w4 ⟨rfl, hB⟩
    have HW4 := Lib.hid (bhop (balloc HW3.out _) hB)
    clear hB HW3
    go_wp2
    go_ret
    exact ⟨rfl, HW4.out⟩
  obtain ⟨k, rfl⟩ := Int.eq_ofNat_of_zero_le (show 0 ≤ K by omega)
  obtain ⟨n, rfl⟩ := Int.eq_ofNat_of_zero_le (show 0 ≤ N by omega)
  have hk1 : 1 ≤ k := by omega
  have hkn' : k ≤ n := by omega
  have hn20 : n ≤ 20 := by omega
  have smD := smallB_at hs1
  have smE := smallB_at hs2
  have hdl : dl ≤ 30 := by have := HD1.out.len; omega
  have hel : el ≤ 30 := by have := HE1.out.len; omega
  have HSD : Hid (∀ r ∈ MD, r.length ≤ 1000) := fun r hr => by have := smD.2 r hr; omega
  have HSE : Hid (∀ r ∈ ME, r.length ≤ 1000) := fun r hr => by have := smE.2 r hr; omega
  clear smD smE hs1 hs2 hkn hN
  go_wp2_with fail
  refine (cnew_yes f n k w1 HG1.out hk1 hkn' (by omega)).mono ?_
  rintro e w2 ⟨g, gf, A, c, rfl, hC, hB⟩
  have hW : Below w1.heap.size w1 w2 := hB
  have HX2 := Lib.hid (HX1.out.below hW (Nat.le_refl _))
  have HD2 := Lib.hid (HD1.out.below hW (Nat.le_refl _))
  have HE2 := Lib.hid (HE1.out.below hW (Nat.le_refl _))
  have HF2 := Lib.hid (HF1.out.below hW (Nat.le_refl _))
  have HL2 := Lib.hid (HL1.out.below hW (Nat.le_refl _))
  have HB2 : Hid (Below w.heap.size w w2) := HB1.out.trans (hW.mono HB1.out.size)
  have HC2 := Lib.hid (hC)
  clear hW HX1 HD1 HE1 HF1 HL1 HB1
  clear b0 b1 hB hC HG1
  have b0 : w2.cell? ⟨w.heap.size, 0, none⟩ = some (.int .i64 (k : Int)) := cell_of_row w2 w.heap.size 0 _ 46 (0, 0) HX2.out
  have b1 : w2.cell? ⟨w.heap.size, 1, none⟩ = some (.int .i64 (n : Int)) := cell_of_row w2 w.heap.size 1 _ 46 (0, 0) HX2.out
  go_wp2_with fail
  refine (rnew_yes n k w2 hk1 hkn' (by omega)).mono ?_
  rintro e w3 ⟨Ar, cr, rfl, hM, hcr, hB⟩
  have hW : Below w2.heap.size w2 w3 := hB
  have HX3 := Lib.hid (HX2.out.below hW (Nat.le_refl _))
  have HD3 := Lib.hid (HD2.out.below hW (Nat.le_refl _))
  have HE3 := Lib.hid (HE2.out.below hW (Nat.le_refl _))
  have HF3 := Lib.hid (HF2.out.below hW (Nat.le_refl _))
  have HL3 := Lib.hid (HL2.out.below hW (Nat.le_refl _))
  have HC3 := Lib.hid (HC2.out.below hW (Nat.le_refl _))
  have HB3 : Hid (Below w.heap.size w w3) := HB2.out.trans (hW.mono HB2.out.size)
  have HR3 := Lib.hid (hM)
  clear hW HX2 HD2 HE2 HF2 HL2 HC2 HB2
  clear b0 b1 hB hM
  go_wp2_with fail
  obtain ⟨y, hy⟩ : ∃ y, w3.heap.size = y := ⟨_, rfl⟩
  obtain ⟨w4, hw4⟩ : ∃ w4, w3.alloc (.cells #[.int .i64 (k : Int), .int .i64 (n : Int), .slice Ar n cr] 49) = w4 := ⟨_, rfl⟩
  try rw [hw4]
  try rw [hy]
  have hyb : BX w4 y 49 #[.int .i64 (k : Int), .int .i64 (n : Int), .slice Ar n cr] := by rw [← hw4, ← hy]; exact heap_alloc_new w3 _
  have hW : Below w3.heap.size w3 w4 := by rw [← hw4]; exact balloc (Below.refl _ _) _
  have HX4 := Lib.hid (HX3.out.below hW (Nat.le_refl _))
  have HD4 := Lib.hid (HD3.out.below hW (Nat.le_refl _))
  have HE4 := Lib.hid (HE3.out.below hW (Nat.le_refl _))
  have HF4 := Lib.hid (HF3.out.below hW (Nat.le_refl _))
  have HL4 := Lib.hid (HL3.out.below hW (Nat.le_refl _))
  have HC4 := Lib.hid (HC3.out.below hW (Nat.le_refl _))
  have HR4 := Lib.hid (HR3.out.below hW (Nat.le_refl _))
  have HB4 : Hid (Below w.heap.size w w4) := HB3.out.trans (hW.mono HB3.out.size)
  have HY4 := Lib.hid (hyb)
  clear hW HX3 HD3 HE3 HF3 HL3 HC3 HR3 HB3
  clear hyb hw4 hy
  have b5 : w4.cell? ⟨w.heap.size, 5, none⟩ = some (.slice D dl dc) := cell_of_row w4 w.heap.size 5 _ 46 (0, 0) HX4.out
  have b6 : w4.cell? ⟨w.heap.size, 6, none⟩ = some (.slice E el ec) := cell_of_row w4 w.heap.size 6 _ 46 (0, 0) HX4.out
  go_cut [8, 9] from 93 to 98 (fun v8 v9 wc => Hid (CopR (dl, MD) (el, ME) w4 wc v8 v9))
  case first =>
    have hud : Below w4.heap.size w4 w4.drew := (Below.refl w4.heap.size w4).drew
    have HUX := Lib.hid (HX4.out.below hud (Nat.le_refl _))
    have HUD := Lib.hid (HD4.out.below hud (Nat.le_refl _))
    have HUE := Lib.hid (HE4.out.below hud (Nat.le_refl _))
    have HUB := Lib.hid hud
    clear hud
    clear HX4 HD4 HE4 HF4 HL4 HC4 HR4 HY4 HB4
    refine wp_region_held_drew (S := fun u : World => u.cell? ⟨w.heap.size, 5, none⟩ = some (.slice D dl dc) ∧ u.cell? ⟨w.heap.size, 6, none⟩ = some (.slice E el ec)) (by kernel_rfl) (⟨cell_of_row w4.drew w.heap.size 5 _ 46 (0, 0) HUX.out, cell_of_row w4.drew w.heap.size 6 _ 46 (0, 0) HUX.out⟩) (fun hHeld => ?_)
    refine wpAnyH_take (i := 0) (oi := ⟨some 93, _, _, _, _, _⟩) (v := ?_) rfl (by kernel_rfl) (by kernel_rfl) (by kernel_rfl) (fun _ _ _ h => h) (Or.inl ⟨by rfl, ?_⟩) (by assumption) ?_
    rotate_left
    · intro w hSw
      (try dsimp only at hSw)
      go_simp
      all_goals (with_reducible rfl)
    try simp only [Act.put, List.setIfInBounds_toArray, List.set_cons_zero, List.set_cons_succ]
    refine wpAnyH_take (i := 1) (oi := ⟨some 94, _, _, _, _, _⟩) (v := ?_) rfl (by kernel_rfl) (by kernel_rfl) (by kernel_rfl) (fun _ _ _ h => h) (Or.inl ⟨by rfl, ?_⟩) (by assumption) ?_
    rotate_left
    · intro w hSw
      (try dsimp only at hSw)
      go_simp
      all_goals (with_reducible rfl)
    try simp only [Act.put, List.setIfInBounds_toArray, List.set_cons_zero, List.set_cons_succ]
    refine wpAnyH_take (i := 3) (oi := ⟨some 96, _, _, _, _, _⟩) (v := ?_) rfl (by kernel_rfl) (by kernel_rfl) (by kernel_rfl) (fun _ _ _ h => h) (Or.inl ⟨by rfl, ?_⟩) (by assumption) ?_
    rotate_left
    · intro w hSw
      (try dsimp only at hSw)
      go_simp
      all_goals (with_reducible rfl)
    try simp only [Act.put, List.setIfInBounds_toArray, List.set_cons_zero, List.set_cons_succ]
    refine wpAnyH_take (i := 4) (oi := ⟨some 97, _, _, _, _, _⟩) (v := ?_) rfl (by kernel_rfl) (by kernel_rfl) (by kernel_rfl) (fun _ _ _ h => h) (Or.inl ⟨by rfl, ?_⟩) (by assumption) ?_
    rotate_left
    · intro w hSw
      (try dsimp only at hSw)
      go_simp
      all_goals (with_reducible rfl)
    try simp only [Act.put, List.setIfInBounds_toArray, List.set_cons_zero, List.set_cons_succ]
    refine wpAnyH_ready (rs := [2]) (by kernel_rfl) (by simp) (AllReadyH.cons (o := ⟨some 95, _, _, _, _, _⟩) rfl (fun K hK => ?_) AllReadyH.nil)
    go_simp
    refine (copyl_mr D dl dc MD _ HUD.out (by omega) (fun r hr => by have := HSD.out r hr; omega)).mono ?_
    rintro e u1 ⟨A1, c1, rfl, hM, hc, hB⟩
    have H1 := Lib.hid (And.intro hM (And.intro hc (And.intro (HUE.out.below hB (Nat.le_refl _)) (And.intro (HUX.out.below hB (Nat.le_refl _)) (bhop HUB.out hB)))))
    clear hM hc hB
    refine hK.out _ _ (⟨cell_of_row u1 w.heap.size 5 _ 46 (0, 0) H1.out.2.2.2.1, cell_of_row u1 w.heap.size 6 _ 46 (0, 0) H1.out.2.2.2.1⟩) (fun hHeld => ?_)
    clear hK K
    try simp only [Act.put, List.setIfInBounds_toArray, List.set_cons_zero, List.set_cons_succ]
    refine wpAnyH_ready (rs := [5]) (by kernel_rfl) (by simp) (AllReadyH.cons (o := ⟨some 98, _, _, _, _, _⟩) rfl (fun K hK => ?_) AllReadyH.nil)
    go_simp
    refine (copyl_mr E el ec ME _ H1.out.2.2.1 (by omega) (fun r hr => by have := HSE.out r hr; omega)).mono ?_
    rintro e u2 ⟨A2, c2, rfl, hM, hc, hB⟩
    have H2 := Lib.hid (And.intro hM (And.intro hc (And.intro (H1.out.1.below hB (Nat.le_refl _)) (And.intro (H1.out.2.2.2.1.below hB (Nat.le_refl _)) (bhop H1.out.2.2.2.2 hB)))))
    clear hM hc hB
    refine hK.out _ _ (⟨cell_of_row u2 w.heap.size 5 _ 46 (0, 0) H2.out.2.2.2.1, cell_of_row u2 w.heap.size 6 _ 46 (0, 0) H2.out.2.2.2.1⟩) (fun hHeld => ?_)
    clear hK K
    try simp only [Act.put, List.setIfInBounds_toArray, List.set_cons_zero, List.set_cons_succ]
    refine wpAnyH_take (i := 6) (oi := ⟨some 8, _, _, _, _, _⟩) (v := ?_) rfl (by kernel_rfl) (by kernel_rfl) (by kernel_rfl) (fun _ _ _ h => h) (Or.inl ⟨by rfl, ?_⟩) (by assumption) ?_
    rotate_left
    · intro w hSw
      (try dsimp only at hSw)
      go_simp
      all_goals (with_reducible rfl)
    try simp only [Act.put, List.setIfInBounds_toArray, List.set_cons_zero, List.set_cons_succ]
    refine wpAnyH_take (i := 7) (oi := ⟨some 9, _, _, _, _, _⟩) (v := ?_) rfl (by kernel_rfl) (by kernel_rfl) (by kernel_rfl) (fun _ _ _ h => h) (Or.inl ⟨by rfl, ?_⟩) (by assumption) ?_
    rotate_left
    · intro w hSw
      (try dsimp only at hSw)
      go_simp
      all_goals (with_reducible rfl)
    try simp only [Act.put, List.setIfInBounds_toArray, List.set_cons_zero, List.set_cons_succ]
    refine wpAnyH_done (by kernel_rfl) ?_ _
    clear b5 b6
    go_wp2
    go_meet
    case rel => exact ⟨A1, c1, A2, c2, rfl, rfl, H2.out.2.2.1, H1.out.2.1, H2.out.1, H2.out.2.1, H2.out.2.2.2.2⟩
  case rest =>
    obtain ⟨A8, c8, A9, c9, rfl, rfl, h8, hc8, h9, hc9, hBc⟩ := hcut.out
    clear hcut b5 b6
    dsimp only at h8 hc8 h9 hc9
    generalize wc = w5 at *
    have hW : Below w4.heap.size w4 w5 := hBc
    have HX5 := Lib.hid (HX4.out.below hW (Nat.le_refl _))
    have HD5 := Lib.hid (HD4.out.below hW (Nat.le_refl _))
    have HE5 := Lib.hid (HE4.out.below hW (Nat.le_refl _))
    have HF5 := Lib.hid (HF4.out.below hW (Nat.le_refl _))
    have HL5 := Lib.hid (HL4.out.below hW (Nat.le_refl _))
    have HC5 := Lib.hid (HC4.out.below hW (Nat.le_refl _))
    have HR5 := Lib.hid (HR4.out.below hW (Nat.le_refl _))
    have HY5 := Lib.hid (HY4.out.below hW (Nat.le_refl _))
    have HB5 : Hid (Below w.heap.size w w5) := HB4.out.trans (hW.mono HB4.out.size)
    have HP5 := Lib.hid (h8)
    have HQ5 := Lib.hid (h9)
    clear hW HX4 HD4 HE4 HF4 HL4 HC4 HR4 HY4 HB4
    clear h8 h9 hBc
    obtain ⟨q1, M1, r1, hq1, e1, e2⟩ := enc_both hk1 hkn' (show n ≤ 30 by omega) dl MD (by omega) HSD.out
    have HE1' := Lib.hid (And.intro e1 e2)
    clear e1 e2
    obtain ⟨q2, M2, r2, s2, m2, r3, hq2, e1, e2, e3, e4⟩ := dec_both hk1 hkn' (show n ≤ 30 by omega) fl MF el ME (by omega) (by omega) (by have := HF5.out.len; simpa using this) HE5.out.len HSE.out I
    have HD1' := Lib.hid (And.intro e1 (And.intro e2 (And.intro e3 e4)))
    clear e1 e2 e3 e4
    go_wp2_with fail
    refine (HE1'.out.1 w5 g gf A c A8 c8 HC5.out HP5.out).mono ?_
    rintro e w6 ⟨A10, c10, rfl, hM, hB⟩
    have hW : Below w5.heap.size w5 w6 := hB
    have HX6 := Lib.hid (HX5.out.below hW (Nat.le_refl _))
    have HD6 := Lib.hid (HD5.out.below hW (Nat.le_refl _))
    have HE6 := Lib.hid (HE5.out.below hW (Nat.le_refl _))
    have HF6 := Lib.hid (HF5.out.below hW (Nat.le_refl _))
    have HL6 := Lib.hid (HL5.out.below hW (Nat.le_refl _))
    have HC6 := Lib.hid (HC5.out.below hW (Nat.le_refl _))
    have HR6 := Lib.hid (HR5.out.below hW (Nat.le_refl _))
    have HY6 := Lib.hid (HY5.out.below hW (Nat.le_refl _))
    have HP6 := Lib.hid (HP5.out.below hW (Nat.le_refl _))
    have HQ6 := Lib.hid (HQ5.out.below hW (Nat.le_refl _))
    have HB6 : Hid (Below w.heap.size w w6) := HB5.out.trans (hW.mono HB5.out.size)
    have Ha6 := Lib.hid (hM)
    clear hW HX5 HD5 HE5 HF5 HL5 HC5 HR5 HY5 HP5 HQ5 HB5
    clear hM hB
    have b5 : w6.cell? ⟨w.heap.size, 5, none⟩ = some (.slice D dl dc) := cell_of_row w6 w.heap.size 5 _ 46 (0, 0) HX6.out
    have y0 : w6.cell? ⟨y, 0, none⟩ = some (.int .i64 (k : Int)) := cell_of_row w6 y 0 _ 49 (0, 0) HY6.out
    have y1 : w6.cell? ⟨y, 1, none⟩ = some (.int .i64 (n : Int)) := cell_of_row w6 y 1 _ 49 (0, 0) HY6.out
    have y2 : w6.cell? ⟨y, 2, none⟩ = some (.slice Ar n cr) := cell_of_row w6 y 2 _ 49 (0, 0) HY6.out
    go_wp2_with fail
    refine (HE1'.out.2 w6 Ar cr D dc HR6.out HD6.out).mono ?_
    rintro e w7 ⟨A12, c12, rfl, hM, hB⟩
    have hW : Below w6.heap.size w6 w7 := hB
    have HX7 := Lib.hid (HX6.out.below hW (Nat.le_refl _))
    have HD7 := Lib.hid (HD6.out.below hW (Nat.le_refl _))
    have HE7 := Lib.hid (HE6.out.below hW (Nat.le_refl _))
    have HF7 := Lib.hid (HF6.out.below hW (Nat.le_refl _))
    have HL7 := Lib.hid (HL6.out.below hW (Nat.le_refl _))
    have HC7 := Lib.hid (HC6.out.below hW (Nat.le_refl _))
    have HR7 := Lib.hid (HR6.out.below hW (Nat.le_refl _))
    have HY7 := Lib.hid (HY6.out.below hW (Nat.le_refl _))
    have HP7 := Lib.hid (HP6.out.below hW (Nat.le_refl _))
    have HQ7 := Lib.hid (HQ6.out.below hW (Nat.le_refl _))
    have Ha7 := Lib.hid (Ha6.out.below hW (Nat.le_refl _))
    have HB7 : Hid (Below w.heap.size w w7) := HB6.out.trans (hW.mono HB6.out.size)
    have Hb7 := Lib.hid (hM)
    clear hW HX6 HD6 HE6 HF6 HL6 HC6 HR6 HY6 HP6 HQ6 Ha6 HB6
    clear hM hB
    clear b5 y0 y1 y2 HE1'
    have b7 : w7.cell? ⟨w.heap.size, 7, none⟩ = some (.slice F fl fc) := cell_of_row w7 w.heap.size 7 _ 46 (0, 0) HX7.out
    go_wp2_with fail
    refine (HD1'.out.1 w7 g gf A c F fc A9 c9 HC7.out HF7.out HQ7.out hF2).mono ?_
    rintro e w8 ⟨A14, c14, rfl, hM, hB⟩
    have hW : Below w7.heap.size w7 w8 := hB
    have HX8 := Lib.hid (HX7.out.below hW (Nat.le_refl _))
    have HD8 := Lib.hid (HD7.out.below hW (Nat.le_refl _))
    have HE8 := Lib.hid (HE7.out.below hW (Nat.le_refl _))
    have HF8 := Lib.hid (HF7.out.below hW (Nat.le_refl _))
    have HL8 := Lib.hid (HL7.out.below hW (Nat.le_refl _))
    have HC8 := Lib.hid (HC7.out.below hW (Nat.le_refl _))
    have HR8 := Lib.hid (HR7.out.below hW (Nat.le_refl _))
    have HY8 := Lib.hid (HY7.out.below hW (Nat.le_refl _))
    have HP8 := Lib.hid (HP7.out.below hW (Nat.le_refl _))
    have HQ8 := Lib.hid (HQ7.out.below hW (Nat.le_refl _))
    have Ha8 := Lib.hid (Ha7.out.below hW (Nat.le_refl _))
    have Hb8 := Lib.hid (Hb7.out.below hW (Nat.le_refl _))
    have HB8 : Hid (Below w.heap.size w w8) := HB7.out.trans (hW.mono HB7.out.size)
    have Hd8 := Lib.hid (hM)
    clear hW HX7 HD7 HE7 HF7 HL7 HC7 HR7 HY7 HP7 HQ7 Ha7 Hb7 HB7
    clear hM hB
    clear b7
    have b6 : w8.cell? ⟨w.heap.size, 6, none⟩ = some (.slice E el ec) := cell_of_row w8 w.heap.size 6 _ 46 (0, 0) HX8.out
    have b7 : w8.cell? ⟨w.heap.size, 7, none⟩ = some (.slice F fl fc) := cell_of_row w8 w.heap.size 7 _ 46 (0, 0) HX8.out
    have y0 : w8.cell? ⟨y, 0, none⟩ = some (.int .i64 (k : Int)) := cell_of_row w8 y 0 _ 49 (0, 0) HY8.out
    have y1 : w8.cell? ⟨y, 1, none⟩ = some (.int .i64 (n : Int)) := cell_of_row w8 y 1 _ 49 (0, 0) HY8.out
    have y2 : w8.cell? ⟨y, 2, none⟩ = some (.slice Ar n cr) := cell_of_row w8 y 2 _ 49 (0, 0) HY8.out
    go_wp2_with fail
    refine (HD1'.out.2.1 w8 Ar cr F fc E ec HR8.out HF8.out HE8.out hF2 hE2).mono ?_
    rintro e w9 ⟨A16, c16, rfl, hM, hB⟩
    have hW : Below w8.heap.size w8 w9 := hB
    have HX9 := Lib.hid (HX8.out.below hW (Nat.le_refl _))
    have HD9 := Lib.hid (HD8.out.below hW (Nat.le_refl _))
    have HE9 := Lib.hid (HE8.out.below hW (Nat.le_refl _))
    have HF9 := Lib.hid (HF8.out.below hW (Nat.le_refl _))
    have HL9 := Lib.hid (HL8.out.below hW (Nat.le_refl _))
    have HC9 := Lib.hid (HC8.out.below hW (Nat.le_refl _))
    have HR9 := Lib.hid (HR8.out.below hW (Nat.le_refl _))
    have HY9 := Lib.hid (HY8.out.below hW (Nat.le_refl _))
    have HP9 := Lib.hid (HP8.out.below hW (Nat.le_refl _))
    have HQ9 := Lib.hid (HQ8.out.below hW (Nat.le_refl _))
    have Ha9 := Lib.hid (Ha8.out.below hW (Nat.le_refl _))
    have Hb9 := Lib.hid (Hb8.out.below hW (Nat.le_refl _))
    have Hd9 := Lib.hid (Hd8.out.below hW (Nat.le_refl _))
    have HB9 : Hid (Below w.heap.size w w9) := HB8.out.trans (hW.mono HB8.out.size)
    have He9 := Lib.hid (hM)
    clear hW HX8 HD8 HE8 HF8 HL8 HC8 HR8 HY8 HP8 HQ8 Ha8 Hb8 Hd8 HB8
    clear hM hB
    clear b6 b7 y0 y1 y2
    have b2 : w9.cell? ⟨w.heap.size, 2, none⟩ = some (.int .i64 I) := cell_of_row w9 w.heap.size 2 _ 46 (0, 0) HX9.out
    have b7 : w9.cell? ⟨w.heap.size, 7, none⟩ = some (.slice F fl fc) := cell_of_row w9 w.heap.size 7 _ 46 (0, 0) HX9.out
    go_wp2_with fail
    refine (HD1'.out.2.2.1 w9 g gf A c F fc A9 c9 HC9.out HF9.out HQ9.out hF2).mono ?_
    rintro e w10 ⟨A18, c18, rfl, hM, hB⟩
    have hW : Below w9.heap.size w9 w10 := hB
    have HX10 := Lib.hid (HX9.out.below hW (Nat.le_refl _))
    have HD10 := Lib.hid (HD9.out.below hW (Nat.le_refl _))
    have HE10 := Lib.hid (HE9.out.below hW (Nat.le_refl _))
    have HF10 := Lib.hid (HF9.out.below hW (Nat.le_refl _))
    have HL10 := Lib.hid (HL9.out.below hW (Nat.le_refl _))
    have HC10 := Lib.hid (HC9.out.below hW (Nat.le_refl _))
    have HR10 := Lib.hid (HR9.out.below hW (Nat.le_refl _))
    have HY10 := Lib.hid (HY9.out.below hW (Nat.le_refl _))
    have HP10 := Lib.hid (HP9.out.below hW (Nat.le_refl _))
    have HQ10 := Lib.hid (HQ9.out.below hW (Nat.le_refl _))
    have Ha10 := Lib.hid (Ha9.out.below hW (Nat.le_refl _))
    have Hb10 := Lib.hid (Hb9.out.below hW (Nat.le_refl _))
    have Hd10 := Lib.hid (Hd9.out.below hW (Nat.le_refl _))
    have He10 := Lib.hid (He9.out.below hW (Nat.le_refl _))
    have HB10 : Hid (Below w.heap.size w w10) := HB9.out.trans (hW.mono HB9.out.size)
    have Hf10 := Lib.hid (hM)
    clear hW HX9 HD9 HE9 HF9 HL9 HC9 HR9 HY9 HP9 HQ9 Ha9 Hb9 Hd9 He9 HB9
    clear hM hB
    clear b2 b7
    have b2 : w10.cell? ⟨w.heap.size, 2, none⟩ = some (.int .i64 I) := cell_of_row w10 w.heap.size 2 _ 46 (0, 0) HX10.out
    have b6 : w10.cell? ⟨w.heap.size, 6, none⟩ = some (.slice E el ec) := cell_of_row w10 w.heap.size 6 _ 46 (0, 0) HX10.out
    have b7 : w10.cell? ⟨w.heap.size, 7, none⟩ = some (.slice F fl fc) := cell_of_row w10 w.heap.size 7 _ 46 (0, 0) HX10.out
    have y0 : w10.cell? ⟨y, 0, none⟩ = some (.int .i64 (k : Int)) := cell_of_row w10 y 0 _ 49 (0, 0) HY10.out
    have y1 : w10.cell? ⟨y, 1, none⟩ = some (.int .i64 (n : Int)) := cell_of_row w10 y 1 _ 49 (0, 0) HY10.out
    have y2 : w10.cell? ⟨y, 2, none⟩ = some (.slice Ar n cr) := cell_of_row w10 y 2 _ 49 (0, 0) HY10.out
    go_wp2_with fail
    refine (HD1'.out.2.2.2 w10 Ar cr F fc E ec hcr HR10.out HF10.out HE10.out hF2 hE2).mono ?_
    rintro e w11 ⟨A20, c20, rfl, hM, hB⟩
    have hW : Below w10.heap.size w10 w11 := hB
    have HX11 := Lib.hid (HX10.out.below hW (Nat.le_refl _))
    have HD11 := Lib.hid (HD10.out.below hW (Nat.le_refl _))
    have HE11 := Lib.hid (HE10.out.below hW (Nat.le_refl _))
    have HF11 := Lib.hid (HF10.out.below hW (Nat.le_refl _))
    have HL11 := Lib.hid (HL10.out.below hW (Nat.le_refl _))
    have HC11 := Lib.hid (HC10.out.below hW (Nat.le_refl _))
    have HR11 := Lib.hid (HR10.out.below hW (Nat.le_refl _))
    have HY11 := Lib.hid (HY10.out.below hW (Nat.le_refl _))
    have HP11 := Lib.hid (HP10.out.below hW (Nat.le_refl _))
    have HQ11 := Lib.hid (HQ10.out.below hW (Nat.le_refl _))
    have Ha11 := Lib.hid (Ha10.out.below hW (Nat.le_refl _))
    have Hb11 := Lib.hid (Hb10.out.below hW (Nat.le_refl _))
    have Hd11 := Lib.hid (Hd10.out.below hW (Nat.le_refl _))
    have He11 := Lib.hid (He10.out.below hW (Nat.le_refl _))
    have Hf11 := Lib.hid (Hf10.out.below hW (Nat.le_refl _))
    have HB11 : Hid (Below w.heap.size w w11) := HB10.out.trans (hW.mono HB10.out.size)
    have Hh11 := Lib.hid (hM)
    clear hW HX10 HD10 HE10 HF10 HL10 HC10 HR10 HY10 HP10 HQ10 Ha10 Hb10 Hd10 He10 Hf10 HB10
    clear hM hB
    clear b2 b6 b7 y0 y1 y2 HD1'
    go_wp2_with fail
    refine wp_region_held_drew (S := fun u : World => u.cell? ⟨w.heap.size, 5, none⟩ = some (.slice D dl dc) ∧ u.cell? ⟨w.heap.size, 6, none⟩ = some (.slice E el ec) ∧ u.cell? ⟨y, 0, none⟩ = some (.int .i64 (k : Int)) ∧ u.cell? ⟨y, 1, none⟩ = some (.int .i64 (n : Int)) ∧ u.cell? ⟨y, 2, none⟩ = some (.slice Ar n cr)) (by kernel_rfl) (⟨cell_of_row w11.drew w.heap.size 5 _ 46 (0, 0) HX11.out, cell_of_row w11.drew w.heap.size 6 _ 46 (0, 0) HX11.out, cell_of_row w11.drew y 0 _ 49 (0, 0) HY11.out, cell_of_row w11.drew y 1 _ 49 (0, 0) HY11.out, cell_of_row w11.drew y 2 _ 49 (0, 0) HY11.out⟩) (fun hHeld => ?_)
    generalize hw12 : w11.drew = w12 at hHeld ⊢
    have hW : Below w11.heap.size w11 w12 := by rw [← hw12]; exact (Below.refl _ _).drew
    have HX12 := Lib.hid (HX11.out.below hW (Nat.le_refl _))
    have HD12 := Lib.hid (HD11.out.below hW (Nat.le_refl _))
    have HE12 := Lib.hid (HE11.out.below hW (Nat.le_refl _))
    have HF12 := Lib.hid (HF11.out.below hW (Nat.le_refl _))
    have HL12 := Lib.hid (HL11.out.below hW (Nat.le_refl _))
    have HC12 := Lib.hid (HC11.out.below hW (Nat.le_refl _))
    have HR12 := Lib.hid (HR11.out.below hW (Nat.le_refl _))
    have HY12 := Lib.hid (HY11.out.below hW (Nat.le_refl _))
    have HP12 := Lib.hid (HP11.out.below hW (Nat.le_refl _))
    have HQ12 := Lib.hid (HQ11.out.below hW (Nat.le_refl _))
    have Ha12 := Lib.hid (Ha11.out.below hW (Nat.le_refl _))
    have Hb12 := Lib.hid (Hb11.out.below hW (Nat.le_refl _))
    have Hd12 := Lib.hid (Hd11.out.below hW (Nat.le_refl _))
    have He12 := Lib.hid (He11.out.below hW (Nat.le_refl _))
    have Hf12 := Lib.hid (Hf11.out.below hW (Nat.le_refl _))
    have Hh12 := Lib.hid (Hh11.out.below hW (Nat.le_refl _))
    have HB12 : Hid (Below w.heap.size w w12) := HB11.out.trans (hW.mono HB11.out.size)
    clear hW HX11 HD11 HE11 HF11 HL11 HC11 HR11 HY11 HP11 HQ11 Ha11 Hb11 Hd11 He11 Hf11 Hh11 HB11
    clear hw12
    refine wpAnyH_take (i := 0) (oi := ⟨some 150, _, _, _, _, _⟩) (v := ?_) rfl (by kernel_rfl) (by kernel_rfl) (by kernel_rfl) (fun _ _ _ h => h) (Or.inl ⟨by rfl, ?_⟩) (by assumption) ?_
    rotate_left
    · intro w hSw
      (try dsimp only at hSw)
      go_simp
      all_goals (with_reducible rfl)
    try simp only [Act.put, List.setIfInBounds_toArray, List.set_cons_zero, List.set_cons_succ]
    refine wpAnyH_take (i := 1) (oi := ⟨some 151, _, _, _, _, _⟩) (v := ?_) rfl (by kernel_rfl) (by kernel_rfl) (by kernel_rfl) (fun _ _ _ h => h) (Or.inl ⟨by rfl, ?_⟩) (by assumption) ?_
    rotate_left
    · intro w hSw
      (try dsimp only at hSw)
      go_simp
      all_goals (with_reducible rfl)
    try simp only [Act.put, List.setIfInBounds_toArray, List.set_cons_zero, List.set_cons_succ]
    refine wpAnyH_ready (rs := [2]) (by kernel_rfl) (by simp) (AllReadyH.cons (o := ⟨some 152, _, _, _, _, _⟩) rfl (fun K hK => ?_) AllReadyH.nil)
    go_simp
    refine (lists_b A10 q1 c10 M1 A12 c12 w12 Ha12.out Hb12.out (by omega)).mono ?_
    rintro e w13 ⟨rfl, hB⟩
    have hW : Below w12.heap.size w12 w13 := hB
    have HX13 := Lib.hid (HX12.out.below hW (Nat.le_refl _))
    have HD13 := Lib.hid (HD12.out.below hW (Nat.le_refl _))
    have HE13 := Lib.hid (HE12.out.below hW (Nat.le_refl _))
    have HF13 := Lib.hid (HF12.out.below hW (Nat.le_refl _))
    have HL13 := Lib.hid (HL12.out.below hW (Nat.le_refl _))
    have HC13 := Lib.hid (HC12.out.below hW (Nat.le_refl _))
    have HR13 := Lib.hid (HR12.out.below hW (Nat.le_refl _))
    have HY13 := Lib.hid (HY12.out.below hW (Nat.le_refl _))
    have HP13 := Lib.hid (HP12.out.below hW (Nat.le_refl _))
    have HQ13 := Lib.hid (HQ12.out.below hW (Nat.le_refl _))
    have Hd13 := Lib.hid (Hd12.out.below hW (Nat.le_refl _))
    have He13 := Lib.hid (He12.out.below hW (Nat.le_refl _))
    have Hf13 := Lib.hid (Hf12.out.below hW (Nat.le_refl _))
    have Hh13 := Lib.hid (Hh12.out.below hW (Nat.le_refl _))
    have HB13 : Hid (Below w.heap.size w w13) := HB12.out.trans (hW.mono HB12.out.size)
    clear hW HX12 HD12 HE12 HF12 HL12 HC12 HR12 HY12 HP12 HQ12 Ha12 Hb12 Hd12 He12 Hf12 Hh12 HB12
    clear hB
    refine hK.out _ _ (⟨cell_of_row w13 w.heap.size 5 _ 46 (0, 0) HX13.out, cell_of_row w13 w.heap.size 6 _ 46 (0, 0) HX13.out, cell_of_row w13 y 0 _ 49 (0, 0) HY13.out, cell_of_row w13 y 1 _ 49 (0, 0) HY13.out, cell_of_row w13 y 2 _ 49 (0, 0) HY13.out⟩) (fun hHeld => ?_)
    clear hK K
    try simp only [Act.put, List.setIfInBounds_toArray, List.set_cons_zero, List.set_cons_succ]
    refine wpAnyH_take (i := 3) (oi := ⟨some 153, _, _, _, _, _⟩) (v := ?_) rfl (by kernel_rfl) (by kernel_rfl) (by kernel_rfl) (fun _ _ _ h => h) (Or.inl ⟨by rfl, ?_⟩) (by assumption) ?_
    rotate_left
    · intro w hSw
      (try dsimp only at hSw)
      go_simp
      all_goals (with_reducible rfl)
    try simp only [Act.put, List.setIfInBounds_toArray, List.set_cons_zero, List.set_cons_succ]
    refine wpAnyH_take (i := 4) (oi := ⟨some 154, _, _, _, _, _⟩) (v := ?_) rfl (by kernel_rfl) (by kernel_rfl) (by kernel_rfl) (fun _ _ _ h => h) (Or.inl ⟨by rfl, ?_⟩) (by assumption) ?_
    rotate_left
    · intro w hSw
      (try dsimp only at hSw)
      go_simp
      all_goals (with_reducible rfl)
    try simp only [Act.put, List.setIfInBounds_toArray, List.set_cons_zero, List.set_cons_succ]
    refine wpAnyH_take (i := 5) (oi := ⟨some 155, _, _, _, _, _⟩) (v := ?_) rfl (by kernel_rfl) (by kernel_rfl) (by kernel_rfl) (fun _ _ _ h => h) (Or.inl ⟨by rfl, ?_⟩) (by assumption) ?_
    rotate_left
    · intro w hSw
      (try dsimp only at hSw)
      go_simp
      all_goals (with_reducible rfl)
    try simp only [Act.put, List.setIfInBounds_toArray, List.set_cons_zero, List.set_cons_succ]
    refine wpAnyH_take (i := 6) (oi := ⟨some 156, _, _, _, _, _⟩) (v := ?_) rfl (by kernel_rfl) (by kernel_rfl) (by kernel_rfl) (fun _ _ _ h => h) (Or.inl ⟨by rfl, ?_⟩) (by assumption) ?_
    rotate_left
    · intro w hSw
      (try dsimp only at hSw)
      go_simp
      all_goals (with_reducible rfl)
    try simp only [Act.put, List.setIfInBounds_toArray, List.set_cons_zero, List.set_cons_succ]
    refine wpAnyH_take (i := 7) (oi := ⟨some 157, _, _, _, _, _⟩) (v := ?_) rfl (by kernel_rfl) (by kernel_rfl) (by kernel_rfl) (fun _ _ _ h => h) (Or.inl ⟨by rfl, ?_⟩) (by assumption) ?_
    rotate_left
    · intro w hSw
      (try dsimp only at hSw)
      go_simp
      all_goals (with_reducible rfl)
    try simp only [Act.put, List.setIfInBounds_toArray, List.set_cons_zero, List.set_cons_succ]
    refine wpAnyH_take (i := 8) (oi := ⟨some 158, _, _, _, _, _⟩) (v := ?_) rfl (by kernel_rfl) (by kernel_rfl) (by kernel_rfl) (fun _ _ _ h => h) (Or.inl ⟨by rfl, ?_⟩) (by assumption) ?_
    rotate_left
    · intro w hSw
      (try dsimp only at hSw)
      go_simp
      all_goals (with_reducible rfl)
    try simp only [Act.put, List.setIfInBounds_toArray, List.set_cons_zero, List.set_cons_succ]
    refine wpAnyH_take (i := 9) (oi := ⟨some 159, _, _, _, _, _⟩) (v := ?_) rfl (by kernel_rfl) (by kernel_rfl) (by kernel_rfl) (fun _ _ _ h => h) (Or.inl ⟨by rfl, ?_⟩) (by assumption) ?_
    rotate_left
    · intro w hSw
      (try dsimp only at hSw)
      go_simp
      all_goals (with_reducible rfl)
    try simp only [Act.put, List.setIfInBounds_toArray, List.set_cons_zero, List.set_cons_succ]
    refine wpAnyH_take (i := 10) (oi := ⟨some 160, _, _, _, _, _⟩) (v := ?_) rfl (by kernel_rfl) (by kernel_rfl) (by kernel_rfl) (fun _ _ _ h => h) (Or.inl ⟨by rfl, ?_⟩) (by assumption) ?_
    rotate_left
    · intro w hSw
      (try dsimp only at hSw)
      go_simp
      all_goals (with_reducible rfl)
    try simp only [Act.put, List.setIfInBounds_toArray, List.set_cons_zero, List.set_cons_succ]
    refine wpAnyH_take (i := 11) (oi := ⟨some 161, _, _, _, _, _⟩) (v := ?_) rfl (by kernel_rfl) (by kernel_rfl) (by kernel_rfl) (fun _ _ _ h => h) (Or.inl ⟨by rfl, ?_⟩) (by assumption) ?_
    rotate_left
    · intro w hSw
      (try dsimp only at hSw)
      go_simp
      all_goals (with_reducible rfl)
    try simp only [Act.put, List.setIfInBounds_toArray, List.set_cons_zero, List.set_cons_succ]
    refine wpAnyH_ready (rs := [12]) (by kernel_rfl) (by simp) (AllReadyH.cons (o := ⟨some 162, _, _, _, _, _⟩) rfl (fun K hK => ?_) AllReadyH.nil)
    go_simp
    refine (lists_b A14 q2 c14 M2 A16 c16 w13 Hd13.out He13.out (by omega)).mono ?_
    rintro e w14 ⟨rfl, hB⟩
    have hW : Below w13.heap.size w13 w14 := hB
    have HX14 := Lib.hid (HX13.out.below hW (Nat.le_refl _))
    have HD14 := Lib.hid (HD13.out.below hW (Nat.le_refl _))
    have HE14 := Lib.hid (HE13.out.below hW (Nat.le_refl _))
    have HF14 := Lib.hid (HF13.out.below hW (Nat.le_refl _))
    have HL14 := Lib.hid (HL13.out.below hW (Nat.le_refl _))
    have HC14 := Lib.hid (HC13.out.below hW (Nat.le_refl _))
    have HR14 := Lib.hid (HR13.out.below hW (Nat.le_refl _))
    have HY14 := Lib.hid (HY13.out.below hW (Nat.le_refl _))
    have HP14 := Lib.hid (HP13.out.below hW (Nat.le_refl _))
    have HQ14 := Lib.hid (HQ13.out.below hW (Nat.le_refl _))
    have Hf14 := Lib.hid (Hf13.out.below hW (Nat.le_refl _))
    have Hh14 := Lib.hid (Hh13.out.below hW (Nat.le_refl _))
    have HB14 : Hid (Below w.heap.size w w14) := HB13.out.trans (hW.mono HB13.out.size)
    clear hW HX13 HD13 HE13 HF13 HL13 HC13 HR13 HY13 HP13 HQ13 Hd13 He13 Hf13 Hh13 HB13
    clear hB
    refine hK.out _ _ (⟨cell_of_row w14 w.heap.size 5 _ 46 (0, 0) HX14.out, cell_of_row w14 w.heap.size 6 _ 46 (0, 0) HX14.out, cell_of_row w14 y 0 _ 49 (0, 0) HY14.out, cell_of_row w14 y 1 _ 49 (0, 0) HY14.out, cell_of_row w14 y 2 _ 49 (0, 0) HY14.out⟩) (fun hHeld => ?_)
    clear hK K
    try simp only [Act.put, List.setIfInBounds_toArray, List.set_cons_zero, List.set_cons_succ]
    refine wpAnyH_take (i := 13) (oi := ⟨some 163, _, _, _, _, _⟩) (v := ?_) rfl (by kernel_rfl) (by kernel_rfl) (by kernel_rfl) (fun _ _ _ h => h) (Or.inl ⟨by rfl, ?_⟩) (by assumption) ?_
    rotate_left
    · intro w hSw
      (try dsimp only at hSw)
      go_simp
      all_goals (with_reducible rfl)
    try simp only [Act.put, List.setIfInBounds_toArray, List.set_cons_zero, List.set_cons_succ]
    refine wpAnyH_take (i := 14) (oi := ⟨some 164, _, _, _, _, _⟩) (v := ?_) rfl (by kernel_rfl) (by kernel_rfl) (by kernel_rfl) (fun _ _ _ h => h) (Or.inl ⟨by rfl, ?_⟩) (by assumption) ?_
    rotate_left
    · intro w hSw
      (try dsimp only at hSw)
      go_simp
      all_goals (with_reducible rfl)
    try simp only [Act.put, List.setIfInBounds_toArray, List.set_cons_zero, List.set_cons_succ]
    refine wpAnyH_take (i := 15) (oi := ⟨some 165, _, _, _, _, _⟩) (v := ?_) rfl (by kernel_rfl) (by kernel_rfl) (by kernel_rfl) (fun _ _ _ h => h) (Or.inl ⟨by rfl, ?_⟩) (by assumption) ?_
    rotate_left
    · intro w hSw
      (try dsimp only at hSw)
      go_simp
      all_goals (with_reducible rfl)
    try simp only [Act.put, List.setIfInBounds_toArray, List.set_cons_zero, List.set_cons_succ]
    refine wpAnyH_take (i := 16) (oi := ⟨some 166, _, _, _, _, _⟩) (v := ?_) rfl (by kernel_rfl) (by kernel_rfl) (by kernel_rfl) (fun _ _ _ h => h) (Or.inl ⟨by rfl, ?_⟩) (by assumption) ?_
    rotate_left
    · intro w hSw
      (try dsimp only at hSw)
      go_simp
      all_goals (with_reducible rfl)
    try simp only [Act.put, List.setIfInBounds_toArray, List.set_cons_zero, List.set_cons_succ]
    refine wpAnyH_take (i := 17) (oi := ⟨some 167, _, _, _, _, _⟩) (v := ?_) rfl (by kernel_rfl) (by kernel_rfl) (by kernel_rfl) (fun _ _ _ h => h) (Or.inl ⟨by rfl, ?_⟩) (by assumption) ?_
    rotate_left
    · intro w hSw
      (try dsimp only at hSw)
      go_simp
      all_goals (with_reducible rfl)
    try simp only [Act.put, List.setIfInBounds_toArray, List.set_cons_zero, List.set_cons_succ]
    refine wpAnyH_take (i := 18) (oi := ⟨some 168, _, _, _, _, _⟩) (v := ?_) rfl (by kernel_rfl) (by kernel_rfl) (by kernel_rfl) (fun _ _ _ h => h) (Or.inl ⟨by rfl, ?_⟩) (by assumption) ?_
    rotate_left
    · intro w hSw
      (try dsimp only at hSw)
      go_simp
      all_goals (with_reducible rfl)
    try simp only [Act.put, List.setIfInBounds_toArray, List.set_cons_zero, List.set_cons_succ]
    refine wpAnyH_take (i := 19) (oi := ⟨some 169, _, _, _, _, _⟩) (v := ?_) rfl (by kernel_rfl) (by kernel_rfl) (by kernel_rfl) (fun _ _ _ h => h) (Or.inl ⟨by rfl, ?_⟩) (by assumption) ?_
    rotate_left
    · intro w hSw
      (try dsimp only at hSw)
      go_simp
      all_goals (with_reducible rfl)
    try simp only [Act.put, List.setIfInBounds_toArray, List.set_cons_zero, List.set_cons_succ]
    refine wpAnyH_take (i := 20) (oi := ⟨some 170, _, _, _, _, _⟩) (v := ?_) rfl (by kernel_rfl) (by kernel_rfl) (by kernel_rfl) (fun _ _ _ h => h) (Or.inl ⟨by rfl, ?_⟩) (by assumption) ?_
    rotate_left
    · intro w hSw
      (try dsimp only at hSw)
      go_simp
      all_goals (with_reducible rfl)
    try simp only [Act.put, List.setIfInBounds_toArray, List.set_cons_zero, List.set_cons_succ]
    refine wpAnyH_take (i := 21) (oi := ⟨some 171, _, _, _, _, _⟩) (v := ?_) rfl (by kernel_rfl) (by kernel_rfl) (by kernel_rfl) (fun _ _ _ h => h) (Or.inl ⟨by rfl, ?_⟩) (by assumption) ?_
    rotate_left
    · intro w hSw
      (try dsimp only at hSw)
      go_simp
      all_goals (with_reducible rfl)
    try simp only [Act.put, List.setIfInBounds_toArray, List.set_cons_zero, List.set_cons_succ]
    refine wpAnyH_take (i := 22) (oi := ⟨some 172, _, _, _, _, _⟩) (v := ?_) rfl (by kernel_rfl) (by kernel_rfl) (by kernel_rfl) (fun _ _ _ h => h) (Or.inl ⟨by rfl, ?_⟩) (by assumption) ?_
    rotate_left
    · intro w hSw
      (try dsimp only at hSw)
      go_simp
      all_goals (with_reducible rfl)
    try simp only [Act.put, List.setIfInBounds_toArray, List.set_cons_zero, List.set_cons_succ]
    refine wpAnyH_ready (rs := [23]) (by kernel_rfl) (by simp) (AllReadyH.cons (o := ⟨some 173, _, _, _, _, _⟩) rfl (fun K hK => ?_) AllReadyH.nil)
    go_simp
    refine (same_yes A18 s2 c18 m2 A20 s2 c20 w14 Hf14.out Hh14.out).mono ?_
    rintro e v ⟨rfl, rfl⟩
    refine hK.out _ _ (⟨cell_of_row w14 w.heap.size 5 _ 46 (0, 0) HX14.out, cell_of_row w14 w.heap.size 6 _ 46 (0, 0) HX14.out, cell_of_row w14 y 0 _ 49 (0, 0) HY14.out, cell_of_row w14 y 1 _ 49 (0, 0) HY14.out, cell_of_row w14 y 2 _ 49 (0, 0) HY14.out⟩) (fun hHeld => ?_)
    clear hK K
    try simp only [Act.put, List.setIfInBounds_toArray, List.set_cons_zero, List.set_cons_succ]
    refine wpAnyH_take (i := 24) (oi := ⟨some 174, _, _, _, _, _⟩) (v := ?_) rfl (by kernel_rfl) (by kernel_rfl) (by kernel_rfl) (fun _ _ _ h => h) (Or.inl ⟨by rfl, ?_⟩) (by assumption) ?_
    rotate_left
    · intro w hSw
      (try dsimp only at hSw)
      go_simp
      all_goals (with_reducible rfl)
    try simp only [Act.put, List.setIfInBounds_toArray, List.set_cons_zero, List.set_cons_succ]
    refine wpAnyH_take (i := 25) (oi := ⟨some 175, _, _, _, _, _⟩) (v := ?_) rfl (by kernel_rfl) (by kernel_rfl) (by kernel_rfl) (fun _ _ _ h => h) (Or.inl ⟨by rfl, ?_⟩) (by assumption) ?_
    rotate_left
    · intro w hSw
      (try dsimp only at hSw)
      go_simp
      all_goals (with_reducible rfl)
    try simp only [Act.put, List.setIfInBounds_toArray, List.set_cons_zero, List.set_cons_succ]
    refine wpAnyH_take (i := 26) (oi := ⟨some 176, _, _, _, _, _⟩) (v := ?_) rfl (by kernel_rfl) (by kernel_rfl) (by kernel_rfl) (fun _ _ _ h => h) (Or.inl ⟨by rfl, ?_⟩) (by assumption) ?_
    rotate_left
    · intro w hSw
      (try dsimp only at hSw)
      go_simp
      all_goals (with_reducible rfl)
    try simp only [Act.put, List.setIfInBounds_toArray, List.set_cons_zero, List.set_cons_succ]
    refine wpAnyH_take (i := 27) (oi := ⟨some 177, _, _, _, _, _⟩) (v := ?_) rfl (by kernel_rfl) (by kernel_rfl) (by kernel_rfl) (fun _ _ _ h => h) (Or.inl ⟨by rfl, ?_⟩) (by assumption) ?_
    rotate_left
    · intro w hSw
      (try dsimp only at hSw)
      go_simp
      all_goals (with_reducible rfl)
    try simp only [Act.put, List.setIfInBounds_toArray, List.set_cons_zero, List.set_cons_succ]
    refine wpAnyH_take (i := 28) (oi := ⟨some 178, _, _, _, _, _⟩) (v := ?_) rfl (by kernel_rfl) (by kernel_rfl) (by kernel_rfl) (fun _ _ _ h => h) (Or.inl ⟨by rfl, ?_⟩) (by assumption) ?_
    rotate_left
    · intro w hSw
      (try dsimp only at hSw)
      go_simp
      all_goals (with_reducible rfl)
    try simp only [Act.put, List.setIfInBounds_toArray, List.set_cons_zero, List.set_cons_succ]
    refine wpAnyH_take (i := 29) (oi := ⟨some 179, _, _, _, _, _⟩) (v := ?_) rfl (by kernel_rfl) (by kernel_rfl) (by kernel_rfl) (fun _ _ _ h => h) (Or.inl ⟨by rfl, ?_⟩) (by assumption) ?_
    rotate_left
    · intro w hSw
      (try dsimp only at hSw)
      go_simp
      all_goals (with_reducible rfl)
    try simp only [Act.put, List.setIfInBounds_toArray, List.set_cons_zero, List.set_cons_succ]
    refine wpAnyH_take (i := 30) (oi := ⟨some 180, _, _, _, _, _⟩) (v := ?_) rfl (by kernel_rfl) (by kernel_rfl) (by kernel_rfl) (fun _ _ _ h => h) (Or.inl ⟨by rfl, ?_⟩) (by assumption) ?_
    rotate_left
    · intro w hSw
      (try dsimp only at hSw)
      go_simp
      all_goals (with_reducible rfl)
    try simp only [Act.put, List.setIfInBounds_toArray, List.set_cons_zero, List.set_cons_succ]
    refine wpAnyH_take (i := 31) (oi := ⟨some 181, _, _, _, _, _⟩) (v := ?_) rfl (by kernel_rfl) (by kernel_rfl) (by kernel_rfl) (fun _ _ _ h => h) (Or.inl ⟨by rfl, ?_⟩) (by assumption) ?_
    rotate_left
    · intro w hSw
      (try dsimp only at hSw)
      go_simp
      all_goals (with_reducible rfl)
    try simp only [Act.put, List.setIfInBounds_toArray, List.set_cons_zero, List.set_cons_succ]
    refine wpAnyH_take (i := 32) (oi := ⟨some 182, _, _, _, _, _⟩) (v := ?_) rfl (by kernel_rfl) (by kernel_rfl) (by kernel_rfl) (fun _ _ _ h => h) (Or.inl ⟨by rfl, ?_⟩) (by assumption) ?_
    rotate_left
    · intro w hSw
      (try dsimp only at hSw)
      go_simp
      all_goals (with_reducible rfl)
    try simp only [Act.put, List.setIfInBounds_toArray, List.set_cons_zero, List.set_cons_succ]
    refine wpAnyH_take (i := 33) (oi := ⟨some 183, _, _, _, _, _⟩) (v := ?_) rfl (by kernel_rfl) (by kernel_rfl) (by kernel_rfl) (fun _ _ _ h => h) (Or.inl ⟨by rfl, ?_⟩) (by assumption) ?_
    rotate_left
    · intro w hSw
      (try dsimp only at hSw)
      go_simp
      all_goals (with_reducible rfl)
    try simp only [Act.put, List.setIfInBounds_toArray, List.set_cons_zero, List.set_cons_succ]
    refine wpAnyH_take (i := 34) (oi := ⟨some 184, _, _, _, _, _⟩) (v := ?_) rfl (by kernel_rfl) (by kernel_rfl) (by kernel_rfl) (fun _ _ _ h => h) (Or.inl ⟨by rfl, ?_⟩) (by assumption) ?_
    rotate_left
    · intro w hSw
      (try dsimp only at hSw)
      go_simp
      all_goals (with_reducible rfl)
    try simp only [Act.put, List.setIfInBounds_toArray, List.set_cons_zero, List.set_cons_succ]
    refine wpAnyH_ready (rs := [35]) (by kernel_rfl) (by simp) (AllReadyH.cons (o := ⟨some 185, _, _, _, _, _⟩) rfl (fun K hK => ?_) AllReadyH.nil)
    go_simp
    refine (lists_b A8 dl c8 MD D dc w14 HP14.out HD14.out (by omega)).mono ?_
    rintro e w15 ⟨rfl, hB⟩
    have hW : Below w14.heap.size w14 w15 := hB
    have HX15 := Lib.hid (HX14.out.below hW (Nat.le_refl _))
    have HD15 := Lib.hid (HD14.out.below hW (Nat.le_refl _))
    have HE15 := Lib.hid (HE14.out.below hW (Nat.le_refl _))
    have HF15 := Lib.hid (HF14.out.below hW (Nat.le_refl _))
    have HL15 := Lib.hid (HL14.out.below hW (Nat.le_refl _))
    have HC15 := Lib.hid (HC14.out.below hW (Nat.le_refl _))
    have HR15 := Lib.hid (HR14.out.below hW (Nat.le_refl _))
    have HY15 := Lib.hid (HY14.out.below hW (Nat.le_refl _))
    have HP15 := Lib.hid (HP14.out.below hW (Nat.le_refl _))
    have HQ15 := Lib.hid (HQ14.out.below hW (Nat.le_refl _))
    have HB15 : Hid (Below w.heap.size w w15) := HB14.out.trans (hW.mono HB14.out.size)
    clear hW HX14 HD14 HE14 HF14 HL14 HC14 HR14 HY14 HP14 HQ14 Hf14 Hh14 HB14
    clear hB
    refine hK.out _ _ (⟨cell_of_row w15 w.heap.size 5 _ 46 (0, 0) HX15.out, cell_of_row w15 w.heap.size 6 _ 46 (0, 0) HX15.out, cell_of_row w15 y 0 _ 49 (0, 0) HY15.out, cell_of_row w15 y 1 _ 49 (0, 0) HY15.out, cell_of_row w15 y 2 _ 49 (0, 0) HY15.out⟩) (fun hHeld => ?_)
    clear hK K
    try simp only [Act.put, List.setIfInBounds_toArray, List.set_cons_zero, List.set_cons_succ]
    refine wpAnyH_take (i := 36) (oi := ⟨some 186, _, _, _, _, _⟩) (v := ?_) rfl (by kernel_rfl) (by kernel_rfl) (by kernel_rfl) (fun _ _ _ h => h) (Or.inl ⟨by rfl, ?_⟩) (by assumption) ?_
    rotate_left
    · intro w hSw
      (try dsimp only at hSw)
      go_simp
      all_goals (with_reducible rfl)
    try simp only [Act.put, List.setIfInBounds_toArray, List.set_cons_zero, List.set_cons_succ]
    refine wpAnyH_take (i := 37) (oi := ⟨some 187, _, _, _, _, _⟩) (v := ?_) rfl (by kernel_rfl) (by kernel_rfl) (by kernel_rfl) (fun _ _ _ h => h) (Or.inl ⟨by rfl, ?_⟩) (by assumption) ?_
    rotate_left
    · intro w hSw
      (try dsimp only at hSw)
      go_simp
      all_goals (with_reducible rfl)
    try simp only [Act.put, List.setIfInBounds_toArray, List.set_cons_zero, List.set_cons_succ]
    refine wpAnyH_take (i := 38) (oi := ⟨some 188, _, _, _, _, _⟩) (v := ?_) rfl (by kernel_rfl) (by kernel_rfl) (by kernel_rfl) (fun _ _ _ h => h) (Or.inl ⟨by rfl, ?_⟩) (by assumption) ?_
    rotate_left
    · intro w hSw
      (try dsimp only at hSw)
      go_simp
      all_goals (with_reducible rfl)
    try simp only [Act.put, List.setIfInBounds_toArray, List.set_cons_zero, List.set_cons_succ]
    refine wpAnyH_take (i := 39) (oi := ⟨some 189, _, _, _, _, _⟩) (v := ?_) rfl (by kernel_rfl) (by kernel_rfl) (by kernel_rfl) (fun _ _ _ h => h) (Or.inl ⟨by rfl, ?_⟩) (by assumption) ?_
    rotate_left
    · intro w hSw
      (try dsimp only at hSw)
      go_simp
      all_goals (with_reducible rfl)
    try simp only [Act.put, List.setIfInBounds_toArray, List.set_cons_zero, List.set_cons_succ]
    refine wpAnyH_take (i := 40) (oi := ⟨some 190, _, _, _, _, _⟩) (v := ?_) rfl (by kernel_rfl) (by kernel_rfl) (by kernel_rfl) (fun _ _ _ h => h) (Or.inl ⟨by rfl, ?_⟩) (by assumption) ?_
    rotate_left
    · intro w hSw
      (try dsimp only at hSw)
      go_simp
      all_goals (with_reducible rfl)
    try simp only [Act.put, List.setIfInBounds_toArray, List.set_cons_zero, List.set_cons_succ]
    refine wpAnyH_take (i := 41) (oi := ⟨some 191, _, _, _, _, _⟩) (v := ?_) rfl (by kernel_rfl) (by kernel_rfl) (by kernel_rfl) (fun _ _ _ h => h) (Or.inl ⟨by rfl, ?_⟩) (by assumption) ?_
    rotate_left
    · intro w hSw
      (try dsimp only at hSw)
      go_simp
      all_goals (with_reducible rfl)
    try simp only [Act.put, List.setIfInBounds_toArray, List.set_cons_zero, List.set_cons_succ]
    refine wpAnyH_ready (rs := [42]) (by kernel_rfl) (by simp) (AllReadyH.cons (o := ⟨some 192, _, _, _, _, _⟩) rfl (fun K hK => ?_) AllReadyH.nil)
    go_simp
    refine (lists_b A9 el c9 ME E ec w15 HQ15.out HE15.out (by omega)).mono ?_
    rintro e w16 ⟨rfl, hB⟩
    have hW : Below w15.heap.size w15 w16 := hB
    have HX16 := Lib.hid (HX15.out.below hW (Nat.le_refl _))
    have HD16 := Lib.hid (HD15.out.below hW (Nat.le_refl _))
    have HL16 := Lib.hid (HL15.out.below hW (Nat.le_refl _))
    have HC16 := Lib.hid (HC15.out.below hW (Nat.le_refl _))
    have HR16 := Lib.hid (HR15.out.below hW (Nat.le_refl _))
    have HY16 := Lib.hid (HY15.out.below hW (Nat.le_refl _))
    have HP16 := Lib.hid (HP15.out.below hW (Nat.le_refl _))
    have HB16 : Hid (Below w.heap.size w w16) := HB15.out.trans (hW.mono HB15.out.size)
    clear hW HX15 HD15 HE15 HF15 HL15 HC15 HR15 HY15 HP15 HQ15 HB15
    clear hB
    refine hK.out _ _ (⟨cell_of_row w16 w.heap.size 5 _ 46 (0, 0) HX16.out, cell_of_row w16 w.heap.size 6 _ 46 (0, 0) HX16.out, cell_of_row w16 y 0 _ 49 (0, 0) HY16.out, cell_of_row w16 y 1 _ 49 (0, 0) HY16.out, cell_of_row w16 y 2 _ 49 (0, 0) HY16.out⟩) (fun hHeld => ?_)
    clear hK K
    try simp only [Act.put, List.setIfInBounds_toArray, List.set_cons_zero, List.set_cons_succ]
    refine wpAnyH_take (i := 43) (oi := ⟨some 193, _, _, _, _, _⟩) (v := ?_) rfl (by kernel_rfl) (by kernel_rfl) (by kernel_rfl) (fun _ _ _ h => h) (Or.inl ⟨by rfl, ?_⟩) (by assumption) ?_
    rotate_left
    · intro w hSw
      (try dsimp only at hSw)
      go_simp
      all_goals (with_reducible rfl)
    try simp only [Act.put, List.setIfInBounds_toArray, List.set_cons_zero, List.set_cons_succ]
    refine wpAnyH_take (i := 44) (oi := ⟨some 194, _, _, _, _, _⟩) (v := ?_) rfl (by kernel_rfl) (by kernel_rfl) (by kernel_rfl) (fun _ _ _ h => h) (Or.inl ⟨by rfl, ?_⟩) (by assumption) ?_
    rotate_left
    · intro w hSw
      (try dsimp only at hSw)
      go_simp
      all_goals (with_reducible rfl)
    try simp only [Act.put, List.setIfInBounds_toArray, List.set_cons_zero, List.set_cons_succ]
    refine wpAnyH_take (i := 45) (oi := ⟨some 195, _, _, _, _, _⟩) (v := ?_) rfl (by kernel_rfl) (by kernel_rfl) (by kernel_rfl) (fun _ _ _ h => h) (Or.inl ⟨by rfl, ?_⟩) (by assumption) ?_
    rotate_left
    · intro w hSw
      (try dsimp only at hSw)
      go_simp
      all_goals (with_reducible rfl)
    try simp only [Act.put, List.setIfInBounds_toArray, List.set_cons_zero, List.set_cons_succ]
    refine wpAnyH_take (i := 46) (oi := ⟨some 196, _, _, _, _, _⟩) (v := ?_) rfl (by kernel_rfl) (by kernel_rfl) (by kernel_rfl) (fun _ _ _ h => h) (Or.inl ⟨by rfl, ?_⟩) (by assumption) ?_
    rotate_left
    · intro w hSw
      (try dsimp only at hSw)
      go_simp
      all_goals (with_reducible rfl)
    try simp only [Act.put, List.setIfInBounds_toArray, List.set_cons_zero, List.set_cons_succ]
    refine wpAnyH_take (i := 48) (oi := ⟨some 198, _, _, _, _, _⟩) (v := ?_) rfl (by kernel_rfl) (by kernel_rfl) (by kernel_rfl) (fun _ _ _ h => h) (Or.inl ⟨by rfl, ?_⟩) (by assumption) ?_
    rotate_left
    · intro w hSw
      (try dsimp only at hSw)
      go_simp
      all_goals (with_reducible rfl)
    try simp only [Act.put, List.setIfInBounds_toArray, List.set_cons_zero, List.set_cons_succ]
    refine wpAnyH_take (i := 49) (oi := ⟨some 199, _, _, _, _, _⟩) (v := ?_) rfl (by kernel_rfl) (by kernel_rfl) (by kernel_rfl) (fun _ _ _ h => h) (Or.inl ⟨by rfl, ?_⟩) (by assumption) ?_
    rotate_left
    · intro w hSw
      (try dsimp only at hSw)
      go_simp
      all_goals (with_reducible rfl)
    try simp only [Act.put, List.setIfInBounds_toArray, List.set_cons_zero, List.set_cons_succ]
    refine wpAnyH_ready (rs := [47]) (by kernel_rfl) (by simp) (AllReadyH.cons (o := ⟨some 197, _, _, _, _, _⟩) rfl (fun K hK => ?_) AllReadyH.nil)
    go_simp
    refine (matrix_yes w16 HC16.out).mono ?_
    rintro e w17 ⟨Am, cm, rfl, hM, hB⟩
    have hW : Below w16.heap.size w16 w17 := hB
    have HX17 := Lib.hid (HX16.out.below hW (Nat.le_refl _))
    have HD17 := Lib.hid (HD16.out.below hW (Nat.le_refl _))
    have HL17 := Lib.hid (HL16.out.below hW (Nat.le_refl _))
    have HC17 := Lib.hid (HC16.out.below hW (Nat.le_refl _))
    have HR17 := Lib.hid (HR16.out.below hW (Nat.le_refl _))
    have HY17 := Lib.hid (HY16.out.below hW (Nat.le_refl _))
    have HP17 := Lib.hid (HP16.out.below hW (Nat.le_refl _))
    have HB17 : Hid (Below w.heap.size w w17) := HB16.out.trans (hW.mono HB16.out.size)
    have Hm17 := Lib.hid (hM.mr)
    clear hW HX16 HD16 HL16 HC16 HR16 HY16 HP16 HB16
    clear hM hB
    refine hK.out _ _ (⟨cell_of_row w17 w.heap.size 5 _ 46 (0, 0) HX17.out, cell_of_row w17 w.heap.size 6 _ 46 (0, 0) HX17.out, cell_of_row w17 y 0 _ 49 (0, 0) HY17.out, cell_of_row w17 y 1 _ 49 (0, 0) HY17.out, cell_of_row w17 y 2 _ 49 (0, 0) HY17.out⟩) (fun hHeld => ?_)
    clear hK K
    try simp only [Act.put, List.setIfInBounds_toArray, List.set_cons_zero, List.set_cons_succ]
    refine wpAnyH_ready (rs := [50]) (by kernel_rfl) (by simp) (AllReadyH.cons (o := ⟨some 200, _, _, _, _, _⟩) rfl (fun K hK => ?_) AllReadyH.nil)
    go_simp
    refine (samem_b Am n cm (tabM n k (codF k)) Ar cr w17 Hm17.out HR17.out (by omega)).mono ?_
    rintro e w18 ⟨rfl, hB⟩
    have hW : Below w17.heap.size w17 w18 := hB
    have HX18 := Lib.hid (HX17.out.below hW (Nat.le_refl _))
    have HD18 := Lib.hid (HD17.out.below hW (Nat.le_refl _))
    have HL18 := Lib.hid (HL17.out.below hW (Nat.le_refl _))
    have HC18 := Lib.hid (HC17.out.below hW (Nat.le_refl _))
    have HR18 := Lib.hid (HR17.out.below hW (Nat.le_refl _))
    have HY18 := Lib.hid (HY17.out.below hW (Nat.le_refl _))
    have HP18 := Lib.hid (HP17.out.below hW (Nat.le_refl _))
    have HB18 : Hid (Below w.heap.size w w18) := HB17.out.trans (hW.mono HB17.out.size)
    clear hW HX17 HD17 HL17 HC17 HR17 HY17 HP17 Hm17 HB17
    clear hB
    refine hK.out _ _ (⟨cell_of_row w18 w.heap.size 5 _ 46 (0, 0) HX18.out, cell_of_row w18 w.heap.size 6 _ 46 (0, 0) HX18.out, cell_of_row w18 y 0 _ 49 (0, 0) HY18.out, cell_of_row w18 y 1 _ 49 (0, 0) HY18.out, cell_of_row w18 y 2 _ 49 (0, 0) HY18.out⟩) (fun hHeld => ?_)
    clear hK K
    try simp only [Act.put, List.setIfInBounds_toArray, List.set_cons_zero, List.set_cons_succ]
    refine wpAnyH_take (i := 51) (oi := ⟨some 201, _, _, _, _, _⟩) (v := ?_) rfl (by kernel_rfl) (by kernel_rfl) (by kernel_rfl) (fun _ _ _ h => h) (Or.inl ⟨by rfl, ?_⟩) (by assumption) ?_
    rotate_left
    · intro w hSw
      (try dsimp only at hSw)
      go_simp
      all_goals (with_reducible rfl)
    try simp only [Act.put, List.setIfInBounds_toArray, List.set_cons_zero, List.set_cons_succ]
    refine wpAnyH_take (i := 52) (oi := ⟨some 202, _, _, _, _, _⟩) (v := ?_) rfl (by kernel_rfl) (by kernel_rfl) (by kernel_rfl) (fun _ _ _ h => h) (Or.inl ⟨by rfl, ?_⟩) (by assumption) ?_
    rotate_left
    · intro w hSw
      (try dsimp only at hSw)
      go_simp
      all_goals (with_reducible rfl)
    try simp only [Act.put, List.setIfInBounds_toArray, List.set_cons_zero, List.set_cons_succ]
    refine wpAnyH_take (i := 53) (oi := ⟨some 203, _, _, _, _, _⟩) (v := ?_) rfl (by kernel_rfl) (by kernel_rfl) (by kernel_rfl) (fun _ _ _ h => h) (Or.inl ⟨by rfl, ?_⟩) (by assumption) ?_
    rotate_left
    · intro w hSw
      (try dsimp only at hSw)
      go_simp
      all_goals (with_reducible rfl)
    try simp only [Act.put, List.setIfInBounds_toArray, List.set_cons_zero, List.set_cons_succ]
    refine wpAnyH_take (i := 54) (oi := ⟨some 204, _, _, _, _, _⟩) (v := ?_) rfl (by kernel_rfl) (by kernel_rfl) (by kernel_rfl) (fun _ _ _ h => h) (Or.inl ⟨by rfl, ?_⟩) (by assumption) ?_
    rotate_left
    · intro w hSw
      (try dsimp only at hSw)
      go_simp
      all_goals (with_reducible rfl)
    try simp only [Act.put, List.setIfInBounds_toArray, List.set_cons_zero, List.set_cons_succ]
    refine wpAnyH_take (i := 56) (oi := ⟨some 206, _, _, _, _, _⟩) (v := ?_) rfl (by kernel_rfl) (by kernel_rfl) (by kernel_rfl) (fun _ _ _ h => h) (Or.inl ⟨by rfl, ?_⟩) (by assumption) ?_
    rotate_left
    · intro w hSw
      (try dsimp only at hSw)
      go_simp
      all_goals (with_reducible rfl)
    try simp only [Act.put, List.setIfInBounds_toArray, List.set_cons_zero, List.set_cons_succ]
    refine wpAnyH_take (i := 57) (oi := ⟨some 207, _, _, _, _, _⟩) (v := ?_) rfl (by kernel_rfl) (by kernel_rfl) (by kernel_rfl) (fun _ _ _ h => h) (Or.inl ⟨by rfl, ?_⟩) (by assumption) ?_
    rotate_left
    · intro w hSw
      (try dsimp only at hSw)
      go_simp
      all_goals (with_reducible rfl)
    try simp only [Act.put, List.setIfInBounds_toArray, List.set_cons_zero, List.set_cons_succ]
    refine wpAnyH_ready (rs := [55]) (by kernel_rfl) (by simp) (AllReadyH.cons (o := ⟨some 205, _, _, _, _, _⟩) rfl (fun K hK => ?_) AllReadyH.nil)
    go_simp
    refine (need_yes w18 HC18.out).mono ?_
    rintro e v ⟨rfl, rfl⟩
    refine hK.out _ _ (⟨cell_of_row w18 w.heap.size 5 _ 46 (0, 0) HX18.out, cell_of_row w18 w.heap.size 6 _ 46 (0, 0) HX18.out, cell_of_row w18 y 0 _ 49 (0, 0) HY18.out, cell_of_row w18 y 1 _ 49 (0, 0) HY18.out, cell_of_row w18 y 2 _ 49 (0, 0) HY18.out⟩) (fun hHeld => ?_)
    clear hK K
    try simp only [Act.put, List.setIfInBounds_toArray, List.set_cons_zero, List.set_cons_succ]
    refine wpAnyH_take (i := 58) (oi := ⟨some 208, _, _, _, _, _⟩) (v := ?_) rfl (by kernel_rfl) (by kernel_rfl) (by kernel_rfl) (fun _ _ _ h => h) (Or.inl ⟨by rfl, ?_⟩) (by assumption) ?_
    rotate_left
    · intro w hSw
      (try dsimp only at hSw)
      go_simp
      all_goals (with_reducible rfl)
    try simp only [Act.put, List.setIfInBounds_toArray, List.set_cons_zero, List.set_cons_succ]
    refine wpAnyH_take (i := 59) (oi := ⟨some 209, _, _, _, _, _⟩) (v := ?_) rfl (by kernel_rfl) (by kernel_rfl) (by kernel_rfl) (fun _ _ _ h => h) (Or.inl ⟨by rfl, ?_⟩) (by assumption) ?_
    rotate_left
    · intro w hSw
      (try dsimp only at hSw)
      go_simp
      all_goals (with_reducible rfl)
    try simp only [Act.put, List.setIfInBounds_toArray, List.set_cons_zero, List.set_cons_succ]
    refine wpAnyH_take (i := 60) (oi := ⟨some 210, _, _, _, _, _⟩) (v := ?_) rfl (by kernel_rfl) (by kernel_rfl) (by kernel_rfl) (fun _ _ _ h => h) (Or.inl ⟨by rfl, ?_⟩) (by assumption) ?_
    rotate_left
    · intro w hSw
      (try dsimp only at hSw)
      go_simp
      all_goals (with_reducible rfl)
    try simp only [Act.put, List.setIfInBounds_toArray, List.set_cons_zero, List.set_cons_succ]
    refine wpAnyH_take (i := 61) (oi := ⟨some 211, _, _, _, _, _⟩) (v := ?_) rfl (by kernel_rfl) (by kernel_rfl) (by kernel_rfl) (fun _ _ _ h => h) (Or.inl ⟨by rfl, ?_⟩) (by assumption) ?_
    rotate_left
    · intro w hSw
      (try dsimp only at hSw)
      go_simp
      all_goals (with_reducible rfl)
    try simp only [Act.put, List.setIfInBounds_toArray, List.set_cons_zero, List.set_cons_succ]
    refine wpAnyH_take (i := 63) (oi := ⟨some 213, _, _, _, _, _⟩) (v := ?_) rfl (by kernel_rfl) (by kernel_rfl) (by kernel_rfl) (fun _ _ _ h => h) (Or.inl ⟨by rfl, ?_⟩) (by assumption) ?_
    rotate_left
    · intro w hSw
      (try dsimp only at hSw)
      go_simp
      all_goals (with_reducible rfl)
    try simp only [Act.put, List.setIfInBounds_toArray, List.set_cons_zero, List.set_cons_succ]
    refine wpAnyH_take (i := 64) (oi := ⟨some 214, _, _, _, _, _⟩) (v := ?_) rfl (by kernel_rfl) (by kernel_rfl) (by kernel_rfl) (fun _ _ _ h => h) (Or.inl ⟨by rfl, ?_⟩) (by assumption) ?_
    rotate_left
    · intro w hSw
      (try dsimp only at hSw)
      go_simp
      all_goals (with_reducible rfl)
    try simp only [Act.put, List.setIfInBounds_toArray, List.set_cons_zero, List.set_cons_succ]
    refine wpAnyH_ready (rs := [62]) (by kernel_rfl) (by simp) (AllReadyH.cons (o := ⟨some 212, _, _, _, _, _⟩) rfl (fun K hK => ?_) AllReadyH.nil)
    go_simp
    refine (all_yes w18 HC18.out).mono ?_
    rintro e v ⟨rfl, rfl⟩
    refine hK.out _ _ (⟨cell_of_row w18 w.heap.size 5 _ 46 (0, 0) HX18.out, cell_of_row w18 w.heap.size 6 _ 46 (0, 0) HX18.out, cell_of_row w18 y 0 _ 49 (0, 0) HY18.out, cell_of_row w18 y 1 _ 49 (0, 0) HY18.out, cell_of_row w18 y 2 _ 49 (0, 0) HY18.out⟩) (fun hHeld => ?_)
    clear hK K
    try simp only [Act.put, List.setIfInBounds_toArray, List.set_cons_zero, List.set_cons_succ]
    refine wpAnyH_take (i := 65) (oi := ⟨some 215, _, _, _, _, _⟩) (v := ?_) rfl (by kernel_rfl) (by kernel_rfl) (by kernel_rfl) (fun _ _ _ h => h) (Or.inl ⟨by rfl, ?_⟩) (by assumption) ?_
    rotate_left
    · intro w hSw
      (try dsimp only at hSw)
      go_simp
      all_goals (with_reducible rfl)
    try simp only [Act.put, List.setIfInBounds_toArray, List.set_cons_zero, List.set_cons_succ]
    refine wpAnyH_take (i := 66) (oi := ⟨some 216, _, _, _, _, _⟩) (v := ?_) rfl (by kernel_rfl) (by kernel_rfl) (by kernel_rfl) (fun _ _ _ h => h) (Or.inl ⟨by rfl, ?_⟩) (by assumption) ?_
    rotate_left
    · intro w hSw
      (try dsimp only at hSw)
      go_simp
      all_goals (with_reducible rfl)
    try simp only [Act.put, List.setIfInBounds_toArray, List.set_cons_zero, List.set_cons_succ]
    refine wpAnyH_done (by kernel_rfl) ?_ _
    go_wp2_with fail
    refine wp_region_held_drew (S := fun u : World => u.cell? ⟨w.heap.size, 5, none⟩ = some (.slice D dl dc) ∧ u.cell? ⟨y, 0, none⟩ = some (.int .i64 (k : Int)) ∧ u.cell? ⟨y, 1, none⟩ = some (.int .i64 (n : Int)) ∧ u.cell? ⟨y, 2, none⟩ = some (.slice Ar n cr)) (by kernel_rfl) (⟨cell_of_row w18.drew w.heap.size 5 _ 46 (0, 0) HX18.out, cell_of_row w18.drew y 0 _ 49 (0, 0) HY18.out, cell_of_row w18.drew y 1 _ 49 (0, 0) HY18.out, cell_of_row w18.drew y 2 _ 49 (0, 0) HY18.out⟩) (fun hHeld => ?_)
    generalize hw19 : w18.drew = w19 at hHeld ⊢
    have hW : Below w18.heap.size w18 w19 := by rw [← hw19]; exact (Below.refl _ _).drew
    have HX19 := Lib.hid (HX18.out.below hW (Nat.le_refl _))
    have HD19 := Lib.hid (HD18.out.below hW (Nat.le_refl _))
    have HL19 := Lib.hid (HL18.out.below hW (Nat.le_refl _))
    have HC19 := Lib.hid (HC18.out.below hW (Nat.le_refl _))
    have HR19 := Lib.hid (HR18.out.below hW (Nat.le_refl _))
    have HY19 := Lib.hid (HY18.out.below hW (Nat.le_refl _))
    have HP19 := Lib.hid (HP18.out.below hW (Nat.le_refl _))
    have HB19 : Hid (Below w.heap.size w w19) := HB18.out.trans (hW.mono HB18.out.size)
    clear hW HX18 HD18 HL18 HC18 HR18 HY18 HP18 HB18
    clear hw19
    refine wpAnyH_take (i := 0) (oi := ⟨some 217, _, _, _, _, _⟩) (v := ?_) rfl (by kernel_rfl) (by kernel_rfl) (by kernel_rfl) (fun _ _ _ h => h) (Or.inl ⟨by rfl, ?_⟩) (by assumption) ?_
    rotate_left
    · intro w hSw
      (try dsimp only at hSw)
      go_simp
      all_goals (with_reducible rfl)
    try simp only [Act.put, List.setIfInBounds_toArray, List.set_cons_zero, List.set_cons_succ]
    refine wpAnyH_take (i := 1) (oi := ⟨some 218, _, _, _, _, _⟩) (v := ?_) rfl (by kernel_rfl) (by kernel_rfl) (by kernel_rfl) (fun _ _ _ h => h) (Or.inl ⟨by rfl, ?_⟩) (by assumption) ?_
    rotate_left
    · intro w hSw
      (try dsimp only at hSw)
      go_simp
      all_goals (with_reducible rfl)
    try simp only [Act.put, List.setIfInBounds_toArray, List.set_cons_zero, List.set_cons_succ]
    refine wpAnyH_take (i := 3) (oi := ⟨some 220, _, _, _, _, _⟩) (v := ?_) rfl (by kernel_rfl) (by kernel_rfl) (by kernel_rfl) (fun _ _ _ h => h) (Or.inl ⟨by rfl, ?_⟩) (by assumption) ?_
    rotate_left
    · intro w hSw
      (try dsimp only at hSw)
      go_simp
      all_goals (with_reducible rfl)
    try simp only [Act.put, List.setIfInBounds_toArray, List.set_cons_zero, List.set_cons_succ]
    refine wpAnyH_take (i := 4) (oi := ⟨some 221, _, _, _, _, _⟩) (v := ?_) rfl (by kernel_rfl) (by kernel_rfl) (by kernel_rfl) (fun _ _ _ h => h) (Or.inl ⟨by rfl, ?_⟩) (by assumption) ?_
    rotate_left
    · intro w hSw
      (try dsimp only at hSw)
      go_simp
      all_goals (with_reducible rfl)
    try simp only [Act.put, List.setIfInBounds_toArray, List.set_cons_zero, List.set_cons_succ]
    refine wpAnyH_take (i := 5) (oi := ⟨some 222, _, _, _, _, _⟩) (v := ?_) rfl (by kernel_rfl) (by kernel_rfl) (by kernel_rfl) (fun _ _ _ h => h) (Or.inl ⟨by rfl, ?_⟩) (by assumption) ?_
    rotate_left
    · intro w hSw
      (try dsimp only at hSw)
      go_simp
      all_goals (with_reducible rfl)
    try simp only [Act.put, List.setIfInBounds_toArray, List.set_cons_zero, List.set_cons_succ]
    refine wpAnyH_ready (rs := [2]) (by kernel_rfl) (by simp) (AllReadyH.cons (o := ⟨some 219, _, _, _, _, _⟩) rfl (fun K hK => ?_) AllReadyH.nil)
    go_simp
    refine (fits_any A8 dl c8 MD w19 HC19.out HP19.out (by omega) hc8 (fun r hr => by have := HSD.out r hr; omega)).mono ?_
    rintro e w20 ⟨rfl, hB⟩
    have hW : Below w19.heap.size w19 w20 := hB
    have HX20 := Lib.hid (HX19.out.below hW (Nat.le_refl _))
    have HD20 := Lib.hid (HD19.out.below hW (Nat.le_refl _))
    have HL20 := Lib.hid (HL19.out.below hW (Nat.le_refl _))
    have HC20 := Lib.hid (HC19.out.below hW (Nat.le_refl _))
    have HR20 := Lib.hid (HR19.out.below hW (Nat.le_refl _))
    have HY20 := Lib.hid (HY19.out.below hW (Nat.le_refl _))
    have HB20 : Hid (Below w.heap.size w w20) := HB19.out.trans (hW.mono HB19.out.size)
    clear hW HX19 HD19 HL19 HC19 HR19 HY19 HP19 HB19
    clear hB
    refine hK.out _ _ (⟨cell_of_row w20 w.heap.size 5 _ 46 (0, 0) HX20.out, cell_of_row w20 y 0 _ 49 (0, 0) HY20.out, cell_of_row w20 y 1 _ 49 (0, 0) HY20.out, cell_of_row w20 y 2 _ 49 (0, 0) HY20.out⟩) (fun hHeld => ?_)
    clear hK K
    try simp only [Act.put, List.setIfInBounds_toArray, List.set_cons_zero, List.set_cons_succ]
    refine wpAnyH_ready (rs := [6]) (by kernel_rfl) (by simp) (AllReadyH.cons (o := ⟨some 223, _, _, _, _, _⟩) rfl (fun K hK => ?_) AllReadyH.nil)
    go_simp
    refine (rfits_any Ar n k cr D dl dc MD w20 hk1 hkn' (by omega) HR20.out HD20.out (by omega) hD2 (fun r hr => by have := HSD.out r hr; omega)).mono ?_
    rintro e w21 ⟨rfl, hB⟩
    have hW : Below w20.heap.size w20 w21 := hB
    have HX21 := Lib.hid (HX20.out.below hW (Nat.le_refl _))
    have HL21 := Lib.hid (HL20.out.below hW (Nat.le_refl _))
    have HC21 := Lib.hid (HC20.out.below hW (Nat.le_refl _))
    have HR21 := Lib.hid (HR20.out.below hW (Nat.le_refl _))
    have HY21 := Lib.hid (HY20.out.below hW (Nat.le_refl _))
    have HB21 : Hid (Below w.heap.size w w21) := HB20.out.trans (hW.mono HB20.out.size)
    clear hW HX20 HD20 HL20 HC20 HR20 HY20 HB20
    clear hB
    refine hK.out _ _ (⟨cell_of_row w21 w.heap.size 5 _ 46 (0, 0) HX21.out, cell_of_row w21 y 0 _ 49 (0, 0) HY21.out, cell_of_row w21 y 1 _ 49 (0, 0) HY21.out, cell_of_row w21 y 2 _ 49 (0, 0) HY21.out⟩) (fun hHeld => ?_)
    clear hK K
    try simp only [Act.put, List.setIfInBounds_toArray, List.set_cons_zero, List.set_cons_succ]
    refine wpAnyH_take (i := 7) (oi := ⟨some 224, _, _, _, _, _⟩) (v := ?_) rfl (by kernel_rfl) (by kernel_rfl) (by kernel_rfl) (fun _ _ _ h => h) (Or.inl ⟨by rfl, ?_⟩) (by assumption) ?_
    rotate_left
    · intro w hSw
      (try dsimp only at hSw)
      go_simp
      all_goals (with_reducible rfl)
    try simp only [Act.put, List.setIfInBounds_toArray, List.set_cons_zero, List.set_cons_succ]
    refine wpAnyH_done (by kernel_rfl) ?_ _
    obtain ⟨q4, Ts, r4, hq4, hT4, e1, e2⟩ := split_both hk1 hkn' (show n ≤ 30 by omega) bl MB (by omega) Z
    have HE1' := Lib.hid (And.intro e1 e2)
    have HT4 := Lib.hid hT4
    clear e1 e2 hT4
    have b3 : w21.cell? ⟨w.heap.size, 3, none⟩ = some (.int .i64 Z) := cell_of_row w21 w.heap.size 3 _ 46 (0, 0) HX21.out
    have b8 : w21.cell? ⟨w.heap.size, 8, none⟩ = some (.slice B bl bc) := cell_of_row w21 w.heap.size 8 _ 46 (0, 0) HX21.out
    go_wp2_with fail
    refine (HE1'.out.1 w21 g gf A c B bc HC21.out HL21.out hB2).mono ?_
    rintro e w22 ⟨A22, c22, rfl, hM, hB⟩
    have hW : Below w21.heap.size w21 w22 := hB
    have HX22 := Lib.hid (HX21.out.below hW (Nat.le_refl _))
    have HL22 := Lib.hid (HL21.out.below hW (Nat.le_refl _))
    have HC22 := Lib.hid (HC21.out.below hW (Nat.le_refl _))
    have HR22 := Lib.hid (HR21.out.below hW (Nat.le_refl _))
    have HY22 := Lib.hid (HY21.out.below hW (Nat.le_refl _))
    have HB22 : Hid (Below w.heap.size w w22) := HB21.out.trans (hW.mono HB21.out.size)
    have Ha22 := Lib.hid (hM)
    clear hW HX21 HL21 HC21 HR21 HY21 HB21
    clear hM hB
    clear b3 b8
    have b3 : w22.cell? ⟨w.heap.size, 3, none⟩ = some (.int .i64 Z) := cell_of_row w22 w.heap.size 3 _ 46 (0, 0) HX22.out
    have b8 : w22.cell? ⟨w.heap.size, 8, none⟩ = some (.slice B bl bc) := cell_of_row w22 w.heap.size 8 _ 46 (0, 0) HX22.out
    have y0 : w22.cell? ⟨y, 0, none⟩ = some (.int .i64 (k : Int)) := cell_of_row w22 y 0 _ 49 (0, 0) HY22.out
    have y1 : w22.cell? ⟨y, 1, none⟩ = some (.int .i64 (n : Int)) := cell_of_row w22 y 1 _ 49 (0, 0) HY22.out
    have y2 : w22.cell? ⟨y, 2, none⟩ = some (.slice Ar n cr) := cell_of_row w22 y 2 _ 49 (0, 0) HY22.out
    go_wp2_with fail
    refine (HE1'.out.2 w22 Ar cr B bc HL22.out).mono ?_
    rintro e w23 ⟨A24, c24, rfl, hM, hB⟩
    have hW : Below w22.heap.size w22 w23 := hB
    have HX23 := Lib.hid (HX22.out.below hW (Nat.le_refl _))
    have HC23 := Lib.hid (HC22.out.below hW (Nat.le_refl _))
    have HR23 := Lib.hid (HR22.out.below hW (Nat.le_refl _))
    have HY23 := Lib.hid (HY22.out.below hW (Nat.le_refl _))
    have Ha23 := Lib.hid (Ha22.out.below hW (Nat.le_refl _))
    have HB23 : Hid (Below w.heap.size w w23) := HB22.out.trans (hW.mono HB22.out.size)
    have Hb23 := Lib.hid (hM)
    clear hW HX22 HL22 HC22 HR22 HY22 Ha22 HB22
    clear hM hB
    clear b3 b8 y0 y1 y2 HE1'
    obtain ⟨s5, m5, r5, e1, e2⟩ := join_both hk1 (show n ≤ 30 by omega) hkn' q4 Ts hq4 Hb23.out.len HT4.out L
    have HE1' := Lib.hid (And.intro e1 e2)
    clear e1 e2
    have b4 : w23.cell? ⟨w.heap.size, 4, none⟩ = some (.int .i64 L) := cell_of_row w23 w.heap.size 4 _ 46 (0, 0) HX23.out
    go_wp2_with fail
    refine (HE1'.out.1 w23 g gf A c A24 c24 HC23.out Hb23.out).mono ?_
    rintro e w24 ⟨A26, c26, rfl, hM, hB⟩
    have hW : Below w23.heap.size w23 w24 := hB
    have HX24 := Lib.hid (HX23.out.below hW (Nat.le_refl _))
    have HR24 := Lib.hid (HR23.out.below hW (Nat.le_refl _))
    have HY24 := Lib.hid (HY23.out.below hW (Nat.le_refl _))
    have Ha24 := Lib.hid (Ha23.out.below hW (Nat.le_refl _))
    have Hb24 := Lib.hid (Hb23.out.below hW (Nat.le_refl _))
    have HB24 : Hid (Below w.heap.size w w24) := HB23.out.trans (hW.mono HB23.out.size)
    have Hd24 := Lib.hid (hM)
    clear hW HX23 HC23 HR23 HY23 Ha23 Hb23 HB23
    clear hM hB
    clear b4
    have b4 : w24.cell? ⟨w.heap.size, 4, none⟩ = some (.int .i64 L) := cell_of_row w24 w.heap.size 4 _ 46 (0, 0) HX24.out
    have y0 : w24.cell? ⟨y, 0, none⟩ = some (.int .i64 (k : Int)) := cell_of_row w24 y 0 _ 49 (0, 0) HY24.out
    have y1 : w24.cell? ⟨y, 1, none⟩ = some (.int .i64 (n : Int)) := cell_of_row w24 y 1 _ 49 (0, 0) HY24.out
    have y2 : w24.cell? ⟨y, 2, none⟩ = some (.slice Ar n cr) := cell_of_row w24 y 2 _ 49 (0, 0) HY24.out
    go_wp2_with fail
    refine (HE1'.out.2 w24 Ar cr A24 c24 Hb24.out).mono ?_
    rintro e w25 ⟨A28, c28, rfl, hM, hB⟩
    have hW : Below w24.heap.size w24 w25 := hB
    have Ha25 := Lib.hid (Ha24.out.below hW (Nat.le_refl _))
    have Hb25 := Lib.hid (Hb24.out.below hW (Nat.le_refl _))
    have Hd25 := Lib.hid (Hd24.out.below hW (Nat.le_refl _))
    have HB25 : Hid (Below w.heap.size w w25) := HB24.out.trans (hW.mono HB24.out.size)
    have He25 := Lib.hid (hM)
    clear hW HX24 HR24 HY24 Ha24 Hb24 Hd24 HB24
    clear hM hB
    clear b4 y0 y1 y2 HE1'
    go_wp2_with fail
    refine (same_tr A22 q4 c22 A24 c24 Ts w25 Ha25.out Hb25.out (by omega) (fun T hT => by have := (HT4.out T hT).1; omega)).mono ?_
    rintro e w26 ⟨rfl, hB⟩
    have hW : Below w25.heap.size w25 w26 := hB
    have Hd26 := Lib.hid (Hd25.out.below hW (Nat.le_refl _))
    have He26 := Lib.hid (He25.out.below hW (Nat.le_refl _))
    have HB26 : Hid (Below w.heap.size w w26) := HB25.out.trans (hW.mono HB25.out.size)
    clear hW Ha25 Hb25 Hd25 He25 HB25
    clear hB
    go_wp2_with fail
    refine (same_yes A26 s5 c26 m5 A28 s5 c28 w26 Hd26.out He26.out).mono ?_
    rintro e v ⟨rfl, rfl⟩
    go_wp2_with fail
    refine (awake_any w26).mono ?_
    rintro e w27 ⟨rfl, hB⟩
    have hW : Below w26.heap.size w26 w27 := hB
    have HB27 : Hid (Below w.heap.size w w27) := HB26.out.trans (hW.mono HB26.out.size)
    clear hW Hd26 He26 HB26
    clear hB
    go_wp2
    go_ret
    exact ⟨rfl, HB27.out⟩
end Go.Proofs.Ytobbjeephmfdeaa
