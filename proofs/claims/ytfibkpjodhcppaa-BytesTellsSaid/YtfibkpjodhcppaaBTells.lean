import Derived.Test.YtfibkpjodhcppaaBTellsA
namespace Go.Proofs.Ytfibkpjodhcppaa
open Go.RowKit Go.Coop

set_option maxRecDepth 100000 in
theorem btells_out (N : Int) (A : Option Addr) (n c : Nat) (x y s : Int) (w : World) (h : 800 < n) : Calls Try.prog 4 #[.int .u64 N, .slice A n c, .int .i64 x, .int .i64 y, .int .u32 s] w fun e w' => e = .returned (.bool true) ∧ Below w.heap.size w w' := by
  have hb1 : decide (800 < (n : Int)) = true := by simp; omega
  clear h
  go_enter Try.func4, Try.ntmps4
  go_wp2_with fail
  refine (awake_any _).mono ?_
  rintro e w9 ⟨rfl, hb9⟩
  go_wp2
  go_ret
  exact ⟨rfl, hb9⟩

set_option maxHeartbeats 8000000 in
set_option maxRecDepth 100000 in
theorem btells_in (N : Nat) (A : Option Addr) (n c : Nat) (l : List UInt8) (x y : Int) (s : Nat) (w : World) (hr : Rd w A n l) (hn : n ≤ 800) (hc : n ≤ c) (hN : (N : Int) ≤ 18446744073709551615) (hy : y ≤ 9223372036854775807) :
    Calls Try.prog 4 #[.int .u64 (N : Int), .slice A n c, .int .i64 x, .int .i64 y, .int .u32 (s : Int)] w fun e w' => e = .returned (.bool true) ∧ Below w.heap.size w w' := by
  obtain ⟨Z, hZs, hz⟩ := zero24
  have HZ := Lib.hid hZs
  obtain ⟨⟨u1, u2, u3⟩, hu⟩ : ∃ u, getU l x = u := ⟨_, rfl⟩
  obtain ⟨⟨v1, v2, v3⟩, hv⟩ : ∃ v, getB l (getU l x) y = v := ⟨_, rfl⟩
  obtain ⟨nu, hnu⟩ : ∃ nu, n + (dig N).length = nu := ⟨_, rfl⟩
  obtain ⟨lu, hlu⟩ : ∃ lu, l ++ dig N = lu := ⟨_, rfl⟩
  obtain ⟨nb, hnb⟩ : ∃ nb, n + (dig n).length + n = nb := ⟨_, rfl⟩
  obtain ⟨lb, hlb⟩ : ∃ lb, l ++ dig n ++ l = lb := ⟨_, rfl⟩
  have HU := Lib.hid hu
  have HV := Lib.hid hv
  have HNu := Lib.hid (And.intro hnu hlu)
  have HNb := Lib.hid (And.intro hnb hlb)
  have HR := Lib.hid hr
  have hb0 : decide (800 < (n : Int)) = false := by simp; omega
  clear hu hv hnu hlu hnb hlb hr hZs
  go_enter Try.func4, Try.ntmps4
  go_wp2_with fail
  refine (copy_any A n c l _ HR.out (by omega)).mono ?_
  rintro e W1 ⟨A1, c1, rfl, ho1, hb1⟩
  have hcap := ho1.cap
  have HI1 := Lib.hid ho1.rd
  have HR1 := Lib.hid (HR.out.below hb1 (Nat.le_refl _))
  have HL1 := Lib.hid hb1
  clear ho1 hb1
  go_wp2_with fail
  have G1 := getUint_any A1 n c1 l x W1 HI1.out (by omega) hcap
  rw [HU.out] at G1
  refine G1.mono ?_
  rintro e w2 ⟨rfl, rfl⟩
  clear G1
  dsimp only
  go_wp2_with fail
  have G1 := rgetUint_any A n c l x W1 HR1.out (by omega)
  rw [HU.out] at G1
  refine G1.mono ?_
  rintro e w2 ⟨rfl, rfl⟩
  clear G1
  dsimp only
  go_wp2_with fail
  have G1 := getBlob_any A1 n c1 l x y W1 HI1.out hcap (by omega) hy
  rw [HV.out] at G1
  refine G1.mono ?_
  rintro e W2 ⟨Ap, mp, cp, rfl, hrp, hmc, hb2⟩
  clear G1
  dsimp only at hrp ⊢
  have HI2 := Lib.hid (HI1.out.below hb2 (Nat.le_refl _))
  have HR2 := Lib.hid (HR1.out.below hb2 (Nat.le_refl _))
  have HL2 := Lib.hid (HL1.out.trans (hb2.mono HL1.out.size))
  have HP2 := Lib.hid hrp
  clear hrp hmc hb2 HI1 HR1 HL1
  go_wp2_with fail
  have G1 := rgetBlob_any A n c l x y W2 HR2.out hc (by omega) hy
  rw [HV.out] at G1
  refine G1.mono ?_
  rintro e W3 ⟨Aq, mq, cq, rfl, hrq, hb3⟩
  clear G1
  dsimp only at hrq ⊢
  have HI3 := Lib.hid (HI2.out.below hb3 (Nat.le_refl _))
  have HR3 := Lib.hid (HR2.out.below hb3 (Nat.le_refl _))
  have HL3 := Lib.hid (HL2.out.trans (hb3.mono HL2.out.size))
  have HP3 := Lib.hid (HP2.out.below hb3 (Nat.le_refl _))
  have HQ3 := Lib.hid hrq
  clear hrq hb3 HI2 HR2 HL2 HP2
  go_wp2_with fail
  refine wp_region_held_drew (S := fun w' => Rd w' Ap mp v1 ∧ Rd w' Aq mq v1) (by kernel_rfl) (⟨HP3.out.drew, HQ3.out.drew⟩) (fun hHeld => ?_)
  refine wpAnyH_take (i := 0) (oi := ⟨some 78, _, _, _, _, _⟩) (v := ?_) rfl (by kernel_rfl) (by kernel_rfl) (by kernel_rfl) (fun _ _ _ h => h) (Or.inl ⟨by rfl, ?_⟩) (by assumption) ?_
  rotate_left
  · intro w hSw
    (try dsimp only at hSw)
    go_simp
    all_goals (with_reducible rfl)
  try simp only [Act.put, List.setIfInBounds_toArray, List.set_cons_zero, List.set_cons_succ]
  refine wpAnyH_take (i := 1) (oi := ⟨some 79, _, _, _, _, _⟩) (v := ?_) rfl (by kernel_rfl) (by kernel_rfl) (by kernel_rfl) (fun _ _ _ h => h) (Or.inl ⟨by rfl, ?_⟩) (by assumption) ?_
  rotate_left
  · intro w hSw
    have kc := conv_str (P := Try.prog) Try.underlying32 Try.underlying5 Try.underlying9 (hSw.1) cp
    go_simp
    all_goals (with_reducible rfl)
  try simp only [Act.put, List.setIfInBounds_toArray, List.set_cons_zero, List.set_cons_succ]
  refine wpAnyH_take (i := 2) (oi := ⟨some 80, _, _, _, _, _⟩) (v := ?_) rfl (by kernel_rfl) (by kernel_rfl) (by kernel_rfl) (fun _ _ _ h => h) (Or.inl ⟨by rfl, ?_⟩) (by assumption) ?_
  rotate_left
  · intro w hSw
    (try dsimp only at hSw)
    go_simp
    all_goals (with_reducible rfl)
  try simp only [Act.put, List.setIfInBounds_toArray, List.set_cons_zero, List.set_cons_succ]
  refine wpAnyH_take (i := 3) (oi := ⟨some 81, _, _, _, _, _⟩) (v := ?_) rfl (by kernel_rfl) (by kernel_rfl) (by kernel_rfl) (fun _ _ _ h => h) (Or.inl ⟨by rfl, ?_⟩) (by assumption) ?_
  rotate_left
  · intro w hSw
    have kc := conv_str (P := Try.prog) Try.underlying32 Try.underlying5 Try.underlying9 (hSw.2) cq
    go_simp
    all_goals (with_reducible rfl)
  try simp only [Act.put, List.setIfInBounds_toArray, List.set_cons_zero, List.set_cons_succ]
  refine wpAnyH_take (i := 4) (oi := ⟨some 82, _, _, _, _, _⟩) (v := ?_) rfl (by kernel_rfl) (by kernel_rfl) (by kernel_rfl) (fun _ _ _ h => h) (Or.inl ⟨by rfl, ?_⟩) (by assumption) ?_
  rotate_left
  · intro w hSw
    (try dsimp only at hSw)
    go_simp
    all_goals (with_reducible rfl)
  try simp only [Act.put, List.setIfInBounds_toArray, List.set_cons_zero, List.set_cons_succ]
  refine wpAnyH_take (i := 5) (oi := ⟨some 83, _, _, _, _, _⟩) (v := ?_) rfl (by kernel_rfl) (by kernel_rfl) (by kernel_rfl) (fun _ _ _ h => h) (Or.inl ⟨by rfl, ?_⟩) (by assumption) ?_
  rotate_left
  · intro w hSw
    (try dsimp only at hSw)
    go_simp
    all_goals (with_reducible rfl)
  try simp only [Act.put, List.setIfInBounds_toArray, List.set_cons_zero, List.set_cons_succ]
  refine wpAnyH_take (i := 6) (oi := ⟨some 84, _, _, _, _, _⟩) (v := ?_) rfl (by kernel_rfl) (by kernel_rfl) (by kernel_rfl) (fun _ _ _ h => h) (Or.inl ⟨by rfl, ?_⟩) (by assumption) ?_
  rotate_left
  · intro w hSw
    (try dsimp only at hSw)
    go_simp
    all_goals (with_reducible rfl)
  try simp only [Act.put, List.setIfInBounds_toArray, List.set_cons_zero, List.set_cons_succ]
  refine wpAnyH_take (i := 7) (oi := ⟨some 85, _, _, _, _, _⟩) (v := ?_) rfl (by kernel_rfl) (by kernel_rfl) (by kernel_rfl) (fun _ _ _ h => h) (Or.inl ⟨by rfl, ?_⟩) (by assumption) ?_
  rotate_left
  · intro w hSw
    (try dsimp only at hSw)
    go_simp
    all_goals (with_reducible rfl)
  try simp only [Act.put, List.setIfInBounds_toArray, List.set_cons_zero, List.set_cons_succ]
  refine wpAnyH_take (i := 8) (oi := ⟨some 86, _, _, _, _, _⟩) (v := ?_) rfl (by kernel_rfl) (by kernel_rfl) (by kernel_rfl) (fun _ _ _ h => h) (Or.inl ⟨by rfl, ?_⟩) (by assumption) ?_
  rotate_left
  · intro w hSw
    (try dsimp only at hSw)
    go_simp
    all_goals (with_reducible rfl)
  try simp only [Act.put, List.setIfInBounds_toArray, List.set_cons_zero, List.set_cons_succ]
  refine wpAnyH_take (i := 9) (oi := ⟨some 87, _, _, _, _, _⟩) (v := ?_) rfl (by kernel_rfl) (by kernel_rfl) (by kernel_rfl) (fun _ _ _ h => h) (Or.inl ⟨by rfl, ?_⟩) (by assumption) ?_
  rotate_left
  · intro w hSw
    (try dsimp only at hSw)
    go_simp
    all_goals (with_reducible rfl)
  try simp only [Act.put, List.setIfInBounds_toArray, List.set_cons_zero, List.set_cons_succ]
  refine wpAnyH_take (i := 10) (oi := ⟨some 88, _, _, _, _, _⟩) (v := ?_) rfl (by kernel_rfl) (by kernel_rfl) (by kernel_rfl) (fun _ _ _ h => h) (Or.inl ⟨by rfl, ?_⟩) (by assumption) ?_
  rotate_left
  · intro w hSw
    (try dsimp only at hSw)
    go_simp
    all_goals (with_reducible rfl)
  try simp only [Act.put, List.setIfInBounds_toArray, List.set_cons_zero, List.set_cons_succ]
  refine wpAnyH_take (i := 11) (oi := ⟨some 89, _, _, _, _, _⟩) (v := ?_) rfl (by kernel_rfl) (by kernel_rfl) (by kernel_rfl) (fun _ _ _ h => h) (Or.inl ⟨by rfl, ?_⟩) (by assumption) ?_
  rotate_left
  · intro w hSw
    (try dsimp only at hSw)
    go_simp
    all_goals (with_reducible rfl)
  try simp only [Act.put, List.setIfInBounds_toArray, List.set_cons_zero, List.set_cons_succ]
  refine wpAnyH_take (i := 12) (oi := ⟨some 90, _, _, _, _, _⟩) (v := ?_) rfl (by kernel_rfl) (by kernel_rfl) (by kernel_rfl) (fun _ _ _ h => h) (Or.inl ⟨by rfl, ?_⟩) (by assumption) ?_
  rotate_left
  · intro w hSw
    (try dsimp only at hSw)
    go_simp
    all_goals (with_reducible rfl)
  try simp only [Act.put, List.setIfInBounds_toArray, List.set_cons_zero, List.set_cons_succ]
  refine wpAnyH_take (i := 13) (oi := ⟨some 91, _, _, _, _, _⟩) (v := ?_) rfl (by kernel_rfl) (by kernel_rfl) (by kernel_rfl) (fun _ _ _ h => h) (Or.inl ⟨by rfl, ?_⟩) (by assumption) ?_
  rotate_left
  · intro w hSw
    (try dsimp only at hSw)
    go_simp
    all_goals (with_reducible rfl)
  try simp only [Act.put, List.setIfInBounds_toArray, List.set_cons_zero, List.set_cons_succ]
  refine wpAnyH_take (i := 14) (oi := ⟨some 92, _, _, _, _, _⟩) (v := ?_) rfl (by kernel_rfl) (by kernel_rfl) (by kernel_rfl) (fun _ _ _ h => h) (Or.inl ⟨by rfl, ?_⟩) (by assumption) ?_
  rotate_left
  · intro w hSw
    (try dsimp only at hSw)
    go_simp
    all_goals (with_reducible rfl)
  try simp only [Act.put, List.setIfInBounds_toArray, List.set_cons_zero, List.set_cons_succ]
  refine wpAnyH_take (i := 15) (oi := ⟨some 93, _, _, _, _, _⟩) (v := ?_) rfl (by kernel_rfl) (by kernel_rfl) (by kernel_rfl) (fun _ _ _ h => h) (Or.inl ⟨by rfl, ?_⟩) (by assumption) ?_
  rotate_left
  · intro w hSw
    (try dsimp only at hSw)
    go_simp
    all_goals (with_reducible rfl)
  try simp only [Act.put, List.setIfInBounds_toArray, List.set_cons_zero, List.set_cons_succ]
  refine wpAnyH_take (i := 16) (oi := ⟨some 94, _, _, _, _, _⟩) (v := ?_) rfl (by kernel_rfl) (by kernel_rfl) (by kernel_rfl) (fun _ _ _ h => h) (Or.inl ⟨by rfl, ?_⟩) (by assumption) ?_
  rotate_left
  · intro w hSw
    (try dsimp only at hSw)
    go_simp
    all_goals (with_reducible rfl)
  try simp only [Act.put, List.setIfInBounds_toArray, List.set_cons_zero, List.set_cons_succ]
  refine wpAnyH_take (i := 17) (oi := ⟨some 95, _, _, _, _, _⟩) (v := ?_) rfl (by kernel_rfl) (by kernel_rfl) (by kernel_rfl) (fun _ _ _ h => h) (Or.inl ⟨by rfl, ?_⟩) (by assumption) ?_
  rotate_left
  · intro w hSw
    (try dsimp only at hSw)
    go_simp
    all_goals (with_reducible rfl)
  try simp only [Act.put, List.setIfInBounds_toArray, List.set_cons_zero, List.set_cons_succ]
  refine wpAnyH_take (i := 20) (oi := ⟨some 98, _, _, _, _, _⟩) (v := ?_) rfl (by kernel_rfl) (by kernel_rfl) (by kernel_rfl) (fun _ _ _ h => h) (Or.inl ⟨by rfl, ?_⟩) (by assumption) ?_
  rotate_left
  · intro w hSw
    (try dsimp only at hSw)
    go_simp
    all_goals (with_reducible rfl)
  try simp only [Act.put, List.setIfInBounds_toArray, List.set_cons_zero, List.set_cons_succ]
  refine wpAnyH_take (i := 21) (oi := ⟨some 99, _, _, _, _, _⟩) (v := ?_) rfl (by kernel_rfl) (by kernel_rfl) (by kernel_rfl) (fun _ _ _ h => h) (Or.inl ⟨by rfl, ?_⟩) (by assumption) ?_
  rotate_left
  · intro w hSw
    (try dsimp only at hSw)
    go_simp
    all_goals (with_reducible rfl)
  try simp only [Act.put, List.setIfInBounds_toArray, List.set_cons_zero, List.set_cons_succ]
  have hH1 := hHeld
  refine wpAnyH_ready (rs := [18]) (by kernel_rfl) (by simp) (AllReadyH.cons (o := ⟨some 96, _, _, _, _, _⟩) rfl (fun K hK => ?_) AllReadyH.nil)
  go_simp
  have G1 := uint_any A1 n c1 l N _ HI3.out.drew (by omega) (by omega) hN
  rw [Int.toNat_natCast, HNu.out.1, HNu.out.2] at G1
  refine G1.mono ?_
  rintro e W4 ⟨A4, c4, rfl, ho4, hb4⟩
  clear G1
  refine hK.out _ _ (⟨hH1.1.below hb4 (Nat.le_refl _), hH1.2.below hb4 (Nat.le_refl _)⟩) (fun hHeld => ?_)
  clear hK K
  clear hHeld
  have hHeld := (⟨ho4.rd, hH1.1.below hb4 (Nat.le_refl _), hH1.2.below hb4 (Nat.le_refl _)⟩ : Rd W4 A4 nu lu ∧ Rd W4 Ap mp v1 ∧ Rd W4 Aq mq v1)
  refine wpAnyH_stronger (S' := fun w' => Rd w' A4 nu lu ∧ Rd w' Ap mp v1 ∧ Rd w' Aq mq v1) (fun _ h => h.2) _ _ _ _ ?_
  try simp only [Act.put, List.setIfInBounds_toArray, List.set_cons_zero, List.set_cons_succ]
  clear hH1
  have HI4 := Lib.hid (HI3.out.drew.below hb4 (Nat.le_refl _))
  have HR4 := Lib.hid (HR3.out.drew.below hb4 (Nat.le_refl _))
  have HL4 : Hid (Below w.heap.size w W4) := (show Below w.heap.size w W3.drew from ⟨HL3.out.os, HL3.out.tape, HL3.out.output, HL3.out.size, HL3.out.block⟩).trans (hb4.mono HL3.out.size)
  clear ho4 hb4 HI3 HR3 HL3
  refine wpAnyH_take (i := 19) (oi := ⟨some 97, _, _, _, _, _⟩) (v := ?_) rfl (by kernel_rfl) (by kernel_rfl) (by kernel_rfl) (fun _ _ _ h => h) (Or.inl ⟨by rfl, ?_⟩) (by assumption) ?_
  rotate_left
  · intro w hSw
    have kc := conv_str (P := Try.prog) Try.underlying32 Try.underlying5 Try.underlying9 (hSw.1) c4
    go_simp
    all_goals (with_reducible rfl)
  try simp only [Act.put, List.setIfInBounds_toArray, List.set_cons_zero, List.set_cons_succ]
  have hH2 := hHeld
  refine wpAnyH_ready (rs := [22]) (by kernel_rfl) (by simp) (AllReadyH.cons (o := ⟨some 100, _, _, _, _, _⟩) rfl (fun K hK => ?_) AllReadyH.nil)
  go_simp
  have G1 := ruint_any A n c l N _ HR4.out (by omega) (by omega)
  rw [HNu.out.1, HNu.out.2] at G1
  refine G1.mono ?_
  rintro e W5 ⟨A5, c5, rfl, hr5, hb5⟩
  clear G1
  refine hK.out _ _ (⟨hH2.1.below hb5 (Nat.le_refl _), hH2.2.1.below hb5 (Nat.le_refl _), hH2.2.2.below hb5 (Nat.le_refl _)⟩) (fun hHeld => ?_)
  clear hK K
  clear hHeld
  have hHeld := (⟨hr5, hH2.1.below hb5 (Nat.le_refl _), hH2.2.1.below hb5 (Nat.le_refl _), hH2.2.2.below hb5 (Nat.le_refl _)⟩ : Rd W5 A5 nu lu ∧ Rd W5 A4 nu lu ∧ Rd W5 Ap mp v1 ∧ Rd W5 Aq mq v1)
  refine wpAnyH_stronger (S' := fun w' => Rd w' A5 nu lu ∧ Rd w' A4 nu lu ∧ Rd w' Ap mp v1 ∧ Rd w' Aq mq v1) (fun _ h => h.2) _ _ _ _ ?_
  try simp only [Act.put, List.setIfInBounds_toArray, List.set_cons_zero, List.set_cons_succ]
  clear hH2
  have HI5 := Lib.hid (HI4.out.below hb5 (Nat.le_refl _))
  have HR5 := Lib.hid (HR4.out.below hb5 (Nat.le_refl _))
  have HL5 := Lib.hid (HL4.out.trans (hb5.mono HL4.out.size))
  clear hb5 HI4 HR4 HL4
  clear hr5
  refine wpAnyH_take (i := 23) (oi := ⟨some 101, _, _, _, _, _⟩) (v := ?_) rfl (by kernel_rfl) (by kernel_rfl) (by kernel_rfl) (fun _ _ _ h => h) (Or.inl ⟨by rfl, ?_⟩) (by assumption) ?_
  rotate_left
  · intro w hSw
    have kc := conv_str (P := Try.prog) Try.underlying32 Try.underlying5 Try.underlying9 (hSw.1) c5
    go_simp
    all_goals (with_reducible rfl)
  try simp only [Act.put, List.setIfInBounds_toArray, List.set_cons_zero, List.set_cons_succ]
  refine wpAnyH_take (i := 24) (oi := ⟨some 102, _, _, _, _, _⟩) (v := ?_) rfl (by kernel_rfl) (by kernel_rfl) (by kernel_rfl) (fun _ _ _ h => h) (Or.inl ⟨by rfl, ?_⟩) (by assumption) ?_
  rotate_left
  · intro w hSw
    (try dsimp only at hSw)
    go_simp
    all_goals (with_reducible rfl)
  try simp only [Act.put, List.setIfInBounds_toArray, List.set_cons_zero, List.set_cons_succ]
  refine wpAnyH_take (i := 25) (oi := ⟨some 103, _, _, _, _, _⟩) (v := ?_) rfl (by kernel_rfl) (by kernel_rfl) (by kernel_rfl) (fun _ _ _ h => h) (Or.inl ⟨by rfl, ?_⟩) (by assumption) ?_
  rotate_left
  · intro w hSw
    (try dsimp only at hSw)
    go_simp
    all_goals (with_reducible rfl)
  try simp only [Act.put, List.setIfInBounds_toArray, List.set_cons_zero, List.set_cons_succ]
  refine wpAnyH_take (i := 26) (oi := ⟨some 104, _, _, _, _, _⟩) (v := ?_) rfl (by kernel_rfl) (by kernel_rfl) (by kernel_rfl) (fun _ _ _ h => h) (Or.inl ⟨by rfl, ?_⟩) (by assumption) ?_
  rotate_left
  · intro w hSw
    (try dsimp only at hSw)
    go_simp
    all_goals (with_reducible rfl)
  try simp only [Act.put, List.setIfInBounds_toArray, List.set_cons_zero, List.set_cons_succ]
  refine wpAnyH_take (i := 27) (oi := ⟨some 105, _, _, _, _, _⟩) (v := ?_) rfl (by kernel_rfl) (by kernel_rfl) (by kernel_rfl) (fun _ _ _ h => h) (Or.inl ⟨by rfl, ?_⟩) (by assumption) ?_
  rotate_left
  · intro w hSw
    (try dsimp only at hSw)
    go_simp
    all_goals (with_reducible rfl)
  try simp only [Act.put, List.setIfInBounds_toArray, List.set_cons_zero, List.set_cons_succ]
  refine wpAnyH_take (i := 28) (oi := ⟨some 106, _, _, _, _, _⟩) (v := ?_) rfl (by kernel_rfl) (by kernel_rfl) (by kernel_rfl) (fun _ _ _ h => h) (Or.inl ⟨by rfl, ?_⟩) (by assumption) ?_
  rotate_left
  · intro w hSw
    (try dsimp only at hSw)
    go_simp
    all_goals (with_reducible rfl)
  try simp only [Act.put, List.setIfInBounds_toArray, List.set_cons_zero, List.set_cons_succ]
  refine wpAnyH_take (i := 31) (oi := ⟨some 109, _, _, _, _, _⟩) (v := ?_) rfl (by kernel_rfl) (by kernel_rfl) (by kernel_rfl) (fun _ _ _ h => h) (Or.inl ⟨by rfl, ?_⟩) (by assumption) ?_
  rotate_left
  · intro w hSw
    (try dsimp only at hSw)
    go_simp
    all_goals (with_reducible rfl)
  try simp only [Act.put, List.setIfInBounds_toArray, List.set_cons_zero, List.set_cons_succ]
  refine wpAnyH_take (i := 32) (oi := ⟨some 110, _, _, _, _, _⟩) (v := ?_) rfl (by kernel_rfl) (by kernel_rfl) (by kernel_rfl) (fun _ _ _ h => h) (Or.inl ⟨by rfl, ?_⟩) (by assumption) ?_
  rotate_left
  · intro w hSw
    (try dsimp only at hSw)
    go_simp
    all_goals (with_reducible rfl)
  try simp only [Act.put, List.setIfInBounds_toArray, List.set_cons_zero, List.set_cons_succ]
  have hH3 := hHeld
  refine wpAnyH_ready (rs := [29]) (by kernel_rfl) (by simp) (AllReadyH.cons (o := ⟨some 107, _, _, _, _, _⟩) rfl (fun K hK => ?_) AllReadyH.nil)
  go_simp
  have G1 := blob_any A1 n c1 l A n c l _ HI5.out HR5.out (by omega) (by omega)
  rw [HNb.out.1, HNb.out.2] at G1
  refine G1.mono ?_
  rintro e W6 ⟨A6, c6, rfl, ho6, hb6⟩
  clear G1
  refine hK.out _ _ (⟨hH3.1.below hb6 (Nat.le_refl _), hH3.2.1.below hb6 (Nat.le_refl _), hH3.2.2.1.below hb6 (Nat.le_refl _), hH3.2.2.2.below hb6 (Nat.le_refl _)⟩) (fun hHeld => ?_)
  clear hK K
  clear hHeld
  have hHeld := (⟨ho6.rd, hH3.1.below hb6 (Nat.le_refl _), hH3.2.1.below hb6 (Nat.le_refl _), hH3.2.2.1.below hb6 (Nat.le_refl _), hH3.2.2.2.below hb6 (Nat.le_refl _)⟩ : Rd W6 A6 nb lb ∧ Rd W6 A5 nu lu ∧ Rd W6 A4 nu lu ∧ Rd W6 Ap mp v1 ∧ Rd W6 Aq mq v1)
  refine wpAnyH_stronger (S' := fun w' => Rd w' A6 nb lb ∧ Rd w' A5 nu lu ∧ Rd w' A4 nu lu ∧ Rd w' Ap mp v1 ∧ Rd w' Aq mq v1) (fun _ h => h.2) _ _ _ _ ?_
  try simp only [Act.put, List.setIfInBounds_toArray, List.set_cons_zero, List.set_cons_succ]
  clear hH3
  have HI6 := Lib.hid (HI5.out.below hb6 (Nat.le_refl _))
  have HR6 := Lib.hid (HR5.out.below hb6 (Nat.le_refl _))
  have HL6 := Lib.hid (HL5.out.trans (hb6.mono HL5.out.size))
  clear hb6 HI5 HR5 HL5
  clear ho6
  refine wpAnyH_take (i := 30) (oi := ⟨some 108, _, _, _, _, _⟩) (v := ?_) rfl (by kernel_rfl) (by kernel_rfl) (by kernel_rfl) (fun _ _ _ h => h) (Or.inl ⟨by rfl, ?_⟩) (by assumption) ?_
  rotate_left
  · intro w hSw
    have kc := conv_str (P := Try.prog) Try.underlying32 Try.underlying5 Try.underlying9 (hSw.1) c6
    go_simp
    all_goals (with_reducible rfl)
  try simp only [Act.put, List.setIfInBounds_toArray, List.set_cons_zero, List.set_cons_succ]
  have hH4 := hHeld
  refine wpAnyH_ready (rs := [33]) (by kernel_rfl) (by simp) (AllReadyH.cons (o := ⟨some 111, _, _, _, _, _⟩) rfl (fun K hK => ?_) AllReadyH.nil)
  go_simp
  have G1 := rblob_any A n c l A n c l _ HR6.out HR6.out (by omega) (by omega)
  rw [HNb.out.1, HNb.out.2] at G1
  refine G1.mono ?_
  rintro e W7 ⟨A7, c7, rfl, hr7, hb7⟩
  clear G1
  refine hK.out _ _ (⟨hH4.1.below hb7 (Nat.le_refl _), hH4.2.1.below hb7 (Nat.le_refl _), hH4.2.2.1.below hb7 (Nat.le_refl _), hH4.2.2.2.1.below hb7 (Nat.le_refl _), hH4.2.2.2.2.below hb7 (Nat.le_refl _)⟩) (fun hHeld => ?_)
  clear hK K
  clear hHeld
  have hHeld := (⟨hr7, hH4.1.below hb7 (Nat.le_refl _), hH4.2.1.below hb7 (Nat.le_refl _), hH4.2.2.1.below hb7 (Nat.le_refl _), hH4.2.2.2.1.below hb7 (Nat.le_refl _), hH4.2.2.2.2.below hb7 (Nat.le_refl _)⟩ : Rd W7 A7 nb lb ∧ Rd W7 A6 nb lb ∧ Rd W7 A5 nu lu ∧ Rd W7 A4 nu lu ∧ Rd W7 Ap mp v1 ∧ Rd W7 Aq mq v1)
  refine wpAnyH_stronger (S' := fun w' => Rd w' A7 nb lb ∧ Rd w' A6 nb lb ∧ Rd w' A5 nu lu ∧ Rd w' A4 nu lu ∧ Rd w' Ap mp v1 ∧ Rd w' Aq mq v1) (fun _ h => h.2) _ _ _ _ ?_
  try simp only [Act.put, List.setIfInBounds_toArray, List.set_cons_zero, List.set_cons_succ]
  clear hH4
  have HI7 := Lib.hid (HI6.out.below hb7 (Nat.le_refl _))
  have HR7 := Lib.hid (HR6.out.below hb7 (Nat.le_refl _))
  have HL7 := Lib.hid (HL6.out.trans (hb7.mono HL6.out.size))
  clear hb7 HI6 HR6 HL6
  clear hr7
  refine wpAnyH_take (i := 34) (oi := ⟨some 112, _, _, _, _, _⟩) (v := ?_) rfl (by kernel_rfl) (by kernel_rfl) (by kernel_rfl) (fun _ _ _ h => h) (Or.inl ⟨by rfl, ?_⟩) (by assumption) ?_
  rotate_left
  · intro w hSw
    have kc := conv_str (P := Try.prog) Try.underlying32 Try.underlying5 Try.underlying9 (hSw.1) c7
    go_simp
    all_goals (with_reducible rfl)
  try simp only [Act.put, List.setIfInBounds_toArray, List.set_cons_zero, List.set_cons_succ]
  refine wpAnyH_take (i := 35) (oi := ⟨some 113, _, _, _, _, _⟩) (v := ?_) rfl (by kernel_rfl) (by kernel_rfl) (by kernel_rfl) (fun _ _ _ h => h) (Or.inl ⟨by rfl, ?_⟩) (by assumption) ?_
  rotate_left
  · intro w hSw
    (try dsimp only at hSw)
    go_simp
    all_goals (with_reducible rfl)
  try simp only [Act.put, List.setIfInBounds_toArray, List.set_cons_zero, List.set_cons_succ]
  refine wpAnyH_take (i := 36) (oi := ⟨some 114, _, _, _, _, _⟩) (v := ?_) rfl (by kernel_rfl) (by kernel_rfl) (by kernel_rfl) (fun _ _ _ h => h) (Or.inl ⟨by rfl, ?_⟩) (by assumption) ?_
  rotate_left
  · intro w hSw
    (try dsimp only at hSw)
    go_simp
    all_goals (with_reducible rfl)
  try simp only [Act.put, List.setIfInBounds_toArray, List.set_cons_zero, List.set_cons_succ]
  refine wpAnyH_done (by kernel_rfl) ?_ _
  clear hHeld HU HV HNu HNb HP3 HQ3 hb0
  go_wp2_with fail
  refine (table_any _).mono ?_
  rintro e W8 ⟨rfl, hb8⟩
  rw [show tarr ((List.range 256).map entry) = T0 from rfl]
  go_wp2_with (
    (with_reducible refine wpList_store_new (o := ⟨none, .store 24 (.tmp 20) (.tmp 115), _, _, _, _⟩) ?_ 24 (.tmp 20) (.tmp 115) ?_ T0 Z ?_ ?_ 24 size24' HZ.out T0_one ?_)
    case refine_1 => rfl
    case refine_2 => rfl
    case refine_3 => rfl
    case refine_4 => rfl)
  have hb9 := (Below.refl W8.heap.size W8).alloc (Nat.le_refl _) (.cells T0 24)
  have HI9 := Lib.hid ((HI7.out.below hb8 (Nat.le_refl _)).alloc (.cells T0 24))
  have HR9 := Lib.hid ((HR7.out.below hb8 (Nat.le_refl _)).alloc (.cells T0 24))
  have HL9 := Lib.hid ((HL7.out.trans (hb8.mono HL7.out.size)).alloc (Nat.le_trans HL7.out.size hb8.size) (.cells T0 24))
  have HG9 : Hid ((W8.alloc (.cells T0 24)).heap[W8.heap.size]? = some (.cells T0 24 (0, 0))) := heap_alloc_new W8 _
  have HT9 := Lib.hid (TabBlk.new W8)
  have hlt9 : W8.heap.size < (W8.alloc (.cells T0 24)).heap.size := by rw [size_alloc]; omega
  clear hb8 hb9 HI7 HR7 HL7
  generalize W8.alloc (.cells T0 24) = W9 at *
  refine (rtable_any _).mono ?_
  rintro e W10 ⟨rfl, hb10⟩
  rw [show tarr ((List.range 256).map entry) = T0 from rfl]
  have HI10 := Lib.hid (HI9.out.below hb10 (Nat.le_refl _))
  have HR10 := Lib.hid (HR9.out.below hb10 (Nat.le_refl _))
  have HL10 := Lib.hid (HL9.out.trans (hb10.mono HL9.out.size))
  have HG10 : Hid (W10.heap[W8.heap.size]? = some (.cells T0 24 (0, 0))) := (hb10.block _ hlt9).trans HG9.out
  have HT10 := Lib.hid (HT9.out.below hb10 hlt9)
  have hlt10 : W8.heap.size < W10.heap.size := Nat.lt_of_lt_of_le hlt9 hb10.size
  clear hb10 HI9 HR9 HL9 HG9 HT9 hlt9
  go_wp2_with (
    (with_reducible refine wpList_store_new (o := ⟨none, .store 24 (.tmp 21) (.tmp 116), _, _, _, _⟩) ?_ 24 (.tmp 21) (.tmp 116) ?_ T0 Z ?_ ?_ 24 size24' HZ.out T0_one ?_)
    case refine_1 => rfl
    case refine_2 => rfl
    case refine_3 => rfl
    case refine_4 => rfl)
  have HT11 := Lib.hid (TabBlk.new W10)
  have HB11 := Lib.hid ((Below.refl W10.heap.size W10).alloc (Nat.le_refl _) (.cells T0 24))
  clear hz
  generalize W10.alloc (.cells T0 24) = W11 at *
  go_loopw [117] (fun i wr => ∃ k : Nat, k ≤ 256 ∧ i = .int .i64 k ∧ Hid (TabBlk wr W10.heap.size (od s k)) ∧ Hid (Below W10.heap.size W10 wr)) (fun i _ => 256 - (intOf i).toNat)
  case atStart => exact ⟨0, by omega, rfl, HT11.out, HB11.out⟩
  case round =>
    obtain ⟨k, hk, rfl, HT, HB⟩ := hrel
    clear HT11 HB11
    by_cases hlt : k < 256
    · obtain ⟨hE, hcE⟩ := HT.out.cell hlt
      have hfz := HT.out.frozen k
      have hoe : od s k k = entry k := by unfold od; rw [if_neg (by omega)]
      rw [hoe] at hE hcE
      obtain ⟨M, hM⟩ : ∃ M, (s * k) % 4294967296 = M := ⟨_, rfl⟩
      obtain ⟨X, hX⟩ : ∃ X, (entry k + (s * k) % 4294967296) % 4294967296 = X := ⟨_, rfl⟩
      have hXl : X < 4294967296 := by rw [← hX]; exact Nat.mod_lt _ (by omega)
      have HS := Lib.hid (od_step s k X hX)
      generalize entry k = E at *
      have hM' : ((s : Int) * (k : Int)) % 4294967296 = (M : Int) := by rw [← Int.natCast_mul, ← hM]; generalize s * k = q; omega
      have hX' : ((E : Int) + (M : Int)) % 4294967296 = (X : Int) := by rw [← hX, hM]; omega
      have hk1 : (k : Int) < 256 := by omega
      clear hM hX hoe
      go_wp2
      go_roundw
      case rel => exact ⟨k + 1, by omega, by go_num, HT.out.set_ k X hXl HS.out, HB.out.setCell (by simp) _⟩
      case measure => simp [intOf]; omega
    · have hkk : k = 256 := by omega
      have HI11 := Lib.hid (HI10.out.below HB.out (Nat.le_refl _))
      have HR11 := Lib.hid (HR10.out.below HB.out (Nat.le_refl _))
      have HL11 := Lib.hid (HL10.out.trans (HB.out.mono HL10.out.size))
      have HG11 : Hid (wr.heap[W8.heap.size]? = some (.cells T0 24 (0, 0))) := (HB.out.block _ hlt10).trans HG10.out
      have HT11 := Lib.hid (HT10.out.below HB.out hlt10)
      have hltw := HT11.out.lt
      have hltv := HT.out.lt
      clear hkk HI10 HR10 HL10 HG10 HT10 HB hk
      go_wp2_with fail
      have HB12 := Lib.hid ((Below.refl wr.heap.size wr).alloc (Nat.le_refl _) (.cells #[.pointer (some ⟨W8.heap.size, 0, none⟩), .pointer (some ⟨W10.heap.size, 0, none⟩), .pointer none] 40))
      have HC12 : Hid (∀ j : Nat, (wr.alloc (.cells #[.pointer (some ⟨W8.heap.size, 0, none⟩), .pointer (some ⟨W10.heap.size, 0, none⟩), .pointer none] 40)).cell? ⟨wr.heap.size, j, none⟩ = (#[.pointer (some ⟨W8.heap.size, 0, none⟩), .pointer (some ⟨W10.heap.size, 0, none⟩), .pointer none] : Array Value)[j]?) := fun j => cell_of_row _ wr.heap.size j _ 40 (0, 0) (heap_alloc_new wr _)
      have hlts : wr.heap.size < (wr.alloc (.cells #[.pointer (some ⟨W8.heap.size, 0, none⟩), .pointer (some ⟨W10.heap.size, 0, none⟩), .pointer none] 40)).heap.size := by rw [size_alloc]; omega
      generalize wr.alloc (.cells #[.pointer (some ⟨W8.heap.size, 0, none⟩), .pointer (some ⟨W10.heap.size, 0, none⟩), .pointer none] 40) = W12 at *
      have HI12 := Lib.hid (HI11.out.below HB12.out (Nat.le_refl _))
      have HR12 := Lib.hid (HR11.out.below HB12.out (Nat.le_refl _))
      have HL12 := Lib.hid (HL11.out.trans (HB12.out.mono HL11.out.size))
      have HG12 : Hid (W12.heap[W8.heap.size]? = some (.cells T0 24 (0, 0))) := (HB12.out.block _ hltw).trans HG11.out
      have HT12 := Lib.hid (HT11.out.below HB12.out hltw)
      have HV12 := Lib.hid (HT.out.below HB12.out hltv)
      clear HI11 HR11 HL11 HG11 HT11 HT HB12
      obtain ⟨V, hVe⟩ : ∃ V, V = wr := ⟨_, rfl⟩
      subst hVe
      go_loopw [132] (fun i wr => ∃ j : Nat, j ≤ 3 ∧ i = .int .i64 j ∧ Hid (Below W12.heap.size W12 wr)) (fun i _ => 3 - (intOf i).toNat)
      case atStart => exact ⟨0, by omega, rfl, Below.refl _ _⟩
      case round =>
        obtain ⟨j, hj, rfl, HB⟩ := hrel
        by_cases hlj : j < 3
        · obtain ⟨p, hp, hok⟩ : ∃ p, wr.cell? ⟨V.heap.size, j, none⟩ = some (.pointer p) ∧ PtrOk W12 p := by
            rw [HB.out.cell (p := ⟨V.heap.size, j, none⟩) hlts, HC12.out j]
            obtain rfl | rfl | rfl : j = 0 ∨ j = 1 ∨ j = 2 := by omega
            · exact ⟨_, rfl, .inr ⟨_, _, rfl, HT12.out.lt, HT12.out.tab⟩⟩
            · exact ⟨_, rfl, .inr ⟨_, _, rfl, HV12.out.lt, HV12.out.tab⟩⟩
            · exact ⟨_, rfl, .inl rfl⟩
          obtain ⟨⟨z1, z2⟩, S, L, h6⟩ := ptr_all W12 p n l hok hn
          have H6 := Lib.hid h6
          clear h6 hok
          have hj0 : (0 : Int) ≤ (j : Int) := by omega
          have hj3 : (j : Int) < 3 := by omega
          have HIa := Lib.hid (HI12.out.below HB.out (Nat.le_refl _))
          have HRa := Lib.hid (HR12.out.below HB.out (Nat.le_refl _))
          go_wp2_with fail
          refine ((H6.out _ HB.out).un A1 c1 HIa.out hcap).mono ?_
          rintro e X1 ⟨Av, nv, cv, rfl, hrv, hnv, hx1⟩
          dsimp only at hrv ⊢
          have HIb := Lib.hid (HIa.out.below hx1 (Nat.le_refl _))
          have HRb := Lib.hid (HRa.out.below hx1 (Nat.le_refl _))
          have HBb := Lib.hid (HB.out.trans (hx1.mono HB.out.size))
          have HVb := Lib.hid hrv
          clear hrv hnv hx1 HIa HRa HB hp
          go_wp2_with fail
          refine ((H6.out _ HBb.out).run A c HRb.out hc).mono ?_
          rintro e X2 ⟨Az, nz, cz, rfl, hrz, hx2⟩
          dsimp only at hrz ⊢
          have HIc := Lib.hid (HIb.out.below hx2 (Nat.le_refl _))
          have HRc := Lib.hid (HRb.out.below hx2 (Nat.le_refl _))
          have HBc := Lib.hid (HBb.out.trans (hx2.mono HBb.out.size))
          have HVc := Lib.hid (HVb.out.below hx2 (Nat.le_refl _))
          have HZc := Lib.hid hrz
          clear hrz hx2 HIb HRb HBb HVb
          go_wp2_with fail
          refine wp_region_held_drew (S := fun w' => Rd w' Av nv z1 ∧ Rd w' Az nz z1) (by kernel_rfl) (⟨HVc.out.drew, HZc.out.drew⟩) (fun hHeld => ?_)
          refine wpAnyH_take (i := 0) (oi := ⟨some 148, _, _, _, _, _⟩) (v := ?_) rfl (by kernel_rfl) (by kernel_rfl) (by kernel_rfl) (fun _ _ _ h => h) (Or.inl ⟨by rfl, ?_⟩) (by assumption) ?_
          rotate_left
          · intro w hSw
            (try dsimp only at hSw)
            go_simp
            all_goals (with_reducible rfl)
          try simp only [Act.put, List.setIfInBounds_toArray, List.set_cons_zero, List.set_cons_succ]
          refine wpAnyH_take (i := 1) (oi := ⟨some 149, _, _, _, _, _⟩) (v := ?_) rfl (by kernel_rfl) (by kernel_rfl) (by kernel_rfl) (fun _ _ _ h => h) (Or.inl ⟨by rfl, ?_⟩) (by assumption) ?_
          rotate_left
          · intro w hSw
            (try dsimp only at hSw)
            go_simp
            all_goals (with_reducible rfl)
          try simp only [Act.put, List.setIfInBounds_toArray, List.set_cons_zero, List.set_cons_succ]
          refine wpAnyH_take (i := 3) (oi := ⟨some 151, _, _, _, _, _⟩) (v := ?_) rfl (by kernel_rfl) (by kernel_rfl) (by kernel_rfl) (fun _ _ _ h => h) (Or.inl ⟨by rfl, ?_⟩) (by assumption) ?_
          rotate_left
          · intro w hSw
            (try dsimp only at hSw)
            go_simp
            all_goals (with_reducible rfl)
          try simp only [Act.put, List.setIfInBounds_toArray, List.set_cons_zero, List.set_cons_succ]
          refine wpAnyH_take (i := 4) (oi := ⟨some 152, _, _, _, _, _⟩) (v := ?_) rfl (by kernel_rfl) (by kernel_rfl) (by kernel_rfl) (fun _ _ _ h => h) (Or.inl ⟨by rfl, ?_⟩) (by assumption) ?_
          rotate_left
          · intro w hSw
            (try dsimp only at hSw)
            go_simp
            all_goals (with_reducible rfl)
          try simp only [Act.put, List.setIfInBounds_toArray, List.set_cons_zero, List.set_cons_succ]
          have hH5 := hHeld
          refine wpAnyH_ready (rs := [2]) (by kernel_rfl) (by simp) (AllReadyH.cons (o := ⟨some 150, _, _, _, _, _⟩) rfl (fun K hK => ?_) AllReadyH.nil)
          go_simp
          refine ((H6.out _ (show Below W12.heap.size W12 X2.drew from ⟨HBc.out.os, HBc.out.tape, HBc.out.output, HBc.out.size, HBc.out.block⟩)).sum A1 c1 HIc.out.drew).mono ?_
          rintro e w2 ⟨rfl, rfl⟩
          refine hK.out _ _ (hH5) (fun hHeld => ?_)
          clear hK K
          try simp only [Act.put, List.setIfInBounds_toArray, List.set_cons_zero, List.set_cons_succ]
          clear hH5
          have hH6 := hHeld
          refine wpAnyH_ready (rs := [5]) (by kernel_rfl) (by simp) (AllReadyH.cons (o := ⟨some 153, _, _, _, _, _⟩) rfl (fun K hK => ?_) AllReadyH.nil)
          go_simp
          refine ((H6.out _ (show Below W12.heap.size W12 X2.drew from ⟨HBc.out.os, HBc.out.tape, HBc.out.output, HBc.out.size, HBc.out.block⟩)).rsum A c HRc.out.drew).mono ?_
          rintro e w2 ⟨rfl, rfl⟩
          refine hK.out _ _ (hH6) (fun hHeld => ?_)
          clear hK K
          try simp only [Act.put, List.setIfInBounds_toArray, List.set_cons_zero, List.set_cons_succ]
          clear hH6
          refine wpAnyH_take (i := 6) (oi := ⟨some 154, _, _, _, _, _⟩) (v := ?_) rfl (by kernel_rfl) (by kernel_rfl) (by kernel_rfl) (fun _ _ _ h => h) (Or.inl ⟨by rfl, ?_⟩) (by assumption) ?_
          rotate_left
          · intro w hSw
            (try dsimp only at hSw)
            go_simp
            all_goals (with_reducible rfl)
          try simp only [Act.put, List.setIfInBounds_toArray, List.set_cons_zero, List.set_cons_succ]
          refine wpAnyH_take (i := 7) (oi := ⟨some 155, _, _, _, _, _⟩) (v := ?_) rfl (by kernel_rfl) (by kernel_rfl) (by kernel_rfl) (fun _ _ _ h => h) (Or.inl ⟨by rfl, ?_⟩) (by assumption) ?_
          rotate_left
          · intro w hSw
            (try dsimp only at hSw)
            go_simp
            all_goals (with_reducible rfl)
          try simp only [Act.put, List.setIfInBounds_toArray, List.set_cons_zero, List.set_cons_succ]
          refine wpAnyH_take (i := 8) (oi := ⟨some 156, _, _, _, _, _⟩) (v := ?_) rfl (by kernel_rfl) (by kernel_rfl) (by kernel_rfl) (fun _ _ _ h => h) (Or.inl ⟨by rfl, ?_⟩) (by assumption) ?_
          rotate_left
          · intro w hSw
            (try dsimp only at hSw)
            go_simp
            all_goals (with_reducible rfl)
          try simp only [Act.put, List.setIfInBounds_toArray, List.set_cons_zero, List.set_cons_succ]
          refine wpAnyH_take (i := 9) (oi := ⟨some 157, _, _, _, _, _⟩) (v := ?_) rfl (by kernel_rfl) (by kernel_rfl) (by kernel_rfl) (fun _ _ _ h => h) (Or.inl ⟨by rfl, ?_⟩) (by assumption) ?_
          rotate_left
          · intro w hSw
            (try dsimp only at hSw)
            go_simp
            all_goals (with_reducible rfl)
          try simp only [Act.put, List.setIfInBounds_toArray, List.set_cons_zero, List.set_cons_succ]
          refine wpAnyH_take (i := 12) (oi := ⟨some 160, _, _, _, _, _⟩) (v := ?_) rfl (by kernel_rfl) (by kernel_rfl) (by kernel_rfl) (fun _ _ _ h => h) (Or.inl ⟨by rfl, ?_⟩) (by assumption) ?_
          rotate_left
          · intro w hSw
            (try dsimp only at hSw)
            go_simp
            all_goals (with_reducible rfl)
          try simp only [Act.put, List.setIfInBounds_toArray, List.set_cons_zero, List.set_cons_succ]
          refine wpAnyH_take (i := 13) (oi := ⟨some 161, _, _, _, _, _⟩) (v := ?_) rfl (by kernel_rfl) (by kernel_rfl) (by kernel_rfl) (fun _ _ _ h => h) (Or.inl ⟨by rfl, ?_⟩) (by assumption) ?_
          rotate_left
          · intro w hSw
            (try dsimp only at hSw)
            go_simp
            all_goals (with_reducible rfl)
          try simp only [Act.put, List.setIfInBounds_toArray, List.set_cons_zero, List.set_cons_succ]
          have hH7 := hHeld
          refine wpAnyH_ready (rs := [10]) (by kernel_rfl) (by simp) (AllReadyH.cons (o := ⟨some 158, _, _, _, _, _⟩) rfl (fun K hK => ?_) AllReadyH.nil)
          go_simp
          refine ((H6.out _ (show Below W12.heap.size W12 X2.drew from ⟨HBc.out.os, HBc.out.tape, HBc.out.output, HBc.out.size, HBc.out.block⟩)).sl A1 c1 HIc.out.drew).mono ?_
          rintro e X3 ⟨As, cs, rfl, hos, hx3⟩
          refine hK.out _ _ (⟨hH7.1.below hx3 (Nat.le_refl _), hH7.2.below hx3 (Nat.le_refl _)⟩) (fun hHeld => ?_)
          clear hK K
          clear hHeld
          have hHeld := (⟨hos.rd, hH7.1.below hx3 (Nat.le_refl _), hH7.2.below hx3 (Nat.le_refl _)⟩ : Rd X3 As (n + 4) L ∧ Rd X3 Av nv z1 ∧ Rd X3 Az nz z1)
          refine wpAnyH_stronger (S' := fun w' => Rd w' As (n + 4) L ∧ Rd w' Av nv z1 ∧ Rd w' Az nz z1) (fun _ h => h.2) _ _ _ _ ?_
          try simp only [Act.put, List.setIfInBounds_toArray, List.set_cons_zero, List.set_cons_succ]
          clear hH7
          have HRd := Lib.hid (HRc.out.drew.below hx3 (Nat.le_refl _))
          have HBd : Hid (Below W12.heap.size W12 X3) := (show Below W12.heap.size W12 X2.drew from ⟨HBc.out.os, HBc.out.tape, HBc.out.output, HBc.out.size, HBc.out.block⟩).trans (hx3.mono HBc.out.size)
          clear hos hx3
          refine wpAnyH_take (i := 11) (oi := ⟨some 159, _, _, _, _, _⟩) (v := ?_) rfl (by kernel_rfl) (by kernel_rfl) (by kernel_rfl) (fun _ _ _ h => h) (Or.inl ⟨by rfl, ?_⟩) (by assumption) ?_
          rotate_left
          · intro w hSw
            have kc := conv_str (P := Try.prog) Try.underlying32 Try.underlying5 Try.underlying9 (hSw.1) cs
            go_simp
            all_goals (with_reducible rfl)
          try simp only [Act.put, List.setIfInBounds_toArray, List.set_cons_zero, List.set_cons_succ]
          have hH8 := hHeld
          refine wpAnyH_ready (rs := [14]) (by kernel_rfl) (by simp) (AllReadyH.cons (o := ⟨some 162, _, _, _, _, _⟩) rfl (fun K hK => ?_) AllReadyH.nil)
          go_simp
          refine ((H6.out _ HBd.out).rsl A c HRd.out).mono ?_
          rintro e X4 ⟨At, ct, rfl, hrt, hx4⟩
          refine hK.out _ _ (⟨hH8.1.below hx4 (Nat.le_refl _), hH8.2.1.below hx4 (Nat.le_refl _), hH8.2.2.below hx4 (Nat.le_refl _)⟩) (fun hHeld => ?_)
          clear hK K
          clear hHeld
          have hHeld := (⟨hrt, hH8.1.below hx4 (Nat.le_refl _), hH8.2.1.below hx4 (Nat.le_refl _), hH8.2.2.below hx4 (Nat.le_refl _)⟩ : Rd X4 At (n + 4) L ∧ Rd X4 As (n + 4) L ∧ Rd X4 Av nv z1 ∧ Rd X4 Az nz z1)
          refine wpAnyH_stronger (S' := fun w' => Rd w' At (n + 4) L ∧ Rd w' As (n + 4) L ∧ Rd w' Av nv z1 ∧ Rd w' Az nz z1) (fun _ h => h.2) _ _ _ _ ?_
          try simp only [Act.put, List.setIfInBounds_toArray, List.set_cons_zero, List.set_cons_succ]
          clear hH8
          have HBe := Lib.hid (HBd.out.trans (hx4.mono HBd.out.size))
          clear hrt hx4
          refine wpAnyH_take (i := 15) (oi := ⟨some 163, _, _, _, _, _⟩) (v := ?_) rfl (by kernel_rfl) (by kernel_rfl) (by kernel_rfl) (fun _ _ _ h => h) (Or.inl ⟨by rfl, ?_⟩) (by assumption) ?_
          rotate_left
          · intro w hSw
            have kc := conv_str (P := Try.prog) Try.underlying32 Try.underlying5 Try.underlying9 (hSw.1) ct
            go_simp
            all_goals (with_reducible rfl)
          try simp only [Act.put, List.setIfInBounds_toArray, List.set_cons_zero, List.set_cons_succ]
          refine wpAnyH_take (i := 16) (oi := ⟨some 164, _, _, _, _, _⟩) (v := ?_) rfl (by kernel_rfl) (by kernel_rfl) (by kernel_rfl) (fun _ _ _ h => h) (Or.inl ⟨by rfl, ?_⟩) (by assumption) ?_
          rotate_left
          · intro w hSw
            (try dsimp only at hSw)
            go_simp
            all_goals (with_reducible rfl)
          try simp only [Act.put, List.setIfInBounds_toArray, List.set_cons_zero, List.set_cons_succ]
          refine wpAnyH_take (i := 17) (oi := ⟨some 165, _, _, _, _, _⟩) (v := ?_) rfl (by kernel_rfl) (by kernel_rfl) (by kernel_rfl) (fun _ _ _ h => h) (Or.inl ⟨by rfl, ?_⟩) (by assumption) ?_
          rotate_left
          · intro w hSw
            (try dsimp only at hSw)
            go_simp
            all_goals (with_reducible rfl)
          try simp only [Act.put, List.setIfInBounds_toArray, List.set_cons_zero, List.set_cons_succ]
          refine wpAnyH_take (i := 18) (oi := ⟨some 166, _, _, _, _, _⟩) (v := ?_) rfl (by kernel_rfl) (by kernel_rfl) (by kernel_rfl) (fun _ _ _ h => h) (Or.inl ⟨by rfl, ?_⟩) (by assumption) ?_
          rotate_left
          · intro w hSw
            (try dsimp only at hSw)
            go_simp
            all_goals (with_reducible rfl)
          try simp only [Act.put, List.setIfInBounds_toArray, List.set_cons_zero, List.set_cons_succ]
          refine wpAnyH_take (i := 19) (oi := ⟨some 167, _, _, _, _, _⟩) (v := ?_) rfl (by kernel_rfl) (by kernel_rfl) (by kernel_rfl) (fun _ _ _ h => h) (Or.inl ⟨by rfl, ?_⟩) (by assumption) ?_
          rotate_left
          · intro w hSw
            (try dsimp only at hSw)
            go_simp
            all_goals (with_reducible rfl)
          try simp only [Act.put, List.setIfInBounds_toArray, List.set_cons_zero, List.set_cons_succ]
          refine wpAnyH_take (i := 20) (oi := ⟨some 168, _, _, _, _, _⟩) (v := ?_) rfl (by kernel_rfl) (by kernel_rfl) (by kernel_rfl) (fun _ _ _ h => h) (Or.inl ⟨by rfl, ?_⟩) (by assumption) ?_
          rotate_left
          · intro w hSw
            have kc := conv_str (P := Try.prog) Try.underlying32 Try.underlying5 Try.underlying9 (hSw.2.2.1) cv
            go_simp
            all_goals (with_reducible rfl)
          try simp only [Act.put, List.setIfInBounds_toArray, List.set_cons_zero, List.set_cons_succ]
          refine wpAnyH_take (i := 21) (oi := ⟨some 169, _, _, _, _, _⟩) (v := ?_) rfl (by kernel_rfl) (by kernel_rfl) (by kernel_rfl) (fun _ _ _ h => h) (Or.inl ⟨by rfl, ?_⟩) (by assumption) ?_
          rotate_left
          · intro w hSw
            (try dsimp only at hSw)
            go_simp
            all_goals (with_reducible rfl)
          try simp only [Act.put, List.setIfInBounds_toArray, List.set_cons_zero, List.set_cons_succ]
          refine wpAnyH_take (i := 22) (oi := ⟨some 170, _, _, _, _, _⟩) (v := ?_) rfl (by kernel_rfl) (by kernel_rfl) (by kernel_rfl) (fun _ _ _ h => h) (Or.inl ⟨by rfl, ?_⟩) (by assumption) ?_
          rotate_left
          · intro w hSw
            have kc := conv_str (P := Try.prog) Try.underlying32 Try.underlying5 Try.underlying9 (hSw.2.2.2) cz
            go_simp
            all_goals (with_reducible rfl)
          try simp only [Act.put, List.setIfInBounds_toArray, List.set_cons_zero, List.set_cons_succ]
          refine wpAnyH_take (i := 23) (oi := ⟨some 171, _, _, _, _, _⟩) (v := ?_) rfl (by kernel_rfl) (by kernel_rfl) (by kernel_rfl) (fun _ _ _ h => h) (Or.inl ⟨by rfl, ?_⟩) (by assumption) ?_
          rotate_left
          · intro w hSw
            (try dsimp only at hSw)
            go_simp
            all_goals (with_reducible rfl)
          try simp only [Act.put, List.setIfInBounds_toArray, List.set_cons_zero, List.set_cons_succ]
          refine wpAnyH_take (i := 24) (oi := ⟨some 172, _, _, _, _, _⟩) (v := ?_) rfl (by kernel_rfl) (by kernel_rfl) (by kernel_rfl) (fun _ _ _ h => h) (Or.inl ⟨by rfl, ?_⟩) (by assumption) ?_
          rotate_left
          · intro w hSw
            (try dsimp only at hSw)
            go_simp
            all_goals (with_reducible rfl)
          try simp only [Act.put, List.setIfInBounds_toArray, List.set_cons_zero, List.set_cons_succ]
          refine wpAnyH_take (i := 25) (oi := ⟨some 173, _, _, _, _, _⟩) (v := ?_) rfl (by kernel_rfl) (by kernel_rfl) (by kernel_rfl) (fun _ _ _ h => h) (Or.inl ⟨by rfl, ?_⟩) (by assumption) ?_
          rotate_left
          · intro w hSw
            (try dsimp only at hSw)
            go_simp
            all_goals (with_reducible rfl)
          try simp only [Act.put, List.setIfInBounds_toArray, List.set_cons_zero, List.set_cons_succ]
          refine wpAnyH_take (i := 26) (oi := ⟨some 174, _, _, _, _, _⟩) (v := ?_) rfl (by kernel_rfl) (by kernel_rfl) (by kernel_rfl) (fun _ _ _ h => h) (Or.inl ⟨by rfl, ?_⟩) (by assumption) ?_
          rotate_left
          · intro w hSw
            (try dsimp only at hSw)
            go_simp
            all_goals (with_reducible rfl)
          try simp only [Act.put, List.setIfInBounds_toArray, List.set_cons_zero, List.set_cons_succ]
          refine wpAnyH_take (i := 27) (oi := ⟨some 175, _, _, _, _, _⟩) (v := ?_) rfl (by kernel_rfl) (by kernel_rfl) (by kernel_rfl) (fun _ _ _ h => h) (Or.inl ⟨by rfl, ?_⟩) (by assumption) ?_
          rotate_left
          · intro w hSw
            (try dsimp only at hSw)
            go_simp
            all_goals (with_reducible rfl)
          try simp only [Act.put, List.setIfInBounds_toArray, List.set_cons_zero, List.set_cons_succ]
          refine wpAnyH_take (i := 28) (oi := ⟨some 176, _, _, _, _, _⟩) (v := ?_) rfl (by kernel_rfl) (by kernel_rfl) (by kernel_rfl) (fun _ _ _ h => h) (Or.inl ⟨by rfl, ?_⟩) (by assumption) ?_
          rotate_left
          · intro w hSw
            (try dsimp only at hSw)
            go_simp
            all_goals (with_reducible rfl)
          try simp only [Act.put, List.setIfInBounds_toArray, List.set_cons_zero, List.set_cons_succ]
          refine wpAnyH_take (i := 29) (oi := ⟨some 177, _, _, _, _, _⟩) (v := ?_) rfl (by kernel_rfl) (by kernel_rfl) (by kernel_rfl) (fun _ _ _ h => h) (Or.inl ⟨by rfl, ?_⟩) (by assumption) ?_
          rotate_left
          · intro w hSw
            (try dsimp only at hSw)
            go_simp
            all_goals (with_reducible rfl)
          try simp only [Act.put, List.setIfInBounds_toArray, List.set_cons_zero, List.set_cons_succ]
          refine wpAnyH_done (by kernel_rfl) ?_ _
          clear hHeld
          go_wp2
          go_roundw
          case rel => exact ⟨j + 1, by omega, by go_num, HBe⟩
          case measure => simp [intOf]; omega
        · have HIa := Lib.hid (HI12.out.below HB.out (Nat.le_refl _))
          have HRa := Lib.hid (HR12.out.below HB.out (Nat.le_refl _))
          have HLa := Lib.hid (HL12.out.trans (HB.out.mono HL12.out.size))
          have hl12 := HT12.out.lt
          have HGa : Hid (wr.heap[W8.heap.size]? = some (.cells T0 24 (0, 0))) := (HB.out.block _ hl12).trans HG12.out
          have HTa := Lib.hid (HT12.out.below HB.out hl12)
          have hla := HTa.out.lt
          obtain ⟨C, hC⟩ : ∃ C, crc entry l = C := ⟨_, rfl⟩
          have HCc := Lib.hid hC
          clear hC hj
          go_wp2_with fail
          refine wp_region_held_drew (S := fun w' => w'.heap[W8.heap.size]? = some (.cells T0 24 (0, 0)) ∧ Rd w' A1 n l ∧ Rd w' A n l) (by kernel_rfl) (⟨HGa.out, HIa.out.drew, HRa.out.drew⟩) (fun hHeld => ?_)
          refine wpAnyH_take (i := 0) (oi := ⟨some 179, _, _, _, _, _⟩) (v := ?_) rfl (by kernel_rfl) (by kernel_rfl) (by kernel_rfl) (fun _ _ _ h => h) (Or.inl ⟨by rfl, ?_⟩) (by assumption) ?_
          rotate_left
          · intro w hSw
            (try dsimp only at hSw)
            go_simp
            all_goals (with_reducible rfl)
          try simp only [Act.put, List.setIfInBounds_toArray, List.set_cons_zero, List.set_cons_succ]
          refine wpAnyH_take (i := 2) (oi := ⟨some 181, _, _, _, _, _⟩) (v := ?_) rfl (by kernel_rfl) (by kernel_rfl) (by kernel_rfl) (fun _ _ _ h => h) (Or.inl ⟨by rfl, ?_⟩) (by assumption) ?_
          rotate_left
          · intro w hSw
            (try dsimp only at hSw)
            go_simp
            all_goals (with_reducible rfl)
          try simp only [Act.put, List.setIfInBounds_toArray, List.set_cons_zero, List.set_cons_succ]
          have hH1 := hHeld
          refine wpAnyH_ready (rs := [1]) (by kernel_rfl) (by simp) (AllReadyH.cons (o := ⟨some 180, _, _, _, _, _⟩) rfl (fun K hK => ?_) AllReadyH.nil)
          go_simp
          have G1 := sum_any ⟨W8.heap.size, 0, none⟩ entry A n c l wr.drew HTa.out.tab HRa.out.drew (by omega)
          rw [HCc.out] at G1
          refine G1.mono ?_
          rintro e w2 ⟨rfl, rfl⟩
          clear G1
          refine hK.out _ _ (hH1) (fun hHeld => ?_)
          clear hK K
          try simp only [Act.put, List.setIfInBounds_toArray, List.set_cons_zero, List.set_cons_succ]
          clear hH1
          have hH1 := hHeld
          refine wpAnyH_ready (rs := [3]) (by kernel_rfl) (by simp) (AllReadyH.cons (o := ⟨some 182, _, _, _, _, _⟩) rfl (fun K hK => ?_) AllReadyH.nil)
          go_simp
          have G1 := bits_any A n c l wr.drew HRa.out.drew (by omega)
          rw [HCc.out] at G1
          refine G1.mono ?_
          rintro e X1 ⟨rfl, hx1⟩
          clear G1
          refine hK.out _ _ (⟨(hx1.block _ hla).trans hH1.1, hH1.2.1.below hx1 (Nat.le_refl _), hH1.2.2.below hx1 (Nat.le_refl _)⟩) (fun hHeld => ?_)
          clear hK K
          try simp only [Act.put, List.setIfInBounds_toArray, List.set_cons_zero, List.set_cons_succ]
          clear hH1
          have HLb : Hid (Below w.heap.size w X1) := (show Below w.heap.size w wr.drew from ⟨HLa.out.os, HLa.out.tape, HLa.out.output, HLa.out.size, HLa.out.block⟩).trans (hx1.mono HLa.out.size)
          have hlb : W8.heap.size < X1.heap.size := Nat.lt_of_lt_of_le hla hx1.size
          clear hx1
          refine wpAnyH_take (i := 4) (oi := ⟨some 183, _, _, _, _, _⟩) (v := ?_) rfl (by kernel_rfl) (by kernel_rfl) (by kernel_rfl) (fun _ _ _ h => h) (Or.inl ⟨by rfl, ?_⟩) (by assumption) ?_
          rotate_left
          · intro w hSw
            (try dsimp only at hSw)
            go_simp
            all_goals (with_reducible rfl)
          try simp only [Act.put, List.setIfInBounds_toArray, List.set_cons_zero, List.set_cons_succ]
          refine wpAnyH_take (i := 5) (oi := ⟨some 184, _, _, _, _, _⟩) (v := ?_) rfl (by kernel_rfl) (by kernel_rfl) (by kernel_rfl) (fun _ _ _ h => h) (Or.inl ⟨by rfl, ?_⟩) (by assumption) ?_
          rotate_left
          · intro w hSw
            (try dsimp only at hSw)
            go_simp
            all_goals (with_reducible rfl)
          try simp only [Act.put, List.setIfInBounds_toArray, List.set_cons_zero, List.set_cons_succ]
          refine wpAnyH_take (i := 6) (oi := ⟨some 185, _, _, _, _, _⟩) (v := .agg T0) rfl (by kernel_rfl) (by kernel_rfl) (by kernel_rfl) (fun _ _ _ h => h) (yieldsIf_load_row (by rfl) 24 (.tmp 20) rfl W8.heap.size rfl 24 T0 (0, 0) _ (fun _ h => h.1) Try.underlying24 rfl size24') (by assumption) ?_
          try simp only [Act.put, List.setIfInBounds_toArray, List.set_cons_zero, List.set_cons_succ]
          have hH1 := hHeld
          refine wpAnyH_ready (rs := [7]) (by kernel_rfl) (by simp) (AllReadyH.cons (o := ⟨some 186, _, _, _, _, _⟩) rfl (fun K hK => ?_) AllReadyH.nil)
          go_simp
          refine (rtable_any _).mono ?_
          rintro e X2 ⟨rfl, hx2⟩
          rw [show tarr ((List.range 256).map entry) = T0 from rfl]
          refine hK.out _ _ (⟨(hx2.block _ hlb).trans hH1.1, hH1.2.1.below hx2 (Nat.le_refl _), hH1.2.2.below hx2 (Nat.le_refl _)⟩) (fun hHeld => ?_)
          clear hK K
          try simp only [Act.put, List.setIfInBounds_toArray, List.set_cons_zero, List.set_cons_succ]
          clear hH1
          have HLc := Lib.hid (HLb.out.trans (hx2.mono HLb.out.size))
          have hlc : W8.heap.size < X2.heap.size := Nat.lt_of_lt_of_le hlb hx2.size
          clear hx2
          refine wpAnyH_take (i := 8) (oi := ⟨some 187, _, _, _, _, _⟩) (v := ?_) rfl (by kernel_rfl) (by kernel_rfl) (by kernel_rfl) (fun _ _ _ h => h) (Or.inl ⟨by rfl, ?_⟩) (by assumption) ?_
          rotate_left
          · intro w hSw
            have keq := eq_T0 w
            go_simp
            all_goals (with_reducible rfl)
          try simp only [Act.put, List.setIfInBounds_toArray, List.set_cons_zero, List.set_cons_succ]
          refine wpAnyH_take (i := 9) (oi := ⟨some 188, _, _, _, _, _⟩) (v := ?_) rfl (by kernel_rfl) (by kernel_rfl) (by kernel_rfl) (fun _ _ _ h => h) (Or.inl ⟨by rfl, ?_⟩) (by assumption) ?_
          rotate_left
          · intro w hSw
            (try dsimp only at hSw)
            go_simp
            all_goals (with_reducible rfl)
          try simp only [Act.put, List.setIfInBounds_toArray, List.set_cons_zero, List.set_cons_succ]
          refine wpAnyH_take (i := 10) (oi := ⟨some 189, _, _, _, _, _⟩) (v := ?_) rfl (by kernel_rfl) (by kernel_rfl) (by kernel_rfl) (fun _ _ _ h => h) (Or.inl ⟨by rfl, ?_⟩) (by assumption) ?_
          rotate_left
          · intro w hSw
            (try dsimp only at hSw)
            go_simp
            all_goals (with_reducible rfl)
          try simp only [Act.put, List.setIfInBounds_toArray, List.set_cons_zero, List.set_cons_succ]
          refine wpAnyH_take (i := 11) (oi := ⟨some 190, _, _, _, _, _⟩) (v := ?_) rfl (by kernel_rfl) (by kernel_rfl) (by kernel_rfl) (fun _ _ _ h => h) (Or.inl ⟨by rfl, ?_⟩) (by assumption) ?_
          rotate_left
          · intro w hSw
            (try dsimp only at hSw)
            go_simp
            all_goals (with_reducible rfl)
          try simp only [Act.put, List.setIfInBounds_toArray, List.set_cons_zero, List.set_cons_succ]
          refine wpAnyH_take (i := 12) (oi := ⟨some 191, _, _, _, _, _⟩) (v := ?_) rfl (by kernel_rfl) (by kernel_rfl) (by kernel_rfl) (fun _ _ _ h => h) (Or.inl ⟨by rfl, ?_⟩) (by assumption) ?_
          rotate_left
          · intro w hSw
            have kc := conv_str (P := Try.prog) Try.underlying32 Try.underlying5 Try.underlying9 (hSw.2.1) c1
            go_simp
            all_goals (with_reducible rfl)
          try simp only [Act.put, List.setIfInBounds_toArray, List.set_cons_zero, List.set_cons_succ]
          refine wpAnyH_take (i := 13) (oi := ⟨some 192, _, _, _, _, _⟩) (v := ?_) rfl (by kernel_rfl) (by kernel_rfl) (by kernel_rfl) (fun _ _ _ h => h) (Or.inl ⟨by rfl, ?_⟩) (by assumption) ?_
          rotate_left
          · intro w hSw
            (try dsimp only at hSw)
            go_simp
            all_goals (with_reducible rfl)
          try simp only [Act.put, List.setIfInBounds_toArray, List.set_cons_zero, List.set_cons_succ]
          refine wpAnyH_take (i := 14) (oi := ⟨some 193, _, _, _, _, _⟩) (v := ?_) rfl (by kernel_rfl) (by kernel_rfl) (by kernel_rfl) (fun _ _ _ h => h) (Or.inl ⟨by rfl, ?_⟩) (by assumption) ?_
          rotate_left
          · intro w hSw
            have kc := conv_str (P := Try.prog) Try.underlying32 Try.underlying5 Try.underlying9 (hSw.2.2) c
            go_simp
            all_goals (with_reducible rfl)
          try simp only [Act.put, List.setIfInBounds_toArray, List.set_cons_zero, List.set_cons_succ]
          refine wpAnyH_take (i := 15) (oi := ⟨some 194, _, _, _, _, _⟩) (v := ?_) rfl (by kernel_rfl) (by kernel_rfl) (by kernel_rfl) (fun _ _ _ h => h) (Or.inl ⟨by rfl, ?_⟩) (by assumption) ?_
          rotate_left
          · intro w hSw
            (try dsimp only at hSw)
            go_simp
            all_goals (with_reducible rfl)
          try simp only [Act.put, List.setIfInBounds_toArray, List.set_cons_zero, List.set_cons_succ]
          refine wpAnyH_take (i := 16) (oi := ⟨some 195, _, _, _, _, _⟩) (v := ?_) rfl (by kernel_rfl) (by kernel_rfl) (by kernel_rfl) (fun _ _ _ h => h) (Or.inl ⟨by rfl, ?_⟩) (by assumption) ?_
          rotate_left
          · intro w hSw
            (try dsimp only at hSw)
            go_simp
            all_goals (with_reducible rfl)
          try simp only [Act.put, List.setIfInBounds_toArray, List.set_cons_zero, List.set_cons_succ]
          refine wpAnyH_take (i := 17) (oi := ⟨some 196, _, _, _, _, _⟩) (v := ?_) rfl (by kernel_rfl) (by kernel_rfl) (by kernel_rfl) (fun _ _ _ h => h) (Or.inl ⟨by rfl, ?_⟩) (by assumption) ?_
          rotate_left
          · intro w hSw
            (try dsimp only at hSw)
            go_simp
            all_goals (with_reducible rfl)
          try simp only [Act.put, List.setIfInBounds_toArray, List.set_cons_zero, List.set_cons_succ]
          have hH1 := hHeld
          refine wpAnyH_ready (rs := [18]) (by kernel_rfl) (by simp) (AllReadyH.cons (o := ⟨some 197, _, _, _, _, _⟩) rfl (fun K hK => ?_) AllReadyH.nil)
          go_simp
          refine (awake_any _).mono ?_
          rintro e X3 ⟨rfl, hx3⟩
          refine hK.out _ _ (⟨(hx3.block _ hlc).trans hH1.1, hH1.2.1.below hx3 (Nat.le_refl _), hH1.2.2.below hx3 (Nat.le_refl _)⟩) (fun hHeld => ?_)
          clear hK K
          try simp only [Act.put, List.setIfInBounds_toArray, List.set_cons_zero, List.set_cons_succ]
          clear hH1
          have HLd := Lib.hid (HLc.out.trans (hx3.mono HLc.out.size))
          clear hx3
          refine wpAnyH_take (i := 19) (oi := ⟨some 198, _, _, _, _, _⟩) (v := ?_) rfl (by kernel_rfl) (by kernel_rfl) (by kernel_rfl) (fun _ _ _ h => h) (Or.inl ⟨by rfl, ?_⟩) (by assumption) ?_
          rotate_left
          · intro w hSw
            (try dsimp only at hSw)
            go_simp
            all_goals (with_reducible rfl)
          try simp only [Act.put, List.setIfInBounds_toArray, List.set_cons_zero, List.set_cons_succ]
          refine wpAnyH_take (i := 20) (oi := ⟨some 10, _, _, _, _, _⟩) (v := ?_) rfl (by kernel_rfl) (by kernel_rfl) (by kernel_rfl) (fun _ _ _ h => h) (Or.inl ⟨by rfl, ?_⟩) (by assumption) ?_
          rotate_left
          · intro w hSw
            (try dsimp only at hSw)
            go_simp
            all_goals (with_reducible rfl)
          try simp only [Act.put, List.setIfInBounds_toArray, List.set_cons_zero, List.set_cons_succ]
          refine wpAnyH_done (by kernel_rfl) ?_ _
          clear hHeld
          go_wp2
          go_ret
          exact ⟨rfl, HLd.out⟩
end Go.Proofs.Ytfibkpjodhcppaa
