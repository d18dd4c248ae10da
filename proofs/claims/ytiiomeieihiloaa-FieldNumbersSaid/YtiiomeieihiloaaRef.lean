import Derived.Test.YtiiomeieihiloaaMakes
import Derived.Test.YtiiomeieihiloaaLists
import Derived.Test.YtiiomeieihiloaaRefP
namespace Go.Proofs.Ytiiomeieihiloaa
open Go.RowKit Go.Coop

theorem pl_step {a b k P : Nat} (ha : a < 256) (hk : k < 8) (hP : P = pl a b k) : ∃ S M P' : Nat, (b : Int) / 2 ^ k = (S : Int) ∧ wrap64 ((a : Int) * 2 ^ k) = (M : Int) ∧ bits BinOp.xor IntKind.i64 (P : Int) (M : Int) = (P' : Int) ∧ (S % 2 = 1 → P' = pl a b (k + 1) ∧ P' < 32768) ∧ (S % 2 ≠ 1 → P = pl a b (k + 1)) := by
  have h2 : 2 ^ k ≤ 128 := by
    have := Nat.pow_le_pow_right (n := 2) (by omega) (show k ≤ 7 by omega)
    simpa using this
  have h3 : a * 2 ^ k ≤ 255 * 128 := Nat.mul_le_mul (by omega) h2
  have hPl := pl_lt a b ha k (by omega)
  refine ⟨b / 2 ^ k, a * 2 ^ k, P ^^^ (a * 2 ^ k), by push_cast; rfl, ?_, i64_xor_nat _ _ (by omega) (by omega), fun h => ?_, fun h => ?_⟩
  · have e : (a : Int) * 2 ^ k = ((a * 2 ^ k : Nat) : Int) := by push_cast; rfl
    rw [e]; unfold wrap64; omega
  · have hs : pl a b (k + 1) = P ^^^ (a * 2 ^ k) := by simp only [pl]; rw [if_pos h, hP]
    exact ⟨hs.symm, by rw [← hs]; exact pl_lt a b ha (k + 1) (by omega)⟩
  · simp only [pl]; rw [if_neg h, hP]
theorem rdc_step {p k Q : Nat} (hp : p < 32768) (hk : k < 7) (hQ : Q = rdc p k) : ∃ Q' : Nat, bits BinOp.xor IntKind.i64 (Q : Int) ((285 * 2 ^ (6 - k) : Nat) : Int) = (Q' : Int) ∧ (Q / 2 ^ (14 - k) % 2 = 1 → Q' = rdc p (k + 1) ∧ Q' < 32768) ∧ (Q / 2 ^ (14 - k) % 2 ≠ 1 → Q = rdc p (k + 1)) := by
  have h2 : 2 ^ (6 - k) ≤ 64 := by
    have := Nat.pow_le_pow_right (n := 2) (by omega) (show 6 - k ≤ 6 by omega)
    simpa using this
  have h3 : 285 * 2 ^ (6 - k) ≤ 285 * 64 := Nat.mul_le_mul (by omega) h2
  have hQl := rdc_lt p hp k (by omega)
  refine ⟨Q ^^^ (285 * 2 ^ (6 - k)), i64_xor_nat _ _ (by omega) (by omega), fun h => ?_, fun h => ?_⟩
  · have hs : rdc p (k + 1) = Q ^^^ (285 * 2 ^ (6 - k)) := by simp only [rdc]; rw [← hQ, if_pos h]
    exact ⟨hs.symm, by rw [← hs]; exact rdc_lt p hp (k + 1) (by omega)⟩
  · simp only [rdc]; rw [← hQ, if_neg h]

set_option maxRecDepth 100000 in
theorem rmul_any (a b : Nat) (w : World) (ha : a < 256) (hb : b < 256) : Calls Try.prog 12 #[.int .u8 (a : Int), .int .u8 (b : Int)] w fun e w' => e = .returned (.int .u8 (mul a b : Int)) ∧ w = w' := by
  go_enter Try.func12, Try.ntmps12
  go_wp2
  go_loop [5, 6] (fun p i => ∃ k P : Nat, k ≤ 8 ∧ i = .int .i64 k ∧ p = .int .i64 P ∧ P ≤ 32767 ∧ Hid (P = pl a b k)) (fun _ i => 8 - (intOf i).toNat)
  case atStart => exact ⟨0, 0, by omega, rfl, rfl, by omega, rfl⟩
  case round =>
    obtain ⟨k, P, hk, rfl, rfl, hP, HP⟩ := hrel
    by_cases hlt : k < 8
    · obtain ⟨S, M, P', h1, h2, h3, h4, h5⟩ := pl_step (b := b) ha hlt HP.out
      have HS := Lib.hid (And.intro h4 h5)
      clear h4 h5
      by_cases hs : S % 2 = 1
      · have hq : ((S : Int) % 2 == 1) = true := beq_iff_eq.2 (by omega)
        have h6 := HS.out.1 hs
        have H6 := Lib.hid h6
        clear hs h6
        go_wp2
        go_round
        case rel => exact ⟨k + 1, P', by omega, by go_num, rfl, by have := H6.out.2; omega, H6.out.1⟩
        case measure => simp [intOf]; omega
      · have hq : ((S : Int) % 2 == 1) = false := beq_eq_false_iff_ne.2 (by omega)
        have h6 := HS.out.2 hs
        have H6 := Lib.hid h6
        clear hs h6
        go_wp2
        go_round
        case rel => exact ⟨k + 1, P, by omega, by go_num, rfl, by omega, H6.out⟩
        case measure => simp [intOf]; omega
    · obtain rfl : k = 8 := by omega
      go_wp2
      go_loop [5, 7] (fun p i => ∃ (k Q : Nat) (z : Int), k ≤ 7 ∧ z ≤ 14 - k ∧ 14 - k ≤ z ∧ i = .int .i64 z ∧ p = .int .i64 Q ∧ Q ≤ 32767 ∧ Hid (Q = rdc P k)) (fun _ i => (intOf i).toNat)
      case atStart => exact ⟨0, P, 14, by omega, by omega, by omega, rfl, rfl, by omega, rfl⟩
      case round =>
        obtain ⟨k, Q, z, hk, hz1, hz2, rfl, rfl, hQ, HQ⟩ := hrel
        obtain rfl | rfl | rfl | rfl | rfl | rfl | rfl | rfl : k = 0 ∨ k = 1 ∨ k = 2 ∨ k = 3 ∨ k = 4 ∨ k = 5 ∨ k = 6 ∨ k = 7 := by omega
        · obtain rfl : z = 14 := by omega
          obtain ⟨Q', h3, h4, h5⟩ := rdc_step (k := 0) (show P < 32768 by omega) (by omega) HQ.out
          have h3' : bits BinOp.xor IntKind.i64 (Q : Int) 18240 = (Q' : Int) := h3
          by_cases hs : Q / 2 ^ (14 - 0) % 2 = 1
          · have hq : ((Q : Int) / 16384 % 2 == 1) = true := beq_iff_eq.2 (by simp only [Nat.reduceSub, Nat.reducePow] at hs; omega)
            have H6 := Lib.hid (h4 hs)
            clear hs h3 h4 h5
            go_wp2
            go_round
            case rel => exact ⟨1, Q', 13, by omega, by omega, by omega, by go_num, rfl, by have := H6.out.2; omega, H6.out.1⟩
            case measure => simp [intOf]
          · have hq : ((Q : Int) / 16384 % 2 == 1) = false := beq_eq_false_iff_ne.2 (by simp only [Nat.reduceSub, Nat.reducePow] at hs; omega)
            have H6 := Lib.hid (h5 hs)
            clear hs h3 h4 h5
            go_wp2
            go_round
            case rel => exact ⟨1, Q, 13, by omega, by omega, by omega, by go_num, rfl, by omega, H6.out⟩
            case measure => simp [intOf]
        · obtain rfl : z = 13 := by omega
          obtain ⟨Q', h3, h4, h5⟩ := rdc_step (k := 1) (show P < 32768 by omega) (by omega) HQ.out
          have h3' : bits BinOp.xor IntKind.i64 (Q : Int) 9120 = (Q' : Int) := h3
          by_cases hs : Q / 2 ^ (14 - 1) % 2 = 1
          · have hq : ((Q : Int) / 8192 % 2 == 1) = true := beq_iff_eq.2 (by simp only [Nat.reduceSub, Nat.reducePow] at hs; omega)
            have H6 := Lib.hid (h4 hs)
            clear hs h3 h4 h5
            go_wp2
            go_round
            case rel => exact ⟨2, Q', 12, by omega, by omega, by omega, by go_num, rfl, by have := H6.out.2; omega, H6.out.1⟩
            case measure => simp [intOf]
          · have hq : ((Q : Int) / 8192 % 2 == 1) = false := beq_eq_false_iff_ne.2 (by simp only [Nat.reduceSub, Nat.reducePow] at hs; omega)
            have H6 := Lib.hid (h5 hs)
            clear hs h3 h4 h5
            go_wp2
            go_round
            case rel => exact ⟨2, Q, 12, by omega, by omega, by omega, by go_num, rfl, by omega, H6.out⟩
            case measure => simp [intOf]
        · obtain rfl : z = 12 := by omega
          obtain ⟨Q', h3, h4, h5⟩ := rdc_step (k := 2) (show P < 32768 by omega) (by omega) HQ.out
          have h3' : bits BinOp.xor IntKind.i64 (Q : Int) 4560 = (Q' : Int) := h3
          by_cases hs : Q / 2 ^ (14 - 2) % 2 = 1
          · have hq : ((Q : Int) / 4096 % 2 == 1) = true := beq_iff_eq.2 (by simp only [Nat.reduceSub, Nat.reducePow] at hs; omega)
            have H6 := Lib.hid (h4 hs)
            clear hs h3 h4 h5
            go_wp2
            go_round
            case rel => exact ⟨3, Q', 11, by omega, by omega, by omega, by go_num, rfl, by have := H6.out.2; omega, H6.out.1⟩
            case measure => simp [intOf]
          · have hq : ((Q : Int) / 4096 % 2 == 1) = false := beq_eq_false_iff_ne.2 (by simp only [Nat.reduceSub, Nat.reducePow] at hs; omega)
            have H6 := Lib.hid (h5 hs)
            clear hs h3 h4 h5
            go_wp2
            go_round
            case rel => exact ⟨3, Q, 11, by omega, by omega, by omega, by go_num, rfl, by omega, H6.out⟩
            case measure => simp [intOf]
        · obtain rfl : z = 11 := by omega
          obtain ⟨Q', h3, h4, h5⟩ := rdc_step (k := 3) (show P < 32768 by omega) (by omega) HQ.out
          have h3' : bits BinOp.xor IntKind.i64 (Q : Int) 2280 = (Q' : Int) := h3
          by_cases hs : Q / 2 ^ (14 - 3) % 2 = 1
          · have hq : ((Q : Int) / 2048 % 2 == 1) = true := beq_iff_eq.2 (by simp only [Nat.reduceSub, Nat.reducePow] at hs; omega)
            have H6 := Lib.hid (h4 hs)
            clear hs h3 h4 h5
            go_wp2
            go_round
            case rel => exact ⟨4, Q', 10, by omega, by omega, by omega, by go_num, rfl, by have := H6.out.2; omega, H6.out.1⟩
            case measure => simp [intOf]
          · have hq : ((Q : Int) / 2048 % 2 == 1) = false := beq_eq_false_iff_ne.2 (by simp only [Nat.reduceSub, Nat.reducePow] at hs; omega)
            have H6 := Lib.hid (h5 hs)
            clear hs h3 h4 h5
            go_wp2
            go_round
            case rel => exact ⟨4, Q, 10, by omega, by omega, by omega, by go_num, rfl, by omega, H6.out⟩
            case measure => simp [intOf]
        · obtain rfl : z = 10 := by omega
          obtain ⟨Q', h3, h4, h5⟩ := rdc_step (k := 4) (show P < 32768 by omega) (by omega) HQ.out
          have h3' : bits BinOp.xor IntKind.i64 (Q : Int) 1140 = (Q' : Int) := h3
          by_cases hs : Q / 2 ^ (14 - 4) % 2 = 1
          · have hq : ((Q : Int) / 1024 % 2 == 1) = true := beq_iff_eq.2 (by simp only [Nat.reduceSub, Nat.reducePow] at hs; omega)
            have H6 := Lib.hid (h4 hs)
            clear hs h3 h4 h5
            go_wp2
            go_round
            case rel => exact ⟨5, Q', 9, by omega, by omega, by omega, by go_num, rfl, by have := H6.out.2; omega, H6.out.1⟩
            case measure => simp [intOf]
          · have hq : ((Q : Int) / 1024 % 2 == 1) = false := beq_eq_false_iff_ne.2 (by simp only [Nat.reduceSub, Nat.reducePow] at hs; omega)
            have H6 := Lib.hid (h5 hs)
            clear hs h3 h4 h5
            go_wp2
            go_round
            case rel => exact ⟨5, Q, 9, by omega, by omega, by omega, by go_num, rfl, by omega, H6.out⟩
            case measure => simp [intOf]
        · obtain rfl : z = 9 := by omega
          obtain ⟨Q', h3, h4, h5⟩ := rdc_step (k := 5) (show P < 32768 by omega) (by omega) HQ.out
          have h3' : bits BinOp.xor IntKind.i64 (Q : Int) 570 = (Q' : Int) := h3
          by_cases hs : Q / 2 ^ (14 - 5) % 2 = 1
          · have hq : ((Q : Int) / 512 % 2 == 1) = true := beq_iff_eq.2 (by simp only [Nat.reduceSub, Nat.reducePow] at hs; omega)
            have H6 := Lib.hid (h4 hs)
            clear hs h3 h4 h5
            go_wp2
            go_round
            case rel => exact ⟨6, Q', 8, by omega, by omega, by omega, by go_num, rfl, by have := H6.out.2; omega, H6.out.1⟩
            case measure => simp [intOf]
          · have hq : ((Q : Int) / 512 % 2 == 1) = false := beq_eq_false_iff_ne.2 (by simp only [Nat.reduceSub, Nat.reducePow] at hs; omega)
            have H6 := Lib.hid (h5 hs)
            clear hs h3 h4 h5
            go_wp2
            go_round
            case rel => exact ⟨6, Q, 8, by omega, by omega, by omega, by go_num, rfl, by omega, H6.out⟩
            case measure => simp [intOf]
        · obtain rfl : z = 8 := by omega
          obtain ⟨Q', h3, h4, h5⟩ := rdc_step (k := 6) (show P < 32768 by omega) (by omega) HQ.out
          have h3' : bits BinOp.xor IntKind.i64 (Q : Int) 285 = (Q' : Int) := h3
          by_cases hs : Q / 2 ^ (14 - 6) % 2 = 1
          · have hq : ((Q : Int) / 256 % 2 == 1) = true := beq_iff_eq.2 (by simp only [Nat.reduceSub, Nat.reducePow] at hs; omega)
            have H6 := Lib.hid (h4 hs)
            clear hs h3 h4 h5
            go_wp2
            go_round
            case rel => exact ⟨7, Q', 7, by omega, by omega, by omega, by go_num, rfl, by have := H6.out.2; omega, H6.out.1⟩
            case measure => simp [intOf]
          · have hq : ((Q : Int) / 256 % 2 == 1) = false := beq_eq_false_iff_ne.2 (by simp only [Nat.reduceSub, Nat.reducePow] at hs; omega)
            have H6 := Lib.hid (h5 hs)
            clear hs h3 h4 h5
            go_wp2
            go_round
            case rel => exact ⟨7, Q, 7, by omega, by omega, by omega, by go_num, rfl, by omega, H6.out⟩
            case measure => simp [intOf]
        · obtain rfl : z = 7 := by omega
          have hm : Q = mul a b := by rw [HQ.out, HP.out]; exact rdc_mul a b ha hb
          have hl := mul_lt a b
          have hQ2 : (Q : Int) % 256 = (Q : Int) := by omega
          have HM := Lib.hid hm
          clear hm hl
          go_wp2
          go_ret
          exact ⟨ret_int (by rw [HM.out]), rfl⟩

set_option maxRecDepth 100000 in
theorem rlog_any (a : Nat) (w : World) (ha : a < 256) (h0 : a ≠ 0) : Calls Try.prog 15 #[.int .u8 (a : Int)] w fun e w' => e = .returned (.tuple #[.int .i64 (lg a : Int), .int .i64 0]) ∧ w = w' := by
  have hl := lg_lt a ha
  have HE := Lib.hid (ex_lg a h0 ha).1
  obtain ⟨L, hL⟩ : ∃ L, lg a = L := ⟨_, rfl⟩
  rw [hL] at hl
  have HL := Lib.hid hL
  rw [hL]
  clear hL h0
  go_enter Try.func15, Try.ntmps15
  go_wp2
  go_loop [4, 5] (fun x i => ∃ k X : Nat, k ≤ L ∧ i = .int .i64 k ∧ x = .int .u8 (X : Int) ∧ X < 256 ∧ Hid (X = ex k)) (fun _ i => 255 - (intOf i).toNat)
  case atStart => exact ⟨0, 1, by omega, rfl, rfl, by omega, rfl⟩
  case round =>
    obtain ⟨k, X, hk, rfl, rfl, hX, HX⟩ := hrel
    by_cases hlt : k < L
    · have hne : ((X : Int) == (a : Int)) = false := beq_eq_false_iff_ne.2 (by
        intro e
        have e : X = a := by omega
        have h1 := lg_ex k (by omega)
        rw [← HX.out, e, HL.out] at h1
        omega)
      have HX2 : Hid (mul X 2 = ex (k + 1)) := by
        show _ = _
        rw [HX.out, mul, if_neg (by have := (ex_pos k).2; omega), lg_ex k (by omega), show lg 2 = 1 from by decide +kernel, ex_mod]
      go_wp2_with (go_at_call 12; refine (rmul_any X 2 _ hX (by omega)).mono ?_; rintro e w' ⟨rfl, rfl⟩)
      go_round
      case rel => exact ⟨k + 1, ex (k + 1), by omega, by go_num, by rw [HX2.out], (ex_pos _).1, rfl⟩
      case measure => simp [intOf]; omega
    · have hXa : X = a := by rw [HX.out, show k = lg a from by rw [HL.out]; omega, HE.out]
      have hq : ((X : Int) == (a : Int)) = true := beq_iff_eq.2 (by omega)
      have hkl : k = L := by omega
      have HK := Lib.hid hkl
      clear hXa hkl
      go_wp2
      go_ret2
      rw [HK.out]
      exact ⟨rfl, rfl⟩
set_option maxRecDepth 100000 in
theorem rlog_zero (w : World) : Calls Try.prog 15 #[.int .u8 0] w fun e w' => e = .returned (.tuple #[.int .i64 0, .int .i64 20]) ∧ w = w' := by
  go_enter Try.func15, Try.ntmps15
  go_wp2
  go_loop [4, 5] (fun x i => ∃ k X : Nat, k ≤ 255 ∧ i = .int .i64 k ∧ x = .int .u8 (X : Int) ∧ X < 256 ∧ 0 < X ∧ Hid (X = ex k)) (fun _ i => 255 - (intOf i).toNat)
  case atStart => exact ⟨0, 1, by omega, rfl, rfl, by omega, by omega, rfl⟩
  case round =>
    obtain ⟨k, X, hk, rfl, rfl, hX, hX0, HX⟩ := hrel
    by_cases hlt : k < 255
    · have hne : ((X : Int) == 0) = false := beq_eq_false_iff_ne.2 (by omega)
      have HX2 : Hid (mul X 2 = ex (k + 1)) := by
        show _ = _
        rw [HX.out, mul, if_neg (by have := (ex_pos k).2; omega), lg_ex k (by omega), show lg 2 = 1 from by decide +kernel, ex_mod]
      go_wp2_with (go_at_call 12; refine (rmul_any X 2 _ hX (by omega)).mono ?_; rintro e w' ⟨rfl, rfl⟩)
      go_round
      case rel => exact ⟨k + 1, ex (k + 1), by omega, by go_num, by rw [HX2.out], (ex_pos _).1, Nat.pos_of_ne_zero (ex_pos _).2, rfl⟩
      case measure => simp [intOf]; omega
    · go_wp2
      go_ret2
      exact ⟨rfl, rfl⟩

theorem rdiv_zero (a : Int) (w : World) : Calls Try.prog 22 #[.int .u8 a, .int .u8 0] w fun e w' => e = .returned (.tuple #[.int .u8 0, .int .i64 20]) ∧ w = w' := by
  go_enter Try.func22, Try.ntmps22
  go_wp2
  go_ret2
  exact ⟨rfl, rfl⟩
set_option maxRecDepth 100000 in
theorem rdiv_any (a b : Nat) (w : World) (ha : a < 256) (hb : b < 256) (h0 : b ≠ 0) : Calls Try.prog 22 #[.int .u8 (a : Int), .int .u8 (b : Int)] w fun e w' => e = .returned (.tuple #[.int .u8 (quo a b : Int), .int .i64 0]) ∧ w = w' := by
  have hb0 : ((b : Int) == 0) = false := beq_eq_false_iff_ne.2 (by omega)
  have hq := quo_lt a b
  have HM := Lib.hid (quo_mul a b ha h0 hb)
  obtain ⟨q, hqe⟩ : ∃ q, quo a b = q := ⟨_, rfl⟩
  rw [hqe] at hq
  have HQ := Lib.hid hqe
  have H0 := Lib.hid h0
  rw [hqe]
  clear hqe h0
  go_enter Try.func22, Try.ntmps22
  go_wp2
  clear hb0
  go_loop [6] (fun i => ∃ k : Nat, k ≤ q ∧ i = .int .i64 k) (fun i => 256 - (intOf i).toNat)
  case atStart => exact ⟨0, by omega, rfl⟩
  case round =>
    obtain ⟨k, hk, rfl⟩ := hrel
    have hkw : (k : Int) % 256 = (k : Int) := by omega
    obtain ⟨m, hm⟩ : ∃ m, mul k b = m := ⟨_, rfl⟩
    have HMM := Lib.hid hm
    by_cases hlt : k < q
    · have hne : ((m : Int) == (a : Int)) = false := beq_eq_false_iff_ne.2 (by
        intro e
        have e : m = a := by omega
        have h1 : mul b k = mul b q := by rw [mul_comm b k, hm, e, ← HM.out, HQ.out, mul_comm]
        have := mul_cancel b k q (by omega) (by omega) H0.out h1
        omega)
      clear hm
      go_wp2_with (go_at_call 12; refine (rmul_any k b _ (by omega) hb).mono ?_; rintro e w' ⟨rfl, rfl⟩; rw [HMM.out])
      go_round
      case rel => exact ⟨k + 1, by omega, by go_num⟩
      case measure => simp [intOf]; omega
    · have hkq : k = q := by omega
      have hma : m = a := by rw [← hm, hkq, ← HQ.out]; exact HM.out
      have hq1 : ((m : Int) == (a : Int)) = true := beq_iff_eq.2 (by omega)
      have HK := Lib.hid hkq
      clear hm hkq hma
      go_wp2_with (go_at_call 12; refine (rmul_any k b _ (by omega) hb).mono ?_; rintro e w' ⟨rfl, rfl⟩; rw [HMM.out])
      go_ret2
      rw [HK.out]
      exact ⟨rfl, rfl⟩
end Go.Proofs.Ytiiomeieihiloaa
