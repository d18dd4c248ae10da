/- The reference's field and matrices. -/
import Derived.Test.YtobbjeephmfdeaaElts
import Derived.Test.YtobbjeephmfdeaaMakes
import Derived.Test.YtobbjeephmfdeaaLists
import Derived.Test.YtobbjeephmfdeaaMtxL
import Derived.Test.YtobbjeephmfdeaaPickN
namespace Go.Coop

/-- the product without the rest -/
def pl (a b : Nat) : Nat → Nat
  | 0 => 0
  | k + 1 => if (b / 2 ^ k) % 2 = 1 then pl a b k ^^^ (a * 2 ^ k) else pl a b k
/-- the rest, from bit 14 down -/
def rdc (p : Nat) : Nat → Nat
  | 0 => p
  | k + 1 => if (rdc p k / 2 ^ (14 - k)) % 2 = 1 then rdc p k ^^^ (285 * 2 ^ (6 - k)) else rdc p k
theorem bit_xor (p q i : Nat) : ((p ^^^ q) / 2 ^ i) % 2 = (p / 2 ^ i % 2 + q / 2 ^ i % 2) % 2 := by
  have h := Nat.testBit_xor p q i
  simp only [Nat.testBit_eq_decide_div_mod_eq] at h
  have h1 : (p ^^^ q) / 2 ^ i % 2 < 2 := Nat.mod_lt _ (by omega)
  have h2 : p / 2 ^ i % 2 < 2 := Nat.mod_lt _ (by omega)
  have h3 : q / 2 ^ i % 2 < 2 := Nat.mod_lt _ (by omega)
  by_cases a1 : p / 2 ^ i % 2 = 1 <;> by_cases a2 : q / 2 ^ i % 2 = 1 <;> simp [a1, a2] at h <;> omega
theorem xor_mid (p q r : Nat) : (p ^^^ r) ^^^ (q ^^^ r) = p ^^^ q := by
  rw [Nat.xor_assoc, ← Nat.xor_assoc r, Nat.xor_comm r q, Nat.xor_assoc q, Nat.xor_self, Nat.xor_zero]
theorem rdc_lin (p q : Nat) (k : Nat) : rdc (p ^^^ q) k = rdc p k ^^^ rdc q k := by
  induction k with
  | zero => rfl
  | succ k ih =>
    simp only [rdc]
    rw [ih, bit_xor]
    have h2 : rdc p k / 2 ^ (14 - k) % 2 < 2 := Nat.mod_lt _ (by omega)
    have h3 : rdc q k / 2 ^ (14 - k) % 2 < 2 := Nat.mod_lt _ (by omega)
    by_cases a1 : rdc p k / 2 ^ (14 - k) % 2 = 1
    · by_cases a2 : rdc q k / 2 ^ (14 - k) % 2 = 1
      · rw [if_neg (by omega), if_pos a1, if_pos a2, xor_mid]
      · rw [if_pos (by omega), if_pos a1, if_neg a2, Nat.xor_assoc, Nat.xor_assoc, Nat.xor_comm (rdc q k)]
    · by_cases a2 : rdc q k / 2 ^ (14 - k) % 2 = 1
      · rw [if_pos (by omega), if_neg a1, if_pos a2, Nat.xor_assoc]
      · rw [if_neg (by omega), if_neg a1, if_neg a2]
/-- an element by its bits, and times another -/
def bx (b : Nat) : Nat → Nat
  | 0 => 0
  | k + 1 => if (b / 2 ^ k) % 2 = 1 then bx b k ^^^ 2 ^ k else bx b k
def xx (a b : Nat) : Nat → Nat
  | 0 => 0
  | k + 1 => if (b / 2 ^ k) % 2 = 1 then xx a b k ^^^ iter k a else xx a b k
theorem bx_all : (List.range 256).all (fun b => Nat.beq (bx b 8) b) = true := by decide +kernel
theorem bx_lt (b k : Nat) (hk : k ≤ 8) : bx b k < 256 := by
  induction k with
  | zero => exact (by decide : 0 < 256)
  | succ k ih =>
    have h2 : 2 ^ k < 256 := Nat.pow_lt_pow_right (a := 2) (n := 8) (by omega) (by omega)
    simp only [bx]
    split
    · exact xor_lt _ _ (ih (by omega)) h2
    · exact ih (by omega)
theorem lg_pow : (List.range 8).all (fun i => Nat.beq (lg (2 ^ i)) i) = true := by decide +kernel
theorem mul_pow (a i : Nat) (ha : a < 256) (hi : i < 8) : mul a (2 ^ i) = iter i a := by
  have h := Nat.eq_of_beq_eq_true (List.all_eq_true.1 lg_pow i (by simpa using hi))
  have h0 : 2 ^ i ≠ 0 := Nat.ne_of_gt (Nat.pow_pos (by omega))
  rw [mul_comm, mul_iter _ a h0 ha, h]
theorem mul_bits (a b k : Nat) (ha : a < 256) (hk : k ≤ 8) : mul a (bx b k) = xx a b k := by
  induction k with
  | zero => exact mul_zero a
  | succ k ih =>
    have h2 : 2 ^ k < 256 := Nat.pow_lt_pow_right (a := 2) (n := 8) (by omega) (by omega)
    simp only [bx, xx]
    split
    · rw [mul_dist a _ _ (bx_lt b k (by omega)) h2, ih (by omega), mul_pow a k ha (by omega)]
    · exact ih (by omega)
theorem rdc_all : (List.range 256).all (fun a => (List.range 8).all fun i => Nat.beq (rdc (a * 2 ^ i) 7) (iter i a)) = true := by decide +kernel
theorem rdc_bits (a b k : Nat) (ha : a < 256) (hk : k ≤ 8) : rdc (pl a b k) 7 = xx a b k := by
  induction k with
  | zero => show rdc 0 7 = 0; decide
  | succ k ih =>
    have h := Nat.eq_of_beq_eq_true (List.all_eq_true.1 (List.all_eq_true.1 rdc_all a (by simpa using ha)) k (by simp; omega))
    simp only [pl, xx]
    split
    · rw [rdc_lin, ih (by omega), h]
    · exact ih (by omega)
theorem rdc_mul (a b : Nat) (ha : a < 256) (hb : b < 256) : rdc (pl a b 8) 7 = mul a b := by
  rw [rdc_bits a b 8 ha (by omega), ← mul_bits a b 8 ha (by omega), Nat.eq_of_beq_eq_true (List.all_eq_true.1 bx_all b (by simpa using hb))]
theorem pl_lt (a b : Nat) (ha : a < 256) : ∀ k, k ≤ 8 → pl a b k < 32768 := by
  intro k
  induction k with
  | zero => intro _; exact (by decide : 0 < 32768)
  | succ k ih =>
    intro hk
    have h2 : 2 ^ k ≤ 128 := by
      have := Nat.pow_le_pow_right (n := 2) (by omega) (show k ≤ 7 by omega)
      simpa using this
    have h3 : a * 2 ^ k ≤ 255 * 128 := Nat.mul_le_mul (by omega) h2
    simp only [pl]
    split
    · exact Nat.xor_lt_two_pow (n := 15) (ih (by omega)) (by omega)
    · exact ih (by omega)
theorem rdc_lt (p : Nat) (hp : p < 32768) : ∀ k, k ≤ 7 → rdc p k < 32768 := by
  intro k
  induction k with
  | zero => intro _; exact hp
  | succ k ih =>
    intro hk
    have h2 : 2 ^ (6 - k) ≤ 64 := by
      have := Nat.pow_le_pow_right (n := 2) (by omega) (show 6 - k ≤ 6 by omega)
      simpa using this
    have h3 : 285 * 2 ^ (6 - k) ≤ 285 * 64 := Nat.mul_le_mul (by omega) h2
    simp only [rdc]
    split
    · exact Nat.xor_lt_two_pow (n := 15) (ih (by omega)) (by omega)
    · exact ih (by omega)
end Go.Coop
namespace Go.Proofs.Ytobbjeephmfdeaa
open Go.RowKit Go.Coop
set_option maxRecDepth 100000

theorem pl_step {a b k P : Nat} (ha : a < 256) (hk : k < 8) (hP : P = pl a b k) : ∃ S M P' : Nat, (b : Int) / 2 ^ k = (S : Int) ∧ wrap64 ((a : Int) * 2 ^ k) = (M : Int) ∧ bits BinOp.xor IntKind.i64 (P : Int) (M : Int) = (P' : Int) ∧ (S % 2 = 1 → P' = pl a b (k + 1) ∧ P' < 32768) ∧ (S % 2 ≠ 1 → P = pl a b (k + 1)) := by
  have h2 : 2 ^ k ≤ 128 := by
    have := Nat.pow_le_pow_right (n := 2) (by omega) (show k ≤ 7 by omega)
    simpa using this
  have h3 : a * 2 ^ k ≤ 255 * 128 := Nat.mul_le_mul (by omega) h2
  have hPl := pl_lt a b ha k (by omega)
  refine ⟨b / 2 ^ k, a * 2 ^ k, P ^^^ (a * 2 ^ k), by push_cast; rfl, ?_, i64_xor_nat _ _ (by omega) (by omega), fun h => ?_, fun h => ?_⟩
  · have e : (a : Int) * 2 ^ k = ((a * 2 ^ k : Nat) : Int) := by push_cast; rfl
    rw [e]; unfold wrap64; omega
  · have hs : pl a b (k + 1) = P ^^^ (a * 2 ^ k) := by simp only [pl]; rw [if_pos h, hP]
    exact ⟨hs.symm, by rw [← hs]; exact pl_lt a b ha (k + 1) (by omega)⟩
  · simp only [pl]; rw [if_neg h, hP]
theorem rdc_step {p k Q : Nat} (hp : p < 32768) (hk : k < 7) (hQ : Q = rdc p k) : ∃ Q' : Nat, bits BinOp.xor IntKind.i64 (Q : Int) ((285 * 2 ^ (6 - k) : Nat) : Int) = (Q' : Int) ∧ (Q / 2 ^ (14 - k) % 2 = 1 → Q' = rdc p (k + 1) ∧ Q' < 32768) ∧ (Q / 2 ^ (14 - k) % 2 ≠ 1 → Q = rdc p (k + 1)) := by
  have h2 : 2 ^ (6 - k) ≤ 64 := by
    have := Nat.pow_le_pow_right (n := 2) (by omega) (show 6 - k ≤ 6 by omega)
    simpa using this
  have h3 : 285 * 2 ^ (6 - k) ≤ 285 * 64 := Nat.mul_le_mul (by omega) h2
  have hQl := rdc_lt p hp k (by omega)
  refine ⟨Q ^^^ (285 * 2 ^ (6 - k)), i64_xor_nat _ _ (by omega) (by omega), fun h => ?_, fun h => ?_⟩
  · have hs : rdc p (k + 1) = Q ^^^ (285 * 2 ^ (6 - k)) := by simp only [rdc]; rw [← hQ, if_pos h]
    exact ⟨hs.symm, by rw [← hs]; exact rdc_lt p hp (k + 1) (by omega)⟩
  · simp only [rdc]; rw [← hQ, if_neg h]

set_option maxRecDepth 100000 in
theorem rmul_any (a b : Nat) (w : World) (ha : a < 256) (hb : b < 256) : Calls Try.prog 82 #[.int .u8 (a : Int), .int .u8 (b : Int)] w fun e w' => e = .returned (.int .u8 (mul a b : Int)) ∧ w = w' := by
  go_enter Try.func82, Try.ntmps82
  go_wp2
  go_loop [5, 6] (fun p i => ∃ k P : Nat, k ≤ 8 ∧ i = .int .i64 k ∧ p = .int .i64 P ∧ P ≤ 32767 ∧ Hid (P = pl a b k)) (fun _ i => 8 - (intOf i).toNat)
  case atStart => exact ⟨0, 0, by omega, rfl, rfl, by omega, rfl⟩
  case round =>
    obtain ⟨k, P, hk, rfl, rfl, hP, HP⟩ := hrel
    by_cases hlt : k < 8
    · obtain ⟨S, M, P', h1, h2, h3, h4, h5⟩ := pl_step (b := b) ha hlt HP.out
      have HS := Lib.hid (And.intro h4 h5)
      clear h4 h5
      by_cases hs : S % 2 = 1
      · have hq : ((S : Int) % 2 == 1) = true := beq_iff_eq.2 (by omega)
        have h6 := HS.out.1 hs
        have H6 := Lib.hid h6
        clear hs h6
        go_wp2
        go_round
        case rel => exact ⟨k + 1, P', by omega, by go_num, rfl, by have := H6.out.2; omega, H6.out.1⟩
        case measure => simp [intOf]; omega
      · have hq : ((S : Int) % 2 == 1) = false := beq_eq_false_iff_ne.2 (by omega)
        have h6 := HS.out.2 hs
        have H6 := Lib.hid h6
        clear hs h6
        go_wp2
        go_round
        case rel => exact ⟨k + 1, P, by omega, by go_num, rfl, by omega, H6.out⟩
        case measure => simp [intOf]; omega
    · obtain rfl : k = 8 := by omega
      go_wp2
      go_loop [5, 7] (fun p i => ∃ (k Q : Nat) (z : Int), k ≤ 7 ∧ z ≤ 14 - k ∧ 14 - k ≤ z ∧ i = .int .i64 z ∧ p = .int .i64 Q ∧ Q ≤ 32767 ∧ Hid (Q = rdc P k)) (fun _ i => (intOf i).toNat)
      case atStart => exact ⟨0, P, 14, by omega, by omega, by omega, rfl, rfl, by omega, rfl⟩
      case round =>
        obtain ⟨k, Q, z, hk, hz1, hz2, rfl, rfl, hQ, HQ⟩ := hrel
        obtain rfl | rfl | rfl | rfl | rfl | rfl | rfl | rfl : k = 0 ∨ k = 1 ∨ k = 2 ∨ k = 3 ∨ k = 4 ∨ k = 5 ∨ k = 6 ∨ k = 7 := by omega
        · obtain rfl : z = 14 := by omega
          obtain ⟨Q', h3, h4, h5⟩ := rdc_step (k := 0) (show P < 32768 by omega) (by omega) HQ.out
          have h3' : bits BinOp.xor IntKind.i64 (Q : Int) 18240 = (Q' : Int) := h3
          by_cases hs : Q / 2 ^ (14 - 0) % 2 = 1
          · have hq : ((Q : Int) / 16384 % 2 == 1) = true := beq_iff_eq.2 (by simp only [Nat.reduceSub, Nat.reducePow] at hs; omega)
            have H6 := Lib.hid (h4 hs)
            clear hs h3 h4 h5
            go_wp2
            go_round
            case rel => exact ⟨1, Q', 13, by omega, by omega, by omega, by go_num, rfl, by have := H6.out.2; omega, H6.out.1⟩
            case measure => simp [intOf]
          · have hq : ((Q : Int) / 16384 % 2 == 1) = false := beq_eq_false_iff_ne.2 (by simp only [Nat.reduceSub, Nat.reducePow] at hs; omega)
            have H6 := Lib.hid (h5 hs)
            clear hs h3 h4 h5
            go_wp2
            go_round
            case rel => exact ⟨1, Q, 13, by omega, by omega, by omega, by go_num, rfl, by omega, H6.out⟩
            case measure => simp [intOf]
        · obtain rfl : z = 13 := by omega
          obtain ⟨Q', h3, h4, h5⟩ := rdc_step (k := 1) (show P < 32768 by omega) (by omega) HQ.out
          have h3' : bits BinOp.xor IntKind.i64 (Q : Int) 9120 = (Q' : Int) := h3
          by_cases hs : Q / 2 ^ (14 - 1) % 2 = 1
          · have hq : ((Q : Int) / 8192 % 2 == 1) = true := beq_iff_eq.2 (by simp only [Nat.reduceSub, Nat.reducePow] at hs; omega)
            have H6 := Lib.hid (h4 hs)
            clear hs h3 h4 h5
            go_wp2
            go_round
            case rel => exact ⟨2, Q', 12, by omega, by omega, by omega, by go_num, rfl, by have := H6.out.2; omega, H6.out.1⟩
            case measure => simp [intOf]
          · have hq : ((Q : Int) / 8192 % 2 == 1) = false := beq_eq_false_iff_ne.2 (by simp only [Nat.reduceSub, Nat.reducePow] at hs; omega)
            have H6 := Lib.hid (h5 hs)
            clear hs h3 h4 h5
            go_wp2
            go_round
            case rel => exact ⟨2, Q, 12, by omega, by omega, by omega, by go_num, rfl, by omega, H6.out⟩
            case measure => simp [intOf]
        · obtain rfl : z = 12 := by omega
          obtain ⟨Q', h3, h4, h5⟩ := rdc_step (k := 2) (show P < 32768 by omega) (by omega) HQ.out
          have h3' : bits BinOp.xor IntKind.i64 (Q : Int) 4560 = (Q' : Int) := h3
          by_cases hs : Q / 2 ^ (14 - 2) % 2 = 1
          · have hq : ((Q : Int) / 4096 % 2 == 1) = true := beq_iff_eq.2 (by simp only [Nat.reduceSub, Nat.reducePow] at hs; omega)
            have H6 := Lib.hid (h4 hs)
            clear hs h3 h4 h5
            go_wp2
            go_round
            case rel => exact ⟨3, Q', 11, by omega, by omega, by omega, by go_num, rfl, by have := H6.out.2; omega, H6.out.1⟩
            case measure => simp [intOf]
          · have hq : ((Q : Int) / 4096 % 2 == 1) = false := beq_eq_false_iff_ne.2 (by simp only [Nat.reduceSub, Nat.reducePow] at hs; omega)
            have H6 := Lib.hid (h5 hs)
            clear hs h3 h4 h5
            go_wp2
            go_round
            case rel => exact ⟨3, Q, 11, by omega, by omega, by omega, by go_num, rfl, by omega, H6.out⟩
            case measure => simp [intOf]
        · obtain rfl : z = 11 := by omega
          obtain ⟨Q', h3, h4, h5⟩ := rdc_step (k := 3) (show P < 32768 by omega) (by omega) HQ.out
          have h3' : bits BinOp.xor IntKind.i64 (Q : Int) 2280 = (Q' : Int) := h3
          by_cases hs : Q / 2 ^ (14 - 3) % 2 = 1
          · have hq : ((Q : Int) / 2048 % 2 == 1) = true := beq_iff_eq.2 (by simp only [Nat.reduceSub, Nat.reducePow] at hs; omega)
            have H6 := Lib.hid (h4 hs)
            clear hs h3 h4 h5
            go_wp2
            go_round
            case rel => exact ⟨4, Q', 10, by omega, by omega, by omega, by go_num, rfl, by have := H6.out.2; omega, H6.out.1⟩
            case measure => simp [intOf]
          · have hq : ((Q : Int) / 2048 % 2 == 1) = false := beq_eq_false_iff_ne.2 (by simp only [Nat.reduceSub, Nat.reducePow] at hs; omega)
            have H6 := Lib.hid (h5 hs)
            clear hs h3 h4 h5
            go_wp2
            go_round
            case rel => exact ⟨4, Q, 10, by omega, by omega, by omega, by go_num, rfl, by omega, H6.out⟩
            case measure => simp [intOf]
        · obtain rfl : z = 10 := by omega
          obtain ⟨Q', h3, h4, h5⟩ := rdc_step (k := 4) (show P < 32768 by omega) (by omega) HQ.out
          have h3' : bits BinOp.xor IntKind.i64 (Q : Int) 1140 = (Q' : Int) := h3
          by_cases hs : Q / 2 ^ (14 - 4) % 2 = 1
          · have hq : ((Q : Int) / 1024 % 2 == 1) = true := beq_iff_eq.2 (by simp only [Nat.reduceSub, Nat.reducePow] at hs; omega)
            have H6 := Lib.hid (h4 hs)
            clear hs h3 h4 h5
            go_wp2
            go_round
            case rel => exact ⟨5, Q', 9, by omega, by omega, by omega, by go_num, rfl, by have := H6.out.2; omega, H6.out.1⟩
            case measure => simp [intOf]
          · have hq : ((Q : Int) / 1024 % 2 == 1) = false := beq_eq_false_iff_ne.2 (by simp only [Nat.reduceSub, Nat.reducePow] at hs; omega)
            have H6 := Lib.hid (h5 hs)
            clear hs h3 h4 h5
            go_wp2
            go_round
            case rel => exact ⟨5, Q, 9, by omega, by omega, by omega, by go_num, rfl, by omega, H6.out⟩
            case measure => simp [intOf]
        · obtain rfl : z = 9 := by omega
          obtain ⟨Q', h3, h4, h5⟩ := rdc_step (k := 5) (show P < 32768 by omega) (by omega) HQ.out
          have h3' : bits BinOp.xor IntKind.i64 (Q : Int) 570 = (Q' : Int) := h3
          by_cases hs : Q / 2 ^ (14 - 5) % 2 = 1
          · have hq : ((Q : Int) / 512 % 2 == 1) = true := beq_iff_eq.2 (by simp only [Nat.reduceSub, Nat.reducePow] at hs; omega)
            have H6 := Lib.hid (h4 hs)
            clear hs h3 h4 h5
            go_wp2
            go_round
            case rel => exact ⟨6, Q', 8, by omega, by omega, by omega, by go_num, rfl, by have := H6.out.2; omega, H6.out.1⟩
            case measure => simp [intOf]
          · have hq : ((Q : Int) / 512 % 2 == 1) = false := beq_eq_false_iff_ne.2 (by simp only [Nat.reduceSub, Nat.reducePow] at hs; omega)
            have H6 := Lib.hid (h5 hs)
            clear hs h3 h4 h5
            go_wp2
            go_round
            case rel => exact ⟨6, Q, 8, by omega, by omega, by omega, by go_num, rfl, by omega, H6.out⟩
            case measure => simp [intOf]
        · obtain rfl : z = 8 := by omega
          obtain ⟨Q', h3, h4, h5⟩ := rdc_step (k := 6) (show P < 32768 by omega) (by omega) HQ.out
          have h3' : bits BinOp.xor IntKind.i64 (Q : Int) 285 = (Q' : Int) := h3
          by_cases hs : Q / 2 ^ (14 - 6) % 2 = 1
          · have hq : ((Q : Int) / 256 % 2 == 1) = true := beq_iff_eq.2 (by simp only [Nat.reduceSub, Nat.reducePow] at hs; omega)
            have H6 := Lib.hid (h4 hs)
            clear hs h3 h4 h5
            go_wp2
            go_round
            case rel => exact ⟨7, Q', 7, by omega, by omega, by omega, by go_num, rfl, by have := H6.out.2; omega, H6.out.1⟩
            case measure => simp [intOf]
          · have hq : ((Q : Int) / 256 % 2 == 1) = false := beq_eq_false_iff_ne.2 (by simp only [Nat.reduceSub, Nat.reducePow] at hs; omega)
            have H6 := Lib.hid (h5 hs)
            clear hs h3 h4 h5
            go_wp2
            go_round
            case rel => exact ⟨7, Q, 7, by omega, by omega, by omega, by go_num, rfl, by omega, H6.out⟩
            case measure => simp [intOf]
        · obtain rfl : z = 7 := by omega
          have hm : Q = mul a b := by rw [HQ.out, HP.out]; exact rdc_mul a b ha hb
          have hl := mul_lt a b
          have hQ2 : (Q : Int) % 256 = (Q : Int) := by omega
          have HM := Lib.hid hm
          clear hm hl
          go_wp2
          go_ret
          exact ⟨ret_int (by rw [HM.out]), rfl⟩
/-- by squares -/
theorem rpow_low (a n : Int) (w : World) (hn : n ≤ 0) : Calls Try.prog 88 #[.int .u8 a, .int .i64 n] w fun e w' => e = .returned (.int .u8 1) ∧ w = w' := by
  go_enter Try.func88, Try.ntmps88
  go_wp2
  go_loop [0, 1, 5] (fun v0 v1 v5 => v0 = .int .u8 a ∧ v1 = .int .i64 n ∧ v5 = .int .u8 1) (fun _ _ _ => 0)
  case atStart => exact ⟨rfl, rfl, rfl⟩
  case round =>
    obtain ⟨rfl, rfl, rfl⟩ := hrel
    go_wp2
    go_ret
    exact ⟨rfl, rfl⟩
set_option maxRecDepth 100000 in
theorem rpow_any (a n : Nat) (w : World) (ha : a < 256) (hn : n ≤ 9223372036854775807) : Calls Try.prog 88 #[.int .u8 (a : Int), .int .i64 (n : Int)] w fun e w' => e = .returned (.int .u8 (pw a n : Int)) ∧ w = w' := by
  go_enter Try.func88, Try.ntmps88
  go_wp2
  go_loop [0, 1, 5] (fun v0 v1 v5 => ∃ b k x : Nat, b < 256 ∧ k ≤ n ∧ x < 256 ∧ v0 = .int .u8 (b : Int) ∧ v1 = .int .i64 (k : Int) ∧ v5 = .int .u8 (x : Int) ∧ Hid (mul x (pw b k) = pw a n)) (fun _ v1 _ => (intOf v1).toNat)
  case atStart => exact ⟨a, n, 1, ha, Nat.le_refl _, by omega, rfl, rfl, rfl, by show mul 1 (pw a n) = _; rw [mul_comm, mul_one _ (pw_lt a n)]⟩
  case round =>
    obtain ⟨b, k, x, hb, hk, hx, rfl, rfl, rfl, HE⟩ := hrel
    by_cases h0 : 0 < k
    · have HB := Lib.hid (pw_dbl b (k / 2))
      by_cases hs : k % 2 = 1
      · have hq : ((k : Int) % 2 == 1) = true := beq_iff_eq.2 (by omega)
        have H1 : Hid (mul (mul x b) (pw (mul b b) (k / 2)) = pw a n) := by
          show _ = _
          rw [HB.out, mul_assoc, mul_comm b, ← HE.out]
          show mul x (pw b (2 * (k / 2) + 1)) = _
          rw [show 2 * (k / 2) + 1 = k from by omega]
        clear hs
        go_wp2_with fail
        refine (rmul_any x b _ hx hb).mono ?_
        rintro e w' ⟨rfl, rfl⟩
        go_wp2_with fail
        refine (rmul_any b b _ hb hb).mono ?_
        rintro e w' ⟨rfl, rfl⟩
        go_wp2
        go_round
        case rel => exact ⟨mul b b, k / 2, mul x b, mul_lt _ _, by omega, mul_lt _ _, rfl, by go_num, rfl, H1.out⟩
        case measure => simp [intOf]; omega
      · have hq : ((k : Int) % 2 == 1) = false := beq_eq_false_iff_ne.2 (by omega)
        have H1 : Hid (mul x (pw (mul b b) (k / 2)) = pw a n) := by
          show _ = _
          rw [HB.out, show 2 * (k / 2) = k from by omega]
          exact HE.out
        clear hs
        go_wp2_with (go_at_call 82; refine (rmul_any b b _ hb hb).mono ?_; rintro e w' ⟨rfl, rfl⟩)
        go_round
        case rel => exact ⟨mul b b, k / 2, x, mul_lt _ _, by omega, hx, rfl, by go_num, rfl, H1.out⟩
        case measure => simp [intOf]; omega
    · obtain rfl : k = 0 := by omega
      go_wp2
      go_ret
      refine ⟨ret_int ?_, rfl⟩
      rw [← HE.out]
      show (x : Int) = (mul x 1 : Nat)
      rw [mul_one x hx]

theorem rmul_q (a b : Nat) (w : World) (ha : a < 256) (hb : b < 256) (n : Nat) : Calls Try.prog 82 #[.int .u8 (a : Int), .int .u8 (b : Int)] (w.drewN n) fun e w'' => e = .returned (.int .u8 (mul a b : Int)) ∧ ∃ m, w'' = w.drewN m :=
  (rmul_any a b (w.drewN n) ha hb).mono fun _ _ ⟨he, hw⟩ => ⟨he, n, hw.symm⟩

theorem lay_snoc {c : Nat} {l k : List UInt8} {i : Nat} {o x : UInt8} (ho : l[i]? = some o) (hx : k[i]? = some x) : (lay c l k).take (i + 1) = (lay c l k).take i ++ [lay1 c o x] := by
  rw [List.take_add_one, lay_at, ho, hx]; rfl
theorem lay_snoc' {c : Nat} {l k : List UInt8} {i : Nat} {o : UInt8} (ho : l[i]? = some o) (hx : k.length ≤ i) : (lay c l k).take (i + 1) = (lay c l k).take i ++ [o] := by
  rw [List.take_add_one, lay_here _ _ _ _ hx, ho]; rfl

set_option maxRecDepth 100000 in
theorem rlay_any (A : Option Addr) (n ca : Nat) (lo : List UInt8) (c : Nat) (B : Option Addr) (m d : Nat) (lx : List UInt8) (w : World) (ha : Rd w A n lo) (hb : Rd w B m lx) (hc : c < 256) (hn : n ≤ 140737488355320) :
    Calls Try.prog 89 #[.slice A n ca, .int .u8 (c : Int), .slice B m d] w (Fresh w n (lay c lo lx)) := by
  have HA := Lib.hid ha
  have HB := Lib.hid hb
  clear ha hb
  go_enter Try.func89, Try.ntmps89
  go_wp2
  go_loopw [7, 8] (fun v i wr => ∃ (k : Nat) (A' : Option Addr) (c' : Nat) (l' : List UInt8), k ≤ n ∧ i = .int .i64 k ∧ v = .slice A' k c' ∧ Own wr w.heap.size 5 A' k c' l' ∧ Below w.heap.size w wr ∧ Hid (l' = (lay c lo lx).take k)) (fun _ i _ => n - (intOf i).toNat)
  case atStart => exact ⟨0, none, 0, [], by omega, rfl, rfl, Own.nil _ _ _, Below.refl _ _, by show [] = _; rw [List.take_zero]⟩
  case round =>
    obtain ⟨k, A', c', l', hk, rfl, rfl, hown, hbel, HE⟩ := hrel
    have hbs := hbel.size
    by_cases hlt : k < n
    · obtain ⟨ad, o, rfl, _, ho, hco⟩ := (HA.out.below hbel (Nat.le_refl _)).at_ (k := k) (by omega)
      unfold BV at hco
      have ho' := o.toNat_lt
      obtain ⟨O, hO⟩ : ∃ O, o.toNat = O := ⟨_, rfl⟩
      rw [hO] at hco ho'
      have HO := Lib.hid hO
      have HLO := Lib.hid ho
      clear hO ho
      by_cases hkm : k < m
      · obtain ⟨bd, x, rfl, _, hx, hcx⟩ := (HB.out.below hbel (Nat.le_refl _)).at_ (k := k) (by omega)
        unfold BV at hcx
        have hx' := x.toNat_lt
        obtain ⟨X, hX⟩ : ∃ X, x.toNat = X := ⟨_, rfl⟩
        rw [hX] at hcx hx'
        have HX := Lib.hid hX
        have HS := Lib.hid (lay_snoc (c := c) HLO.out hx)
        clear hX hx
        have hxor := u8_xor_nat O (mul c X) ho' (mul_lt _ _)
        have hxl := xor_lt O (mul c X) ho' (mul_lt _ _)
        obtain ⟨R, hR⟩ : ∃ R, O ^^^ mul c X = R := ⟨_, rfl⟩
        rw [hR] at hxor hxl
        have HR := Lib.hid hR
        clear hR
        go_wp2_with (first
          | (go_at_call 82; refine (rmul_any c X _ hc hx').mono ?_; rintro e w' ⟨rfl, rfl⟩)
          | (at_builtin; refine wpList_app _ rfl (.tmp 32) (.tmp 34) _ rfl w.heap.size 5 Try.underlying31 info5 rfl (hown.alloc _) rfl (Rd.one wr _ (by omega) (by omega) 5 _) (by omega) (by simp; omega) (k + 1) rfl ?_; intro A2 c2 w2 ho2 hg2 hat2))
        go_roundw
        case rel =>
          refine ⟨k + 1, A2, c2, _, by omega, by go_num, rfl, ho2, ?_, ?_⟩
          · exact (hbel.alloc hbs _).grown hg2 (by simp; omega) (fun k hk => (hown.block k hk).1)
          · show _ = _
            rw [HS.out, HE.out]
            congr 2
            unfold lay1
            rw [HO.out, HX.out, HR.out, Int.toNat_natCast]
        case measure => simp [intOf]; omega
      · have HS := Lib.hid (lay_snoc' (c := c) (k := lx) HLO.out (by rw [HB.out.len]; omega))
        go_wp2_with (at_builtin; refine wpList_app _ rfl (.tmp 32) (.tmp 34) _ rfl w.heap.size 5 Try.underlying31 info5 rfl (hown.alloc _) rfl (Rd.one wr _ (by omega) (by omega) 5 _) (by omega) (by simp; omega) (k + 1) rfl ?_; intro A2 c2 w2 ho2 hg2 hat2)
        go_roundw
        case rel =>
          refine ⟨k + 1, A2, c2, _, by omega, by go_num, rfl, ho2, ?_, ?_⟩
          · exact (hbel.alloc hbs _).grown hg2 (by simp; omega) (fun k hk => (hown.block k hk).1)
          · show _ = _
            rw [HS.out, HE.out]
            congr 2
            rw [Int.toNat_natCast, ← HO.out, UInt8.ofNat_toNat]
        case measure => simp [intOf]; omega
    · have hkk : k = n := by omega
      have HK := Lib.hid hkk
      clear hkk
      go_wp2
      go_ret
      have e : l' = lay c lo lx := by rw [HE.out, List.take_of_length_le (by rw [lay_len, HA.out.len]; omega)]
      rw [e] at hown
      have hk2 := HK.out
      subst hk2
      exact ⟨A', c', rfl, hown, hbel⟩
end Go.Proofs.Ytobbjeephmfdeaa
namespace Go.Proofs.Ytobbjeephmfdeaa
open Go.RowKit Go.Coop
set_option maxRecDepth 100000

theorem pw_inv (a : Nat) (h0 : a ≠ 0) (h : a < 256) : pw a 254 = iv a := by
  have hl := lg_lt a h
  unfold iv quo
  rw [if_neg (by omega), pw_lg a 254 h0, lg_one, ← ex_mod (lg a * 254)]
  congr 1
  omega
theorem rinv_any (a : Nat) (w : World) (h : a < 256) (h0 : a ≠ 0) : Calls Try.prog 81 #[.int .u8 (a : Int)] w fun e w' => e = .returned (.int .u8 (iv a : Int)) ∧ w = w' := by
  rw [← pw_inv a h0 h]
  have K := rpow_any a 254 w h (by omega)
  go_enter Try.func81, Try.ntmps81
  go_wp2_with fail
  refine K.mono ?_
  rintro e w' ⟨rfl, rfl⟩
  go_wp2
  go_ret
  exact ⟨rfl, rfl⟩

set_option maxRecDepth 100000 in
theorem rright_any (A : Option Addr) (n c : Nat) (M : List (List UInt8)) (w : World) (h : MR w A n M) :
    Calls Try.prog 83 #[.slice A n c] w (Still w (.bool (rightB M))) := by
  have HM := Lib.hid h
  by_cases h1 : n < 1
  · have e : rightB M = false := by unfold rightB; rw [decide_eq_false (by rw [h.len]; omega)]; rfl
    rw [e]
    clear e h
    go_enter Try.func83, Try.ntmps83
    go_wp2
    go_ret
    exact ⟨rfl, 0, rfl⟩
  by_cases h1' : 255 < n
  · have e : rightB M = false := by unfold rightB; rw [decide_eq_false (by rw [h.len]; omega)]; rfl
    rw [e]
    clear e h
    have hd : decide (255 < (n : Int)) = true := by simp; omega
    go_enter Try.func83, Try.ntmps83
    go_wp2
    go_ret
    exact ⟨rfl, 0, rfl⟩
  obtain ⟨ad, B, d, r, rfl, _, hr0, hc0, _⟩ := h.row (show 0 < n by omega)
  have hh := headD_at hr0
  obtain ⟨K, hK⟩ : ∃ K, r.length = K := ⟨_, rfl⟩
  rw [hK] at hc0
  have HB : Hid (rightB M = (decide (1 ≤ K ∧ K ≤ 255) && M.all fun r => r.length == K)) := by
    show rightB M = _
    unfold rightB; rw [hh, hK, decide_eq_true (show 1 ≤ M.length ∧ M.length ≤ 255 by rw [h.len]; omega)]; rfl
  have HR0 := Lib.hid (And.intro hr0 hK)
  have HLen := Lib.hid h.len
  clear hh hK hr0 h
  have hc00 : w.cell? ad = some (.slice B K d) := hc0
  have hn0 : (0 : Int) < n := by omega
  have hn0' : 0 < n := by omega
  have hd255 : decide (255 < (n : Int)) = false := by simp; omega
  by_cases h2 : K < 1
  · have e : rightB M = false := by rw [HB.out, decide_eq_false (by omega)]; rfl
    rw [e]
    clear e
    go_enter Try.func83, Try.ntmps83
    go_wp2
    go_ret
    exact ⟨rfl, 0, rfl⟩
  by_cases h2' : 255 < K
  · have e : rightB M = false := by rw [HB.out, decide_eq_false (by omega)]; rfl
    rw [e]
    clear e
    have hd : decide (255 < (K : Int)) = true := by simp; omega
    go_enter Try.func83, Try.ntmps83
    go_wp2
    go_ret
    exact ⟨rfl, 0, rfl⟩
  have hdK : decide (255 < (K : Int)) = false := by simp; omega
  go_enter Try.func83, Try.ntmps83
  go_wp2
  go_loopw [3] (fun i wr => ∃ q p : Nat, 1 ≤ q ∧ q ≤ n ∧ i = .int .i64 q ∧ Hid (wr = w.drewN p) ∧ Hid (∀ (j : Nat) (r : List UInt8), j < q → M[j]? = some r → r.length = K)) (fun i _ => n - (intOf i).toNat)
  case atStart => exact ⟨1, 0, by omega, by omega, rfl, rfl, fun j r hj hjr => by
    obtain rfl : j = 0 := by omega
    have := HR0.out.1
    rw [hjr] at this
    injection this with this
    rw [this]; exact HR0.out.2⟩
  case round =>
    obtain ⟨q, p, hq1, hq, rfl, HW, HQ⟩ := hrel
    by_cases hlt : q < n
    · obtain ⟨ad', B', d', r', e', _, hr', hc', _⟩ := (HM.out.drewN p).row hlt
      injection e' with e'
      subst e'
      have hc0' : wr.cell? (ad.add 0) = some (.slice B K d) := by rw [HW.out]; exact hc0
      have hc00' : wr.cell? ad = some (.slice B K d) := hc0'
      have hq0 : (0 : Int) ≤ q := by omega
      have hqn : (q : Int) < n := by omega
      by_cases hl : r'.length = K
      · rw [hl] at hc'
        have hc1 : wr.cell? (ad.add q) = some (.slice B' K d') := by rw [HW.out]; exact hc'
        have HL := Lib.hid (And.intro hr' hl)
        have hqq : ((K : Int) == (K : Int)) = true := beq_self_eq_true _
        clear hr' hl hc'
        go_wp2_with fail
        go_quiet (fail)
        go_wp2
        go_roundw
        case rel =>
          refine ⟨q + 1, _, by omega, by omega, by go_num, by rw [HW.out, World.drewN_drewN]; rfl, fun j r hj hjr => ?_⟩
          by_cases e : j < q
          · exact HQ.out j r e hjr
          · obtain rfl : j = q := by omega
            have := HL.out.1
            rw [hjr] at this
            injection this with this
            rw [this]; exact HL.out.2
        case measure => simp [intOf]; omega
      · have e : rightB M = false := by
          rw [HB.out, Bool.and_eq_false_iff]
          exact .inr (List.all_eq_false.2 ⟨r', List.mem_of_getElem? hr', by simpa using hl⟩)
        have HE := Lib.hid e
        obtain ⟨L, hL⟩ : ∃ L, r'.length = L := ⟨_, rfl⟩
        rw [hL] at hc' hl
        have hc1 : wr.cell? (ad.add q) = some (.slice B' L d') := by rw [HW.out]; exact hc'
        have hqq : ((L : Int) == (K : Int)) = false := beq_eq_false_iff_ne.2 (by omega)
        clear e hL hr' hc'
        go_wp2_with fail
        go_quiet (fail)
        go_wp2
        go_ret
        exact ⟨by rw [HE.out]; rfl, _, by rw [HW.out, World.drewN_drewN]⟩
    · obtain rfl : q = n := by omega
      have e : rightB M = true := by
        rw [HB.out, decide_eq_true (by omega), Bool.true_and, List.all_eq_true]
        intro r hr
        obtain ⟨j, hj⟩ := List.mem_iff_getElem?.1 hr
        have hjl := (List.getElem?_eq_some_iff.1 hj).1
        rw [HLen.out] at hjl
        simpa using HQ.out j r hjl hj
      have HE := Lib.hid e
      clear e
      go_wp2
      go_ret
      exact ⟨by rw [HE.out]; rfl, p, HW.out⟩
end Go.Proofs.Ytobbjeephmfdeaa
namespace Go.Proofs.Ytobbjeephmfdeaa
open Go.RowKit Go.Coop
set_option maxRecDepth 100000

theorem MR.tab {w : World} {A : Option Addr} {n k : Nat} {F : Fn2} (h : MR w A n (tabM n k F)) {i : Nat} (hi : i < n) : ∃ ad B d, A = some ad ∧ ad.block < w.heap.size ∧ w.cell? (ad.add i) = some (.slice B k d) ∧ Rd w B k (rowL k (F i)) := by
  obtain ⟨ad, B, d, r, e, hlt, hr, hc, hd⟩ := h.row hi
  rw [tabM_at k F hi] at hr
  injection hr with hr
  rw [← hr, rowL_len] at hc hd
  exact ⟨ad, B, d, e, hlt, hc, hd⟩
/-- a row, so far -/
def RRow (b0 m q : Nat) (P : Fn2) (wo : World) (v i : Value) (wr : World) : Prop := ∃ (j : Nat) (A' : Option Addr) (c' : Nat), j ≤ m ∧ i = .int .i64 j ∧ v = .slice A' j c' ∧ Hid (Own wr b0 5 A' j c' (rowL j (P q))) ∧ Hid (Below b0 wo wr)
/-- a sum, so far -/
def RSum (k q j : Nat) (F G : Fn2) (wl : World) (v i : Value) (wr : World) : Prop := ∃ (l S p : Nat), l ≤ k ∧ i = .int .i64 l ∧ v = .int .u8 S ∧ S < 256 ∧ Hid (S = xs l fun t => mul (nf F q t) (nf G t j)) ∧ Hid (wr = wl.drewN p)

end Go.Proofs.Ytobbjeephmfdeaa
namespace Go.Proofs.Ytobbjeephmfdeaa
open Go.RowKit Go.Coop
set_option maxRecDepth 100000

theorem below_drewN (w : World) (j : Nat) : Below w.heap.size w (w.drewN j) := ⟨rfl, rfl, rfl, Nat.le_refl _, fun _ _ => rfl⟩

theorem runit_low (x : Int) (w : World) (h : x < 1) : Calls Try.prog 56 #[.int .i64 x] w (NotM w 2) := by
  go_enter Try.func56, Try.ntmps56
  go_wp2
  go_ret2
  exact ⟨rfl, Below.refl _ _⟩
set_option maxRecDepth 100000 in
theorem runit_yes (n : Nat) (w : World) (h1 : 1 ≤ n) (h2 : n ≤ 255) : Calls Try.prog 56 #[.int .i64 (n : Int)] w (GotM w n (tabM n n unitF)) := by
  have hm2 := make31 n (by omega)
  have hd : decide (255 < (n : Int)) = false := by simp; omega
  go_enter Try.func56, Try.ntmps56
  go_wp2
  go_loopw [4, 5] (fun v i wr => ∃ (q : Nat) (A : Option Addr) (c : Nat), q ≤ n ∧ i = .int .i64 q ∧ v = .slice A q c ∧ Hid (MO wr w.heap.size w.heap.size A q c (tabM q n unitF)) ∧ Hid (Below w.heap.size w wr)) (fun _ i _ => n - (intOf i).toNat)
  case atStart => exact ⟨0, none, 0, by omega, rfl, rfl, MO.nil _ _ _, Below.refl _ _⟩
  case round =>
    obtain ⟨q, A, c, hq, rfl, rfl, HM, HB⟩ := hrel
    by_cases hlt : q < n
    · have hcb := cell_of_row _ wr.heap.size q _ 5 (0, 0) (heap_alloc_new wr (.cells (rowC n (fun _ => 0)) 5))
      rw [rowC_at _ hlt] at hcb
      have hfb := frozen_of_row _ wr.heap.size q _ 5 (heap_alloc_new wr (.cells (rowC n (fun _ => 0)) 5))
      have hset : (rowC n (fun _ => 0)).setIfInBounds q (.int .u8 1) = rowC n (unitF q) := by
        have := rowC_set n q (fun _ => 0) 1
        refine this.trans ?_
        congr 1
        funext b
        unfold unitF
        by_cases e : b = q
        · rw [if_pos e, if_pos e.symm]
        · rw [if_neg e, if_neg (fun h => e h.symm)]
      generalize hR : rowC n (fun _ => (0 : UInt8)) = R at *
      have HR := Lib.hid hR
      have HST := Lib.hid hset
      have hbs := HB.out.size
      clear hR hset
      have HO : Hid (Own (wr.alloc (.cells (R.setIfInBounds q (.int .u8 1)) 5)) wr.heap.size 5 (some ⟨wr.heap.size, 0, none⟩) n n (rowL n (unitF q))) := by
        show Own _ _ _ _ _ _ _
        rw [HST.out]
        exact own_new wr (rowL n (unitF q)) n (rowL_len _ _) (by simp [maxLen]; omega)
      have HRD : Hid (RdV ((wr.alloc (.cells (R.setIfInBounds q (.int .u8 1)) 5)).alloc (.cells #[.slice (some ⟨wr.heap.size, 0, none⟩) n n] 31)) (some ⟨wr.heap.size + 1, 0, none⟩) 1 [.slice (some ⟨wr.heap.size, 0, none⟩) n n]) := by
        have := RdV.one (wr.alloc (.cells (R.setIfInBounds q (.int .u8 1)) 5)) (.slice (some ⟨wr.heap.size, 0, none⟩) n n) 31 (0, 0)
        rw [size_alloc] at this
        exact this
      go_wp2_with (at_builtin; refine wpList_appM _ rfl (.tmp 23) (.tmp 25) rfl rfl ((HM.out.alloc _).alloc _) rfl HRD.out (rowL_len n (unitF q)) ((HO.out.lower hbs).alloc _) (by omega) (by rw [size_alloc, size_alloc]; omega) (q + 1) rfl ?_; intro A2 c2 w3 hM2 hg2)
      have HM3 := Lib.hid hM2
      have HB3 : Hid (Below w.heap.size w w3) := ((HB.out.alloc hbs _).alloc (by rw [size_alloc]; omega) _).grown hg2 (by rw [size_alloc, size_alloc]; omega) (fun k hk => (mo_block HM.out k hk).1)
      clear hM2 hg2
      go_roundw
      case rel => exact ⟨q + 1, A2, c2, by omega, by go_num, rfl, by rw [tabM_snoc]; exact HM3.out, HB3.out⟩
      case measure => simp [intOf]; omega
    · obtain rfl : q = n := by omega
      go_wp2
      go_ret2
      exact ⟨A, c, rfl, HM.out, HB.out⟩

theorem rpick_shape (A : Option Addr) (n c : Nat) (M : List (List UInt8)) (R : Option Addr) (m d : Nat) (w : World) (h : MR w A n M) (hr : rightB M = false) :
    Calls Try.prog 61 #[.slice A n c, .slice R m d] w (NotM w 30) := by
  have K1 := rright_any A n c M w h
  rw [hr] at K1
  go_enter Try.func61, Try.ntmps61
  go_wp2_with fail
  refine K1.mono ?_
  rintro e w' ⟨rfl, j, rfl⟩
  clear K1
  go_wp2
  go_ret2
  exact ⟨rfl, below_drewN w j⟩
theorem rpick_len (A : Option Addr) (n c : Nat) (M : List (List UInt8)) (R : Option Addr) (m d : Nat) (w : World) (h : MR w A n M) (hr : rightB M = true) (hm : m < 1) :
    Calls Try.prog 61 #[.slice A n c, .slice R m d] w (NotM w 2) := by
  have K1 := rright_any A n c M w h
  rw [hr] at K1
  go_enter Try.func61, Try.ntmps61
  go_wp2_with fail
  refine K1.mono ?_
  rintro e w' ⟨rfl, j, rfl⟩
  clear K1
  go_wp2
  go_ret2
  exact ⟨rfl, below_drewN w j⟩

set_option maxHeartbeats 1000000 in
set_option maxRecDepth 100000 in
theorem rpick_any (A : Option Addr) (n c : Nat) (M : List (List UInt8)) (R : Option Addr) (m d : Nat) (ls : List Int) (w : World) (h : MR w A n M) (hr : rightB M = true) (hR : RdV w R m (ivs ls)) (hm1 : 1 ≤ m) (hm2 : m ≤ 255)
    (hls : ∀ x ∈ ls, -9223372036854775808 ≤ x ∧ x ≤ 9223372036854775807) :
    Calls Try.prog 61 #[.slice A n c, .slice R m d] w (Picked w M m ls) := by
  have hn : 1 ≤ n ∧ n ≤ 255 := by
    unfold rightB at hr
    simp only [Bool.and_eq_true, decide_eq_true_eq] at hr
    have := hr.1.1
    rw [h.len] at this
    exact this
  have hrows : Hid (∀ (i : Nat) (r : List UInt8), M[i]? = some r → r.length ≤ 255) := by
    unfold rightB at hr
    simp only [Bool.and_eq_true, decide_eq_true_eq, List.all_eq_true, beq_iff_eq] at hr
    intro i r hi
    have := hr.2 r (List.mem_of_getElem? hi)
    have := hr.1.2.2
    omega
  obtain ⟨hn1, hn2⟩ := hn
  have K1 := rright_any A n c M w h
  rw [hr] at K1
  have HM := Lib.hid h
  have HR := Lib.hid hR
  have HLS := Lib.hid hls
  have HMl := Lib.hid h.len
  have HLl : Hid (ls.length = m) := by have := hR.len; show ls.length = m; simpa [ivs] using this
  have hd255 : decide (255 < (m : Int)) = false := by simp; omega
  clear h hR hr hls
  go_enter Try.func61, Try.ntmps61
  go_wp2_with fail
  refine K1.mono ?_
  rintro e w1 ⟨rfl, j, hw⟩
  have HB0 : Hid (Below w.heap.size w w1 ∧ w1.heap.size = w.heap.size) := by rw [hw]; exact ⟨below_drewN w j, rfl⟩
  clear K1 hw
  go_wp2_with fail
  go_loopw [6, 7] (fun v i wr => ∃ (q : Nat) (A' : Option Addr) (c' : Nat), q ≤ m ∧ i = .int .i64 q ∧ v = .slice A' q c' ∧ Hid (MO wr w.heap.size w.heap.size A' q c' (pickL M (ls.take q))) ∧ Hid (Below w.heap.size w wr) ∧ Hid (∀ x ∈ ls.take q, 0 ≤ x ∧ x < M.length)) (fun _ i _ => m - (intOf i).toNat)
  case atStart => exact ⟨0, none, 0, by omega, rfl, rfl, MO.nil _ _ _, HB0.out.1, by intro x hx; simp at hx⟩
  case round =>
    obtain ⟨q, A', c', hq, rfl, rfl, HO, HB, HQ⟩ := hrel
    by_cases hlt : q < m
    · obtain ⟨ad, v, rfl, _, hv, hcv⟩ := (HR.out.below HB.out (Nat.le_refl _)).at_ hlt
      obtain ⟨x, hx, rfl⟩ := ivs_at hv
      clear hv
      have hqm : (q : Int) < m := by omega
      by_cases hin : 0 ≤ x ∧ x < n
      · obtain ⟨X, rfl⟩ := Int.eq_ofNat_of_zero_le hin.1
        have hXn : X < n := by omega
        obtain ⟨am, B, e, r, rfl, _, hrr, hcr, hor⟩ := (HM.out.below HB.out (Nat.le_refl _)).row hXn
        have hrl := hrows.out X r hrr
        obtain ⟨k, hk⟩ : ∃ k, r.length = k := ⟨_, rfl⟩
        rw [hk] at hcr hor hrl
        have HX := Lib.hid (And.intro hx (And.intro hrr hk))
        have HOR := Lib.hid hor
        have hin1 : (X : Int) < n := by omega
        have hd : decide ((X : Int) < 0) = false := by simp
        have hd2 : decide ((n : Int) ≤ (X : Int)) = false := by simp; omega
        have hbs := HB.out.size
        clear hx hrr hk hor hin
        go_wp2_with (at_builtin; first
          | (refine wpList_app _ rfl (.tmp 41) (.tmp 48) _ rfl wr.heap.size 5 Try.underlying31 info5 (A := none) (n := 0) (c := 0) rfl (Own.nil _ _ _) rfl HOR.out (by omega) (Nat.le_refl _) k (by omega) ?_; intro A1 c1 w2 ho hg _; have HO1 : Hid (Own w2 wr.heap.size 5 A1 k c1 r) := (by show Own w2 wr.heap.size 5 A1 k c1 r; exact ho); have HG1 : Hid (Below wr.heap.size wr w2) := ((Below.refl _ _).grown hg (Nat.le_refl _) (by simp)); clear ho hg)
          | (refine wpList_appM _ rfl (.tmp 40) (.tmp 50) rfl rfl ((HO.out.below HG1.out (Nat.le_refl _)).alloc _) rfl (RdV.one _ _ _ _) HX.out.2.2 ((HO1.out.lower hbs).alloc _) (by omega) (by rw [size_alloc]; have := HG1.out.size; omega) (q + 1) rfl ?_; intro A2 c2 w3 hM2 hg2; have HM2 := Lib.hid hM2; have HB2 : Hid (Below w.heap.size w w3) := (((HB.out.trans (HG1.out.mono hbs)).alloc (by have := HG1.out.size; omega) _).grown hg2 (by rw [size_alloc]; have := HG1.out.size; omega) (fun k hk => (mo_block HO.out k hk).1)); clear hM2 hg2))
        go_roundw
        case rel =>
          refine ⟨q + 1, A2, c2, by omega, by go_num, rfl, ?_, HB2.out, ?_⟩
          · rw [pickL_snoc HX.out.1 HX.out.2.1]; exact HM2.out
          · intro y hy
            rw [List.take_add_one, HX.out.1] at hy
            rcases List.mem_append.1 hy with hy | hy
            · exact HQ.out y hy
            · simp at hy
              subst hy
              rw [HMl.out]
              omega
        case measure => simp [intOf]; omega
      · have HE : Hid (¬ ∀ x ∈ ls, 0 ≤ x ∧ x < M.length) := fun hall => hin (by have := hall x (List.mem_of_getElem? hx); rw [HMl.out] at this; exact this)
        clear hx
        by_cases hx0 : x < 0
        · go_wp2
          go_ret2
          exact .inr ⟨HE.out, rfl, HB.out⟩
        · have hd : decide (x < 0) = false := by simp; omega
          have hd2 : decide ((n : Int) ≤ x) = true := by simp; omega
          go_wp2
          go_ret2
          exact .inr ⟨HE.out, rfl, HB.out⟩
    · obtain rfl : q = m := by omega
      go_wp2
      go_ret2
      have e : ls.take q = ls := List.take_of_length_le (by rw [HLl.out]; omega)
      have h1 := HO.out
      have h2 := HQ.out
      rw [e] at h1 h2
      exact .inl ⟨h2, A', c', rfl, h1, HB.out⟩

theorem rcauchy_arg (x y : Int) (w : World) (h : x < 1 ∨ y < 1) : Calls Try.prog 57 #[.int .i64 x, .int .i64 y] w (NotM w 2) := by
  by_cases h1 : x < 1
  · go_enter Try.func57, Try.ntmps57
    go_wp2
    go_ret2
    exact ⟨rfl, Below.refl _ _⟩
  · have h2 : y < 1 := by omega
    go_enter Try.func57, Try.ntmps57
    go_wp2
    go_ret2
    exact ⟨rfl, Below.refl _ _⟩

set_option maxHeartbeats 1000000 in
set_option maxRecDepth 100000 in
theorem rcauchy_yes (n k : Nat) (w : World) (h1 : 1 ≤ n) (h2 : 1 ≤ k) (h3 : n ≤ 30) (h4 : k ≤ 30) : Calls Try.prog 57 #[.int .i64 (n : Int), .int .i64 (k : Int)] w (GotM w n (tabM n k (cauF k))) := by
  have hd1 : decide (256 < (n : Int)) = false := by simp; omega
  have hd2 : decide (256 < (k : Int)) = false := by simp; omega
  have hd3 : decide (256 < (n : Int) + (k : Int)) = false := by simp; omega
  go_enter Try.func57, Try.ntmps57
  go_wp2
  go_loopw [6, 7] (fun v i wr => ∃ (q : Nat) (A : Option Addr) (c : Nat), q ≤ n ∧ i = .int .i64 q ∧ v = .slice A q c ∧ Hid (MO wr w.heap.size w.heap.size A q c (tabM q k (cauF k))) ∧ Hid (Below w.heap.size w wr)) (fun _ i _ => n - (intOf i).toNat)
  case atStart => exact ⟨0, none, 0, by omega, rfl, rfl, MO.nil _ _ _, Below.refl _ _⟩
  case round =>
    obtain ⟨q, A, c, hq, rfl, rfl, HM, HB⟩ := hrel
    by_cases hlt : q < n
    · obtain ⟨wo, rfl⟩ : ∃ wo : World, wo = wr := ⟨_, rfl⟩
      go_wp2_with fail
      obtain ⟨b0, hb0⟩ : ∃ b0, wo.heap.size = b0 := ⟨_, rfl⟩
      go_loopw [8, 9] (fun v i wr => RRow b0 k q (cauF k) wo v i wr) (fun _ i _ => k - (intOf i).toNat)
      case atStart => exact ⟨0, none, 0, by omega, rfl, rfl, Own.nil _ _ _, Below.refl _ _⟩
      case round =>
        obtain ⟨j, A', c', hj, rfl, rfl, HO, HI⟩ := hrel
        by_cases hjk : j < k
        · have hxl : (k + q) ^^^ j < 256 := xor_lt _ _ (by omega) (by omega)
          have hw1 : ((k : Int) + (q : Int)) % 256 = ((k + q : Nat) : Int) := by omega
          have hw2 : (j : Int) % 256 = (j : Int) := by omega
          have hxor := u8_xor_nat (k + q) j (by omega) (by omega)
          have hxne := cau_ne (k := k) (i := q) hjk
          obtain ⟨X, hX⟩ : ∃ X, (k + q) ^^^ j = X := ⟨_, rfl⟩
          rw [hX] at hxl hxor hxne
          rw [Int.natCast_add] at hxor hw1
          have HX := Lib.hid hX
          have hbs := HI.out.size
          have hvl := iv_lt X
          clear hX
          go_wp2_with (first
            | (go_at_call 81; refine (rinv_any X wr hxl hxne).mono ?_; rintro e w3 ⟨rfl, rfl⟩)
            | (at_builtin; refine wpList_app _ rfl (.tmp 40) (.tmp 49) _ rfl b0 5 Try.underlying31 info5 rfl (HO.out.alloc _) rfl (Rd.one wr (iv X : Int) (by omega) (by omega) 5 (0, 0)) (by omega) (by rw [size_alloc]; omega) (j + 1) rfl ?_; intro A2 c2 w3 ho hg _; have HO3 := Lib.hid ho; have HI3 : Hid (Below b0 wo w3) := ((HI.out.alloc (by omega) _).grown hg (by rw [size_alloc]; omega) (fun k hk => (HO.out.block k hk).1)); clear ho hg))
          go_roundw
          case rel =>
            refine ⟨j + 1, A2, c2, by omega, by go_num, rfl, ?_, HI3.out⟩
            have e : UInt8.ofNat (iv X : Int).toNat = cauF k q j := by
              unfold cauF
              rw [HX.out, Int.toNat_natCast]
            rw [rowL_snoc, ← e]
            exact HO3.out
          case measure => simp [intOf]; omega
        · obtain rfl : j = k := by omega
          have hbs := HB.out.size
          have HM2 := Lib.hid (HM.out.below HI.out (by omega))
          have HBI : Hid (Below w.heap.size w wr) := HB.out.trans (HI.out.mono (by omega))
          have HO2 : Hid (Own wr w.heap.size 5 A' j c' (rowL j (cauF j q))) := HO.out.lower (by omega)
          go_wp2_with (at_builtin; refine wpList_appM _ rfl (.tmp 51) (.tmp 53) rfl rfl (HM2.out.alloc _) rfl (RdV.one _ _ _ _) (rowL_len _ _) (HO2.out.alloc _) (by omega) (by rw [size_alloc]; have := HBI.out.size; omega) (q + 1) rfl ?_; intro A2 c2 w3 hM2 hg2)
          have HM3 := Lib.hid hM2
          have HB3 : Hid (Below w.heap.size w w3) := (HBI.out.alloc HBI.out.size _).grown hg2 (by rw [size_alloc]; have := HBI.out.size; omega) (fun k hk => (mo_block HM2.out k hk).1)
          clear hM2 hg2
          go_roundw
          case rel => exact ⟨q + 1, A2, c2, by omega, by go_num, rfl, by rw [tabM_snoc]; exact HM3.out, HB3.out⟩
          case measure => simp [intOf]; omega
    · obtain rfl : q = n := by omega
      go_wp2
      go_ret2
      exact ⟨A, c, rfl, HM.out, HB.out⟩
end Go.Proofs.Ytobbjeephmfdeaa
