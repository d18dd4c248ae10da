/- The product as polynomials, bit by bit, and that it is the product: plain. Nothing here speaks of a program. -/
import Derived.Test.YtcggcbfddgfigaaElts
namespace Go.Coop

/-- the product without the rest -/
def pl (a b : Nat) : Nat → Nat
  | 0 => 0
  | k + 1 => if (b / 2 ^ k) % 2 = 1 then pl a b k ^^^ (a * 2 ^ k) else pl a b k
/-- the rest, from bit 14 down -/
def rdc (p : Nat) : Nat → Nat
  | 0 => p
  | k + 1 => if (rdc p k / 2 ^ (14 - k)) % 2 = 1 then rdc p k ^^^ (285 * 2 ^ (6 - k)) else rdc p k
theorem bit_xor (p q i : Nat) : ((p ^^^ q) / 2 ^ i) % 2 = (p / 2 ^ i % 2 + q / 2 ^ i % 2) % 2 := by
  have h := Nat.testBit_xor p q i
  simp only [Nat.testBit_eq_decide_div_mod_eq] at h
  have h1 : (p ^^^ q) / 2 ^ i % 2 < 2 := Nat.mod_lt _ (by omega)
  have h2 : p / 2 ^ i % 2 < 2 := Nat.mod_lt _ (by omega)
  have h3 : q / 2 ^ i % 2 < 2 := Nat.mod_lt _ (by omega)
  by_cases a1 : p / 2 ^ i % 2 = 1 <;> by_cases a2 : q / 2 ^ i % 2 = 1 <;> simp [a1, a2] at h <;> omega
theorem xor_mid (p q r : Nat) : (p ^^^ r) ^^^ (q ^^^ r) = p ^^^ q := by
  rw [Nat.xor_assoc, ← Nat.xor_assoc r, Nat.xor_comm r q, Nat.xor_assoc q, Nat.xor_self, Nat.xor_zero]
theorem rdc_lin (p q : Nat) (k : Nat) : rdc (p ^^^ q) k = rdc p k ^^^ rdc q k := by
  induction k with
  | zero => rfl
  | succ k ih =>
    simp only [rdc]
    rw [ih, bit_xor]
    have h2 : rdc p k / 2 ^ (14 - k) % 2 < 2 := Nat.mod_lt _ (by omega)
    have h3 : rdc q k / 2 ^ (14 - k) % 2 < 2 := Nat.mod_lt _ (by omega)
    by_cases a1 : rdc p k / 2 ^ (14 - k) % 2 = 1
    · by_cases a2 : rdc q k / 2 ^ (14 - k) % 2 = 1
      · rw [if_neg (by omega), if_pos a1, if_pos a2, xor_mid]
      · rw [if_pos (by omega), if_pos a1, if_neg a2, Nat.xor_assoc, Nat.xor_assoc, Nat.xor_comm (rdc q k)]
    · by_cases a2 : rdc q k / 2 ^ (14 - k) % 2 = 1
      · rw [if_pos (by omega), if_neg a1, if_pos a2, Nat.xor_assoc]
      · rw [if_neg (by omega), if_neg a1, if_neg a2]
/-- an element by its bits, and times another -/
def bx (b : Nat) : Nat → Nat
  | 0 => 0
  | k + 1 => if (b / 2 ^ k) % 2 = 1 then bx b k ^^^ 2 ^ k else bx b k
def xx (a b : Nat) : Nat → Nat
  | 0 => 0
  | k + 1 => if (b / 2 ^ k) % 2 = 1 then xx a b k ^^^ iter k a else xx a b k
theorem bx_all : (List.range 256).all (fun b => Nat.beq (bx b 8) b) = true := by decide +kernel
theorem bx_lt (b k : Nat) (hk : k ≤ 8) : bx b k < 256 := by
  induction k with
  | zero => exact (by decide : 0 < 256)
  | succ k ih =>
    have h2 : 2 ^ k < 256 := Nat.pow_lt_pow_right (a := 2) (n := 8) (by omega) (by omega)
    simp only [bx]
    split
    · exact xor_lt _ _ (ih (by omega)) h2
    · exact ih (by omega)
theorem lg_pow : (List.range 8).all (fun i => Nat.beq (lg (2 ^ i)) i) = true := by decide +kernel
theorem mul_pow (a i : Nat) (ha : a < 256) (hi : i < 8) : mul a (2 ^ i) = iter i a := by
  have h := Nat.eq_of_beq_eq_true (List.all_eq_true.1 lg_pow i (by simpa using hi))
  have h0 : 2 ^ i ≠ 0 := Nat.ne_of_gt (Nat.pow_pos (by omega))
  rw [mul_comm, mul_iter _ a h0 ha, h]
theorem mul_bits (a b k : Nat) (ha : a < 256) (hk : k ≤ 8) : mul a (bx b k) = xx a b k := by
  induction k with
  | zero => exact mul_zero a
  | succ k ih =>
    have h2 : 2 ^ k < 256 := Nat.pow_lt_pow_right (a := 2) (n := 8) (by omega) (by omega)
    simp only [bx, xx]
    split
    · rw [mul_dist a _ _ (bx_lt b k (by omega)) h2, ih (by omega), mul_pow a k ha (by omega)]
    · exact ih (by omega)
theorem rdc_all : (List.range 256).all (fun a => (List.range 8).all fun i => Nat.beq (rdc (a * 2 ^ i) 7) (iter i a)) = true := by decide +kernel
theorem rdc_bits (a b k : Nat) (ha : a < 256) (hk : k ≤ 8) : rdc (pl a b k) 7 = xx a b k := by
  induction k with
  | zero => show rdc 0 7 = 0; decide
  | succ k ih =>
    have h := Nat.eq_of_beq_eq_true (List.all_eq_true.1 (List.all_eq_true.1 rdc_all a (by simpa using ha)) k (by simp; omega))
    simp only [pl, xx]
    split
    · rw [rdc_lin, ih (by omega), h]
    · exact ih (by omega)
theorem rdc_mul (a b : Nat) (ha : a < 256) (hb : b < 256) : rdc (pl a b 8) 7 = mul a b := by
  rw [rdc_bits a b 8 ha (by omega), ← mul_bits a b 8 ha (by omega), Nat.eq_of_beq_eq_true (List.all_eq_true.1 bx_all b (by simpa using hb))]
theorem pl_lt (a b : Nat) (ha : a < 256) : ∀ k, k ≤ 8 → pl a b k < 32768 := by
  intro k
  induction k with
  | zero => intro _; exact (by decide : 0 < 32768)
  | succ k ih =>
    intro hk
    have h2 : 2 ^ k ≤ 128 := by
      have := Nat.pow_le_pow_right (n := 2) (by omega) (show k ≤ 7 by omega)
      simpa using this
    have h3 : a * 2 ^ k ≤ 255 * 128 := Nat.mul_le_mul (by omega) h2
    simp only [pl]
    split
    · exact Nat.xor_lt_two_pow (n := 15) (ih (by omega)) (by omega)
    · exact ih (by omega)
theorem rdc_lt (p : Nat) (hp : p < 32768) : ∀ k, k ≤ 7 → rdc p k < 32768 := by
  intro k
  induction k with
  | zero => intro _; exact hp
  | succ k ih =>
    intro hk
    have h2 : 2 ^ (6 - k) ≤ 64 := by
      have := Nat.pow_le_pow_right (n := 2) (by omega) (show 6 - k ≤ 6 by omega)
      simpa using this
    have h3 : 285 * 2 ^ (6 - k) ≤ 285 * 64 := Nat.mul_le_mul (by omega) h2
    simp only [rdc]
    split
    · exact Nat.xor_lt_two_pow (n := 15) (ih (by omega)) (by omega)
    · exact ih (by omega)
end Go.Coop
