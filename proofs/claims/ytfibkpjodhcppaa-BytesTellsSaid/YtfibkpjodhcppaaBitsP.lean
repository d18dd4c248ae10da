/- The sum bit by bit: eight steps of a register are one step by the table. No program is named here. -/
import Derived.Test.YtfibkpjodhcppaaLin
import Derived.Test.YtfibkpjodhcppaaEntry
namespace Go.Proofs.Ytfibkpjodhcppaa
open Go.RowKit Go.Coop

theorem halve_even (d : Nat) : halve (2 * d) = d := by
  unfold halve
  rw [if_neg (by omega)]
  omega
theorem bit_split (x : Nat) : x = (x % 2) ^^^ (2 * (x / 2)) := by
  apply Nat.eq_of_testBit_eq
  intro i
  rw [Nat.testBit_xor]
  cases i with
  | zero => simp [Nat.testBit_zero]
  | succ i =>
    rw [Nat.testBit_succ, Nat.testBit_succ, Nat.testBit_succ, show x % 2 / 2 = 0 by omega, show 2 * (x / 2) / 2 = x / 2 by omega]
    simp
/-- the register behind k bits of a byte -/
def st (s c : Nat) : Nat → Nat
  | 0 => s
  | k + 1 => halve (st s c k ^^^ (c / 2 ^ k % 2))
theorem st_lt {s : Nat} (c : Nat) (h : s < 4294967296) (k : Nat) : st s c k < 4294967296 := by
  induction k with
  | zero => exact h
  | succ k ih => exact halve_lt (Nat.xor_lt_two_pow (n := 32) ih (by omega))
theorem hv_st (s c k : Nat) : hv k (s ^^^ c) = st s c k ^^^ (c / 2 ^ k) := by
  induction k with
  | zero => simp [hv, st]
  | succ k ih =>
    have e : c / 2 ^ k = (c / 2 ^ k % 2) ^^^ (2 * (c / 2 ^ (k + 1))) := by
      have := bit_split (c / 2 ^ k)
      rw [Nat.div_div_eq_div_mul, ← Nat.pow_succ] at this
      exact this
    show halve (hv k (s ^^^ c)) = halve (st s c k ^^^ (c / 2 ^ k % 2)) ^^^ (c / 2 ^ (k + 1))
    rw [ih, e, ← Nat.xor_assoc, halve_xor, halve_even, ← e]
theorem entry_256 (h : Nat) : entry (256 * h) = h := by
  unfold entry
  rw [show 256 * h = 2 * (2 * (2 * (2 * (2 * (2 * (2 * (2 * h))))))) by omega]
  simp only [halve_even]
theorem split_256 (x : Nat) : x = (256 * (x / 256)) ^^^ (x % 256) := by
  apply Nat.eq_of_testBit_eq
  intro i
  rw [Nat.testBit_xor, show (256 : Nat) = 2 ^ 8 from rfl, Nat.testBit_two_pow_mul, Nat.testBit_mod_two_pow, Nat.testBit_div_two_pow]
  by_cases hi : i < 8
  · simp [hi, show ¬ 8 ≤ i by omega]
  · simp [hi, show 8 ≤ i by omega]
theorem st_eight (s : Nat) (c : UInt8) : st s c.toNat 8 = upd entry s c := by
  have h := hv_st s c.toNat 8
  have hc := c.toNat_lt
  rw [show c.toNat / 2 ^ 8 = 0 by omega, Nat.xor_zero] at h
  rw [← h]
  show entry (s ^^^ c.toNat) = _
  unfold upd
  conv => lhs; rw [split_256 s]
  rw [Nat.xor_assoc, entry_xor, entry_256]
/-- the register's bits -/
theorem halve_bit (s i : Nat) : (halve s).testBit i = (s.testBit (i + 1) ^^ (s.testBit 0 && (2197175160 : Nat).testBit i)) := by
  unfold halve
  by_cases h : s % 2 = 1
  · rw [if_pos h, Nat.testBit_xor, Nat.testBit_succ, show s.testBit 0 = true by simp [Nat.testBit_zero, h]]
    simp
  · rw [if_neg h, Nat.testBit_succ, show s.testBit 0 = false by simp [Nat.testBit_zero, h]]
    simp
/-- what the last loop counts: the bits that stand at false, from the upper end on -/
def cnt (s : Nat) : Nat → Nat
  | 0 => 0
  | j + 1 => 2 * cnt s j + (if s.testBit (31 - j) then 0 else 1)
theorem cnt_all {s : Nat} (h : s < 4294967296) (j : Nat) (hj : j ≤ 32) : cnt s j = (4294967295 - s) / 2 ^ (32 - j) := by
  induction j with
  | zero => simp [cnt]; omega
  | succ j ih =>
    have e1 := ih (by omega)
    have e2 : (4294967295 - s).testBit (31 - j) = !(s.testBit (31 - j)) := by
      rw [← ones_xor s h, Nat.testBit_xor, show (4294967295 : Nat) = 2 ^ 32 - 1 from rfl, Nat.testBit_two_pow_sub_one]
      simp [show 31 - j < 32 by omega]
    have e3 : (4294967295 - s) / 2 ^ (32 - j) = (4294967295 - s) / 2 ^ (31 - j) / 2 := by
      rw [Nat.div_div_eq_div_mul, ← Nat.pow_succ, show 32 - j = (31 - j) + 1 by omega]
    have e4 : (4294967295 - s).testBit (31 - j) = decide ((4294967295 - s) / 2 ^ (31 - j) % 2 = 1) := Nat.testBit_eq_decide_div_mod_eq
    rw [show 32 - (j + 1) = 31 - j by omega]
    unfold cnt
    rw [e1, e3]
    rw [e2] at e4
    cases hb : s.testBit (31 - j) with
    | true =>
      rw [hb] at e4
      have := of_decide_eq_false e4.symm
      simp
      omega
    | false =>
      rw [hb] at e4
      have := of_decide_eq_true e4.symm
      simp
      omega
end Go.Proofs.Ytfibkpjodhcppaa
