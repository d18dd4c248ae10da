/- What was sent comes: numbers, strings, what was sealed, whatever stands ahead of it and behind it. No program is named here. -/
import Derived.Test.YtmiapegecoaccaaPure
namespace Go.Coop

theorem ofNat_small {m : Nat} (h : m < 256) : (UInt8.ofNat m).toNat = m := by rw [UInt8.toNat_ofNat']; exact Nat.mod_eq_of_lt h

theorem scan_digF (post : List UInt8) : ∀ (k n i acc : Nat), i + k = 9 → n < 2 * 128 ^ k → (i = 0 ∨ 1 ≤ n) → scan (digF k n ++ post) i acc = (acc + n * 128 ^ i, i + (digF k n).length, 0)
  | 0, n, i, acc, hik, hn, h1 => by
    have hn' : n < 2 := by simpa using hn
    have hi : i = 9 := by omega
    subst hi
    have hv : (UInt8.ofNat n).toNat = n := ofNat_small (by omega)
    have h1' : 1 ≤ n := by omega
    simp only [digF, List.cons_append, List.nil_append, scan, hv]
    rw [if_neg (by omega), if_pos (by omega), Nat.mod_eq_of_lt (by omega)]
    rfl
  | k + 1, n, i, acc, hik, hn, h1 => by
    unfold digF
    by_cases hs : n < 128
    · rw [if_pos hs]
      have hv : (UInt8.ofNat n).toNat = n := ofNat_small (by omega)
      simp only [List.cons_append, List.nil_append, scan, hv]
      rw [if_neg (by omega), if_pos hs, Nat.mod_eq_of_lt hs]
      rfl
    · rw [if_neg hs]
      have hv : (UInt8.ofNat (n % 128 + 128)).toNat = n % 128 + 128 := ofNat_small (by omega)
      simp only [List.cons_append, scan, hv]
      rw [if_neg (by omega), if_neg (by omega)]
      have hn2 : n / 128 < 2 * 128 ^ k := by rw [Nat.pow_succ] at hn; omega
      rw [scan_digF post k (n / 128) (i + 1) _ (by omega) hn2 (.inr (by omega))]
      refine Prod.ext ?_ (Prod.ext ?_ rfl)
      · show acc + (n % 128 + 128) % 128 * 128 ^ i + n / 128 * 128 ^ (i + 1) = acc + n * 128 ^ i
        have e : (n % 128 + 128) % 128 = n % 128 := by omega
        have e2 : n / 128 * 128 ^ (i + 1) = (128 * (n / 128)) * 128 ^ i := by rw [Nat.pow_succ, Nat.mul_comm (128 ^ i) 128, ← Nat.mul_assoc, Nat.mul_comm 128 (n / 128)]
        rw [e, e2, Nat.add_assoc, ← Nat.add_mul, Nat.mod_add_div]
      · show i + 1 + (digF k (n / 128)).length = i + ((UInt8.ofNat (n % 128 + 128)) :: digF k (n / 128)).length
        simp; omega
/-- a number that was sent comes -/
theorem getU_dig (pre post : List UInt8) (n : Nat) (hn : n ≤ 18446744073709551615) : getU (pre ++ (dig n ++ post)) (pre.length : Int) = (n, pre.length + (dig n).length, 0) := by
  have h := getU_of (l := pre ++ (dig n ++ post)) (x := pre.length) (by simp) (s := (n, (dig n).length, 0)) (by
    rw [List.drop_left]
    have := scan_digF post 9 n 0 0 (by omega) (by omega) (.inl rfl)
    simpa [dig] using this)
  rw [h]
  rfl
end Go.Coop
