import Derived.Test.YtfibkpjodhcppaaSums
namespace Go.Proofs.Ytfibkpjodhcppaa
open Go.RowKit Go.Coop

theorem halved_any (n : Nat) (w : World) (h : n ≤ 4294967295) : Calls Try.prog 36 #[.int .u32 (n : Int)] w fun e w' => e = .returned (.int .u32 (halve n : Nat)) ∧ w = w' := by
  by_cases h2 : n % 2 = 0
  · have hb : ((n : Int) % 2 == 0) = true := beq_iff_eq.2 (by omega)
    have H2 := Lib.hid h2
    clear h2
    go_enter Try.func36, Try.ntmps36
    go_wp2
    go_ret
    refine ⟨ret_int ?_, rfl⟩
    have := H2.out
    unfold halve
    rw [if_neg (by omega)]
    omega
  · have hb : ((n : Int) % 2 == 0) = false := beq_eq_false_iff_ne.2 (by omega)
    have h1 : 1 ≤ n := by omega
    have H2 := Lib.hid h2
    clear h2
    go_enter Try.func36, Try.ntmps36
    go_wp2
    go_ret
    refine ⟨ret_int ?_, rfl⟩
    have := H2.out
    unfold halve
    rw [if_pos (by omega)]
    have e : ((n : Int) - 1) / 2 = ((n / 2 : Nat) : Int) := by omega
    rw [e]
    exact u32_xor_nat (n / 2) 2197175160 (by omega) (by omega)

/-- halved k times, the last one outermost -/
def hv : Nat → Nat → Nat
  | 0, n => n
  | k + 1, n => halve (hv k n)
theorem hv_lt (k : Nat) {n : Nat} (h : n < 4294967296) : hv k n < 4294967296 := by
  induction k with
  | zero => exact h
  | succ k ih => exact halve_lt ih

theorem entry_any (i : Nat) (w : World) (hi : i < 256) : Calls Try.prog 12 #[.int .i64 (i : Int)] w fun e w' => e = .returned (.int .u32 (entry i : Nat)) ∧ w = w' := by
  go_enter Try.func12, Try.ntmps12
  go_wp2
  go_loop [3, 4] (fun v k => ∃ (j N : Nat), j ≤ 8 ∧ k = .int .i64 j ∧ v = .int .u32 N ∧ N ≤ 4294967295 ∧ Hid (N = hv j i)) (fun _ k => 8 - (intOf k).toNat)
  case atStart => exact ⟨0, i, by omega, rfl, rfl, by omega, rfl⟩
  case round =>
    obtain ⟨j, N, hj, rfl, rfl, hN, HN⟩ := hrel
    by_cases hlt : j < 8
    · go_wp2_with (go_at_call 36; refine (halved_any _ _ hN).mono ?_; rintro e w' ⟨rfl, rfl⟩)
      go_round
      case rel => exact ⟨j + 1, halve N, by omega, by go_num, rfl, by have := halve_lt (n := N) (by omega); omega, by show _ = _; rw [HN.out]; rfl⟩
      case measure => simp [intOf]; omega
    · go_wp2
      go_ret
      obtain rfl : j = 8 := by omega
      refine ⟨ret_int ?_, rfl⟩
      rw [HN.out]
      rfl
end Go.Proofs.Ytfibkpjodhcppaa
