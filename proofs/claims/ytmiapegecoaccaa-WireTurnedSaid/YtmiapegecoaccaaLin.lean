/- The sum by the table is linear: how it changes hangs on which bits are turned alone. No program is named here. -/
import Derived.Test.YtmiapegecoaccaaPure
namespace Go.Coop

theorem xor_half (a b : Nat) : (a ^^^ b) / 2 = (a / 2) ^^^ (b / 2) := by
  have := Nat.shiftRight_xor_distrib (a := a) (b := b) (i := 1)
  simpa [Nat.shiftRight_eq_div_pow] using this
theorem xor_256 (a b : Nat) : (a ^^^ b) / 256 = (a / 256) ^^^ (b / 256) := by
  have := Nat.shiftRight_xor_distrib (a := a) (b := b) (i := 8)
  simpa [Nat.shiftRight_eq_div_pow] using this
theorem xor_mod256 (a b : Nat) : (a ^^^ b) % 256 = (a % 256) ^^^ (b % 256) := Nat.xor_mod_two_pow (n := 8)
theorem xor_mod2 (a b : Nat) : (a ^^^ b) % 2 = (a % 2 + b % 2) % 2 := by
  have h : (a ^^^ b) % 2 = (a % 2) ^^^ (b % 2) := Nat.xor_mod_two_pow (n := 1)
  rw [h]
  rcases Nat.mod_two_eq_zero_or_one a with ha | ha <;> rcases Nat.mod_two_eq_zero_or_one b with hb | hb <;> rw [ha, hb] <;> rfl

theorem halve_xor (a b : Nat) : halve (a ^^^ b) = halve a ^^^ halve b := by
  have hm := xor_mod2 a b
  unfold halve
  rw [xor_half]
  rcases Nat.mod_two_eq_zero_or_one a with ha | ha <;> rcases Nat.mod_two_eq_zero_or_one b with hb | hb
  · rw [if_neg (by omega), if_neg (by omega), if_neg (by omega)]
  · rw [if_pos (by omega), if_neg (by omega), if_pos (by omega), Nat.xor_assoc]
  · rw [if_pos (by omega), if_pos (by omega), if_neg (by omega), Nat.xor_assoc, Nat.xor_assoc, Nat.xor_comm (b / 2)]
  · rw [if_neg (by omega), if_pos (by omega), if_pos (by omega)]
    rw [Nat.xor_assoc (a / 2), ← Nat.xor_assoc 2197175160, Nat.xor_comm 2197175160 (b / 2), Nat.xor_assoc (b / 2), Nat.xor_self, Nat.xor_zero]
theorem entry_xor (a b : Nat) : entry (a ^^^ b) = entry a ^^^ entry b := by simp only [entry, halve_xor]
theorem entry_zero : entry 0 = 0 := by decide

/-- bytes turned by bytes -/
def turnBy : List UInt8 → List UInt8 → List UInt8 := List.zipWith (· ^^^ ·)

theorem xor4 (a b c d : Nat) : (a ^^^ b) ^^^ (c ^^^ d) = (a ^^^ c) ^^^ (b ^^^ d) := by
  rw [Nat.xor_assoc, Nat.xor_assoc, ← Nat.xor_assoc b c d, Nat.xor_comm b c, Nat.xor_assoc c b d]

theorem upd_xor (s t : Nat) (c d : UInt8) : upd entry s c ^^^ upd entry t d = upd entry (s ^^^ t) (c ^^^ d) := by
  unfold upd
  rw [xor4, ← xor_256, ← entry_xor, xor4, ← xor_mod256, UInt8.toNat_xor]
theorem run_xor (a : List UInt8) : ∀ (b : List UInt8) (s t : Nat), a.length = b.length → run entry s a ^^^ run entry t b = run entry (s ^^^ t) (turnBy a b) := by
  induction a with
  | nil => intro b s t h; cases b with
    | nil => rfl
    | cons _ _ => cases h
  | cons c r ih => intro b s t h; cases b with
    | nil => cases h
    | cons d q =>
      have := ih q (upd entry s c) (upd entry t d) (by simpa using h)
      rw [upd_xor] at this
      exact this
theorem run_append (t : Nat → Nat) (s : Nat) (a b : List UInt8) : run t s (a ++ b) = run t (run t s a) b := by simp [run]

theorem crc_xor (b : List UInt8) : crc entry b = 4294967295 ^^^ run entry 4294967295 b := by
  unfold crc
  exact (ones_xor _ (run_lt (fun i hi => entry_lt (by omega)) b (by omega))).symm
theorem crc_diff {a b : List UInt8} (h : a.length = b.length) : crc entry a ^^^ crc entry b = run entry 0 (turnBy a b) := by
  rw [crc_xor, crc_xor, xor4, Nat.xor_self, Nat.zero_xor, run_xor a b _ _ h, Nat.xor_self]
theorem turnBy_self_append (l a b : List UInt8) : run entry 0 (turnBy (l ++ a) (l ++ b)) = run entry 0 (turnBy a b) := by
  have hz : ∀ l : List UInt8, run entry 0 (turnBy l l) = 0 := by
    intro l
    have := run_xor l l 0 0 rfl
    rw [Nat.xor_self, Nat.xor_self] at this
    exact this.symm
  have : turnBy (l ++ a) (l ++ b) = turnBy l l ++ turnBy a b := by unfold turnBy; rw [List.zipWith_append rfl]
  rw [this, run_append, hz]
theorem crc_tails (l a b : List UInt8) (h : a.length = b.length) : crc entry (l ++ a) ^^^ crc entry (l ++ b) = crc entry a ^^^ crc entry b := by
  rw [crc_diff (by simp [h]), crc_diff h, turnBy_self_append]
end Go.Coop
