import Derived.Test.YtkkpfehgobanbaaFld
import Derived.Deep.QuietTactic
import Derived.BigQuiet
import Derived.IntWalk
namespace Go.Proofs.Ytkkpfehgobanbaa
open Go.RowKit Go.Coop
set_option maxRecDepth 100000

/-- a value is answered, nothing is made, nothing is changed -/
def Still (w : World) (v : Value) (e : Ending) (w' : World) : Prop := e = .returned v ∧ ∃ n, w' = w.drewN n
theorem ret_int {k : IntKind} {a b : Int} (h : a = b) : Ending.returned (.int k a) = .returned (.int k b) := by rw [h]

theorem made_yes (g : Nat) (w : World) (h : FldAt w g) : Calls Try.prog 66 #[.pointer (some ⟨g, 0, none⟩)] w fun e w' => e = .returned (.bool true) ∧ w = w' := by
  have hc := h.pow 0 (by omega)
  rw [show (ex 0 : Int) = 1 from rfl] at hc
  clear h
  go_enter Try.func66, Try.ntmps66
  go_wp2
  go_ret
  exact ⟨rfl, rfl⟩
theorem made_nil (w : World) : Calls Try.prog 66 #[.pointer none] w fun e w' => e = .returned (.bool false) ∧ w = w' := by
  go_enter Try.func66, Try.ntmps66
  go_wp2
  go_ret
  exact ⟨rfl, rfl⟩
theorem made_no (g : Nat) (w : World) (hc : w.cell? ⟨g, 0, none⟩ = some (.int .u8 0)) : Calls Try.prog 66 #[.pointer (some ⟨g, 0, none⟩)] w fun e w' => e = .returned (.bool false) ∧ w = w' := by
  go_enter Try.func66, Try.ntmps66
  go_wp2
  go_ret
  exact ⟨rfl, rfl⟩

theorem power_any (g : Nat) (x : Int) (w : World) (h : FldAt w g) (h0 : 0 ≤ x) (h1 : x ≤ 9223372036854775807) :
    Calls Try.prog 67 #[.pointer (some ⟨g, 0, none⟩), .int .i64 x] w fun e w' => e = .returned (.int .u8 (ex x.toNat : Int)) ∧ w = w' := by
  obtain ⟨n, rfl⟩ := Int.eq_ofNat_of_zero_le h0
  have hlt : n % 255 < 255 := Nat.mod_lt _ (by omega)
  have hc := h.pow (n % 255) hlt
  rw [ex_mod] at hc
  have hm : ((n : Int) % 255).toNat = n % 255 := by omega
  generalize hE : (ex n : Int) = E at *
  have HE := Lib.hid hE
  clear h hE
  go_enter Try.func67, Try.ntmps67
  go_wp2
  go_ret
  exact ⟨ret_int (by simpa using HE.out.symm), rfl⟩

theorem power_q (g : Nat) (x : Int) (w : World) (h : FldAt w g) (h0 : 0 ≤ x) (h1 : x ≤ 9223372036854775807) (n : Nat) :
    Calls Try.prog 67 #[.pointer (some ⟨g, 0, none⟩), .int .i64 x] (w.drewN n) fun e w'' => e = .returned (.int .u8 (ex x.toNat : Int)) ∧ ∃ m, w'' = w.drewN m :=
  (power_any g x (w.drewN n) (h.drewN n) h0 h1).mono fun _ _ ⟨he, hw⟩ => ⟨he, n, hw.symm⟩
theorem add_any (g : Nat) (a b : Nat) (w : World) (h : FldAt w g) (ha : a < 256) (hb : b < 256) :
    Calls Try.prog 58 #[.pointer (some ⟨g, 0, none⟩), .int .u8 (a : Int), .int .u8 (b : Int)] w fun e w' => e = .returned (.int .u8 ((a ^^^ b : Nat) : Int)) ∧ w = w' := by
  have hx := u8_xor_nat a b ha hb
  go_enter Try.func58, Try.ntmps58
  go_wp2_with (go_at_call 66; refine (made_yes _ _ h).mono ?_; rintro e w' ⟨rfl, rfl⟩)
  go_ret
  exact ⟨rfl, rfl⟩

set_option maxRecDepth 100000 in
theorem mul_nz (g : Nat) (a b : Nat) (w : World) (h : FldAt w g) (ha : a < 256) (hb : b < 256) (a0 : 0 < a) (b0 : 0 < b) :
    Calls Try.prog 88 #[.pointer (some ⟨g, 0, none⟩), .int .u8 (a : Int), .int .u8 (b : Int)] w (Still w (.int .u8 (mul a b : Int))) := by
  have hc := h.log a ha
  have hd := h.log b hb
  have hl := lg_lt a ha
  have hl' := lg_lt b hb
  have hq : ((a : Int) == 0) = false := beq_eq_false_iff_ne.2 (by omega)
  have hq' : ((b : Int) == 0) = false := beq_eq_false_iff_ne.2 (by omega)
  have HM : Hid (mul a b = ex (lg a + lg b)) := by show mul a b = _; rw [mul, if_neg (by omega), ex_mod]
  generalize lg a = L at *
  generalize lg b = L' at *
  have ia : (a : Int) < 256 := by omega
  have ib : (b : Int) < 256 := by omega
  have ia0 : (0 : Int) ≤ (a : Int) := by omega
  have ib0 : (0 : Int) ≤ (b : Int) := by omega
  have KQ := Lib.hid (power_q g ((L : Int) + (L' : Int)) w h (by omega) (by omega))
  have hw1 : IntKind.i64.wrap ((L : Int) + (L' : Int)) = (L : Int) + (L' : Int) := IntWalk.i64_in _ (by omega)
  go_enter Try.func88, Try.ntmps88
  go_wp2_with (go_at_call 66; refine (made_yes _ _ h).mono ?_; rintro e w' ⟨rfl, rfl⟩)
  go_quiet ((go_at_call 67; exact KQ.out _))
  go_wp2
  go_ret
  refine ⟨ret_int ?_, _, rfl⟩
  rw [HM.out]
  rfl
theorem mul_any (g : Nat) (a b : Nat) (w : World) (h : FldAt w g) (ha : a < 256) (hb : b < 256) :
    Calls Try.prog 88 #[.pointer (some ⟨g, 0, none⟩), .int .u8 (a : Int), .int .u8 (b : Int)] w (Still w (.int .u8 (mul a b : Int))) := by
  by_cases a0 : a = 0
  · subst a0
    rw [zero_mul]
    go_enter Try.func88, Try.ntmps88
    go_wp2_with (go_at_call 66; refine (made_yes _ _ h).mono ?_; rintro e w' ⟨rfl, rfl⟩)
    go_ret
    exact ⟨rfl, 0, rfl⟩
  by_cases b0 : b = 0
  · subst b0
    rw [mul_zero]
    have hq : ((a : Int) == 0) = false := beq_eq_false_iff_ne.2 (by omega)
    go_enter Try.func88, Try.ntmps88
    go_wp2_with (go_at_call 66; refine (made_yes _ _ h).mono ?_; rintro e w' ⟨rfl, rfl⟩)
    go_ret
    exact ⟨rfl, 0, rfl⟩
  exact mul_nz g a b w h ha hb (by omega) (by omega)

set_option maxRecDepth 100000 in
theorem div_nz (g : Nat) (a b : Nat) (w : World) (h : FldAt w g) (ha : a < 256) (hb : b < 256) (a0 : 0 < a) (b0 : 0 < b) :
    Calls Try.prog 54 #[.pointer (some ⟨g, 0, none⟩), .int .u8 (a : Int), .int .u8 (b : Int)] w (Still w (.tuple #[.int .u8 (quo a b : Int), .int .i64 0])) := by
  have hc := h.log a ha
  have hd := h.log b hb
  have hl := lg_lt a ha
  have hl' := lg_lt b hb
  have hq : ((a : Int) == 0) = false := beq_eq_false_iff_ne.2 (by omega)
  have hq' : ((b : Int) == 0) = false := beq_eq_false_iff_ne.2 (by omega)
  have HM : Hid (quo a b = ex (lg a + 255 - lg b)) := by show quo a b = _; rw [quo, if_neg (by omega), ex_mod]
  generalize lg a = L at *
  generalize lg b = L' at *
  have ia : (a : Int) < 256 := by omega
  have ib : (b : Int) < 256 := by omega
  have ia0 : (0 : Int) ≤ (a : Int) := by omega
  have ib0 : (0 : Int) ≤ (b : Int) := by omega
  have KQ := Lib.hid (power_q g ((L : Int) + 255 - (L' : Int)) w h (by omega) (by omega))
  have hw0 : IntKind.i64.wrap ((L : Int) + 255) = (L : Int) + 255 := IntWalk.i64_in _ (by omega)
  have hw1 : IntKind.i64.wrap ((L : Int) + 255 - (L' : Int)) = (L : Int) + 255 - (L' : Int) := IntWalk.i64_in _ (by omega)
  go_enter Try.func54, Try.ntmps54
  go_wp2_with (go_at_call 66; refine (made_yes _ _ h).mono ?_; rintro e w' ⟨rfl, rfl⟩)
  go_quiet ((go_at_call 67; exact KQ.out _))
  go_wp2
  go_ret2
  have e : ((L : Int) + 255 - (L' : Int)).toNat = L + 255 - L' := by omega
  rw [HM.out, e]
  exact ⟨rfl, _, rfl⟩
theorem div_any (g : Nat) (a b : Nat) (w : World) (h : FldAt w g) (ha : a < 256) (hb : b < 256) (b0 : b ≠ 0) :
    Calls Try.prog 54 #[.pointer (some ⟨g, 0, none⟩), .int .u8 (a : Int), .int .u8 (b : Int)] w (Still w (.tuple #[.int .u8 (quo a b : Int), .int .i64 0])) := by
  by_cases a0 : a = 0
  · subst a0
    have hq' : ((b : Int) == 0) = false := beq_eq_false_iff_ne.2 (by omega)
    have e : (quo 0 b : Int) = 0 := rfl
    rw [e]
    go_enter Try.func54, Try.ntmps54
    go_wp2_with (go_at_call 66; refine (made_yes _ _ h).mono ?_; rintro e w' ⟨rfl, rfl⟩)
    go_ret2
    exact ⟨rfl, 0, rfl⟩
  exact div_nz g a b w h ha hb (by omega) (by omega)
theorem div_zero (g : Nat) (a : Nat) (w : World) (h : FldAt w g) :
    Calls Try.prog 54 #[.pointer (some ⟨g, 0, none⟩), .int .u8 (a : Int), .int .u8 0] w (Still w (.tuple #[.int .u8 0, .int .i64 20])) := by
  go_enter Try.func54, Try.ntmps54
  go_wp2_with (go_at_call 66; refine (made_yes _ _ h).mono ?_; rintro e w' ⟨rfl, rfl⟩)
  go_ret2
  exact ⟨rfl, 0, rfl⟩
theorem inv_any (g : Nat) (b : Nat) (w : World) (h : FldAt w g) (hb : b < 256) (b0 : b ≠ 0) :
    Calls Try.prog 40 #[.pointer (some ⟨g, 0, none⟩), .int .u8 (b : Int)] w (Still w (.tuple #[.int .u8 (quo 1 b : Int), .int .i64 0])) := by
  go_enter Try.func40, Try.ntmps40
  go_wp2_with (go_at_call 54; refine (div_any _ 1 _ _ h (by omega) hb b0).mono ?_; rintro e w' ⟨rfl, n, rfl⟩)
  go_ret2
  exact ⟨rfl, n, rfl⟩
theorem inv_zero (g : Nat) (w : World) (h : FldAt w g) :
    Calls Try.prog 40 #[.pointer (some ⟨g, 0, none⟩), .int .u8 0] w (Still w (.tuple #[.int .u8 0, .int .i64 20])) := by
  go_enter Try.func40, Try.ntmps40
  go_wp2_with (go_at_call 54; refine (div_zero _ 1 _ h).mono ?_; rintro e w' ⟨rfl, n, rfl⟩)
  go_ret2
  exact ⟨rfl, n, rfl⟩
end Go.Proofs.Ytkkpfehgobanbaa
