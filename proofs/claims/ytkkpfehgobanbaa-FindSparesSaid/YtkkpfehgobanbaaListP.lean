/- Dot goes into sums, and through a factor; laid twice it is as it was: plain. Nothing here speaks of a program. -/
import Derived.Test.YtkkpfehgobanbaaLists
set_option maxRecDepth 100000
namespace Go.Coop

theorem foldl_xor (l : List (UInt8 × UInt8)) : ∀ s : Nat, l.foldl (fun s p => s ^^^ mul p.1.toNat p.2.toNat) s = s ^^^ dotZ l := by
  induction l with
  | nil => intro s; exact (Nat.xor_zero s).symm
  | cons p l ih =>
    intro s
    show l.foldl _ (s ^^^ mul p.1.toNat p.2.toNat) = s ^^^ l.foldl _ (0 ^^^ mul p.1.toNat p.2.toNat)
    rw [ih, ih, Nat.zero_xor, Nat.xor_assoc]
theorem dot_cons (x y : UInt8) (a b : List UInt8) : dot (x :: a) (y :: b) = mul x.toNat y.toNat ^^^ dot a b := by
  show (List.zip (x :: a) (y :: b)).foldl _ 0 = _
  rw [List.zip_cons_cons, List.foldl_cons, foldl_xor, Nat.zero_xor]
  rfl
theorem dot_nil_l (b : List UInt8) : dot [] b = 0 := rfl
theorem dot_nil_r (a : List UInt8) : dot a [] = 0 := by unfold dot; rw [List.zip_nil_right]; rfl
theorem dot_lt (a b : List UInt8) : dot a b < 256 := dotZ_lt _
theorem dot_comm : ∀ a b : List UInt8, dot a b = dot b a := by
  intro a
  induction a with
  | nil => intro b; rw [dot_nil_l, dot_nil_r]
  | cons x a ih =>
    intro b
    cases b with
    | nil => rw [dot_nil_l, dot_nil_r]
    | cons y b => rw [dot_cons, dot_cons, ih, mul_comm]
theorem dot_sum : ∀ a b z : List UInt8, a.length = b.length → dot (lay 1 a b) z = dot a z ^^^ dot b z := by
  intro a
  induction a with
  | nil => intro b z h; have : b = [] := List.eq_nil_of_length_eq_zero h.symm; subst this; rw [lay_nil]; simp [dot_nil_l]
  | cons x a ih =>
    intro b z h
    cases b with
    | nil => cases h
    | cons y b =>
      cases z with
      | nil => rw [dot_nil_r, dot_nil_r, dot_nil_r]; rfl
      | cons q z =>
        show dot (lay1 1 x y :: lay 1 a b) (q :: z) = _
        rw [dot_cons, dot_cons, dot_cons, ih b z (by simpa using h), lay1_nat, mul_comm 1, mul_one _ y.toNat_lt, mul_dist' _ _ _ x.toNat_lt y.toNat_lt]
        rw [Nat.xor_assoc, Nat.xor_assoc, ← Nat.xor_assoc (mul y.toNat q.toNat), Nat.xor_comm (mul y.toNat q.toNat) (dot a z), Nat.xor_assoc]
theorem dot_scale (c : Nat) (a : List UInt8) : ∀ b : List UInt8, dot (lay c (List.replicate a.length 0) a) b = mul c (dot a b) := by
  induction a with
  | nil => intro b; rw [dot_nil_l, mul_zero]; rfl
  | cons x a ih =>
    intro b
    cases b with
    | nil => rw [dot_nil_r, dot_nil_r, mul_zero]
    | cons y b =>
      show dot (lay1 c 0 x :: lay c (List.replicate a.length 0) a) (y :: b) = _
      rw [dot_cons, dot_cons, ih b, lay1_nat, mul_dist c _ _ (mul_lt _ _) (dot_lt _ _), ← mul_assoc]
      rw [show (0 : UInt8).toNat = 0 from rfl, Nat.zero_xor]
theorem lay_twice (c d : Nat) (hc : c < 256) (hd : d < 256) : ∀ a b : List UInt8, lay d (lay c a b) b = lay (c ^^^ d) a b := by
  intro a
  induction a with
  | nil => intro b; cases b <;> rfl
  | cons o a ih =>
    intro b
    cases b with
    | nil => rfl
    | cons x b =>
      show lay1 d (lay1 c o x) x :: lay d (lay c a b) b = lay1 (c ^^^ d) o x :: lay (c ^^^ d) a b
      rw [ih b]
      congr 1
      apply UInt8.toNat_inj.1
      rw [lay1_nat, lay1_nat, lay1_nat, mul_dist' _ c d hc hd, Nat.xor_assoc]
theorem lay_zero : ∀ a b : List UInt8, lay 0 a b = a := by
  intro a
  induction a with
  | nil => intro b; cases b <;> rfl
  | cons o a ih =>
    intro b
    cases b with
    | nil => rfl
    | cons x b =>
      show lay1 0 o x :: lay 0 a b = _
      rw [ih b]
      congr 1
      apply UInt8.toNat_inj.1
      rw [lay1_nat, zero_mul, Nat.xor_zero]
theorem lay_back (c : Nat) (hc : c < 256) (a b : List UInt8) : lay c (lay c a b) b = a := by
  rw [lay_twice c c hc hc, Nat.xor_self, lay_zero]
end Go.Coop
