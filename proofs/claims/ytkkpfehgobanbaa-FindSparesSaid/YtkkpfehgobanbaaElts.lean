/- The field of 256 elements, plain: doubling, powers of two, logarithms, products, and that products go into sums. Nothing here speaks of a program. -/
namespace Go.Coop

/-- twice an element -/
def nx (p : Nat) : Nat := if 256 ≤ 2 * p then (2 * p) ^^^ 285 else 2 * p
def ex : Nat → Nat
  | 0 => 1
  | k + 1 => nx (ex k)
def iter : Nat → Nat → Nat
  | 0, b => b
  | k + 1, b => nx (iter k b)
def exG : Nat → Nat → List Nat
  | 0, _ => []
  | k + 1, p => p :: exG k (nx p)
def exL : List Nat := exG 255 1
def lg (x : Nat) : Nat := if x = 0 then 0 else exL.idxOf x
def mul (a b : Nat) : Nat := if a = 0 ∨ b = 0 then 0 else ex ((lg a + lg b) % 255)

theorem nx_small : ∀ p, p < 256 → nx p < 256 ∧ (p ≠ 0 → nx p ≠ 0) := by decide +kernel
theorem nx_zero : nx 0 = 0 := by decide
theorem nx_lin_all : (List.range 256).all (fun p => (List.range 256).all fun q => Nat.beq (nx (p ^^^ q)) (nx p ^^^ nx q)) = true := by decide +kernel
theorem nx_lin (p : Nat) (hp : p < 256) (q : Nat) (hq : q < 256) : nx (p ^^^ q) = nx p ^^^ nx q :=
  Nat.eq_of_beq_eq_true (List.all_eq_true.1 (List.all_eq_true.1 nx_lin_all p (by simpa using hp)) q (by simpa using hq))
theorem ex_pos (i : Nat) : ex i < 256 ∧ ex i ≠ 0 := by
  induction i with
  | zero => decide
  | succ k ih => exact ⟨(nx_small _ ih.1).1, (nx_small _ ih.1).2 ih.2⟩
theorem exL_go (k : Nat) : ∀ (j i : Nat), i < k → (exG k (ex j))[i]? = some (ex (j + i)) := by
  induction k with
  | zero => intro j i h; omega
  | succ k ih =>
    intro j i h
    cases i with
    | zero => simp [exG]
    | succ i =>
      simp only [exG, List.getElem?_cons_succ]
      have := ih (j + 1) i (by omega)
      rw [show ex (j + 1) = nx (ex j) from rfl] at this
      rw [this, show j + 1 + i = j + (i + 1) from by omega]
theorem exL_at (i : Nat) (h : i < 255) : exL[i]? = some (ex i) := by
  have := exL_go 255 0 i h
  rw [Nat.zero_add] at this
  exact this
theorem exL_len : exL.length = 255 := by decide +kernel
theorem ex_255 : ex 255 = 1 := by decide +kernel
theorem lg_all : (List.range 255).all (fun i => exL.idxOf (exL.getD i 0) == i) = true := by decide +kernel
theorem lg_every : (List.range 256).all (fun x => x == 0 || exL.contains x) = true := by decide +kernel
theorem lg_ex (i : Nat) (h : i < 255) : lg (ex i) = i := by
  have h1 := List.all_eq_true.1 lg_all i (by simpa using h)
  rw [List.getD_eq_getElem?_getD, exL_at i h] at h1
  unfold lg
  rw [if_neg (ex_pos i).2]
  simpa using h1
theorem ex_lg (x : Nat) (h0 : x ≠ 0) (h : x < 256) : ex (lg x) = x ∧ lg x < 255 := by
  have h1 := List.all_eq_true.1 lg_every x (by simpa using h)
  have h2 : x ∈ exL := by simpa [h0] using h1
  obtain ⟨i, hi, e⟩ := List.mem_iff_getElem.1 h2
  rw [exL_len] at hi
  have h3 := exL_at i hi
  rw [List.getElem?_eq_getElem (by rw [exL_len]; exact hi), e] at h3
  injection h3 with h3
  subst h3
  rw [lg_ex i hi]
  exact ⟨rfl, hi⟩
theorem lg_lt (x : Nat) (h : x < 256) : lg x < 255 := by
  by_cases h0 : x = 0
  · subst h0; decide
  · exact (ex_lg x h0 h).2
theorem iter_add (j k b : Nat) : iter j (iter k b) = iter (j + k) b := by
  induction j with
  | zero => rw [Nat.zero_add]; rfl
  | succ j ih => rw [Nat.succ_add]; show nx _ = nx _; rw [ih]
theorem ex_iter (k : Nat) : ex k = iter k 1 := by
  induction k with
  | zero => rfl
  | succ k ih => show nx _ = nx _; rw [ih]
theorem ex_add (j k : Nat) : ex (j + k) = iter j (ex k) := by rw [ex_iter, ex_iter, iter_add]
theorem ex_period (k : Nat) : ex (k + 255) = ex k := by rw [ex_add, ex_255, ex_iter]
theorem ex_mod (k : Nat) : ex (k % 255) = ex k := by
  have : ∀ q r, ex (r + 255 * q) = ex r := by
    intro q
    induction q with
    | zero => intro r; rfl
    | succ q ih => intro r; rw [Nat.mul_succ, ← Nat.add_assoc, ex_period, ih]
  have h := this (k / 255) (k % 255)
  rw [Nat.mod_add_div] at h
  exact h.symm
theorem iter_zero (k : Nat) : iter k 0 = 0 := by
  induction k with
  | zero => rfl
  | succ k ih => show nx _ = 0; rw [ih]; decide
theorem iter_lt (k b : Nat) (h : b < 256) : iter k b < 256 := by
  induction k with
  | zero => exact h
  | succ k ih => exact (nx_small _ ih).1
theorem iter_lin (k p q : Nat) (hp : p < 256) (hq : q < 256) : iter k (p ^^^ q) = iter k p ^^^ iter k q := by
  induction k with
  | zero => rfl
  | succ k ih => show nx _ = nx _ ^^^ nx _; rw [ih]; exact nx_lin _ (iter_lt k p hp) _ (iter_lt k q hq)
theorem mul_iter (a b : Nat) (h0 : a ≠ 0) (hb : b < 256) : mul a b = iter (lg a) b := by
  unfold mul
  by_cases e : b = 0
  · subst e; rw [if_pos (.inr rfl), iter_zero]
  · rw [if_neg (by omega), ex_mod, ex_add, (ex_lg b e hb).1]
theorem xor_lt (a b : Nat) (ha : a < 256) (hb : b < 256) : a ^^^ b < 256 := Nat.xor_lt_two_pow (n := 8) ha hb
theorem mul_lt (a b : Nat) : mul a b < 256 := by
  unfold mul
  split
  · omega
  · exact (ex_pos _).1
theorem mul_zero (a : Nat) : mul a 0 = 0 := by unfold mul; rw [if_pos (.inr rfl)]
theorem zero_mul (a : Nat) : mul 0 a = 0 := by unfold mul; rw [if_pos (.inl rfl)]
theorem mul_comm (a b : Nat) : mul a b = mul b a := by
  unfold mul
  rw [Nat.add_comm (lg a) (lg b)]
  by_cases ha : a = 0 <;> by_cases hb : b = 0 <;> simp [ha, hb]
theorem mul_ne (a b : Nat) (ha : a ≠ 0) (hb : b ≠ 0) : mul a b ≠ 0 := by
  unfold mul
  rw [if_neg (by omega)]
  exact (ex_pos _).2
theorem lg_mul (a b : Nat) (ha : a ≠ 0) (hb : b ≠ 0) : lg (mul a b) = (lg a + lg b) % 255 := by
  unfold mul
  rw [if_neg (by omega), lg_ex _ (Nat.mod_lt _ (by omega))]
theorem mul_dist (a b c : Nat) (hb : b < 256) (hc : c < 256) : mul a (b ^^^ c) = mul a b ^^^ mul a c := by
  by_cases h0 : a = 0
  · subst h0; rw [zero_mul, zero_mul, zero_mul]; rfl
  · rw [mul_iter a _ h0 (xor_lt b c hb hc), mul_iter a b h0 hb, mul_iter a c h0 hc, iter_lin _ _ _ hb hc]
theorem mul_dist' (a b c : Nat) (hb : b < 256) (hc : c < 256) : mul (b ^^^ c) a = mul b a ^^^ mul c a := by
  rw [mul_comm, mul_dist a b c hb hc, mul_comm a b, mul_comm a c]
theorem mul_assoc (a b c : Nat) : mul (mul a b) c = mul a (mul b c) := by
  by_cases ha : a = 0
  · subst ha; rw [zero_mul, zero_mul, zero_mul]
  by_cases hb : b = 0
  · subst hb; rw [zero_mul, mul_zero, zero_mul]
  by_cases hc : c = 0
  · subst hc; rw [mul_zero, mul_zero, mul_zero]
  have h1 := lg_mul a b ha hb
  have h2 := lg_mul b c hb hc
  have n1 := mul_ne a b ha hb
  have n2 := mul_ne b c hb hc
  have e1 : mul (mul a b) c = ex ((lg (mul a b) + lg c) % 255) := by rw [mul, if_neg (by omega)]
  have e2 : mul a (mul b c) = ex ((lg a + lg (mul b c)) % 255) := by rw [mul, if_neg (by omega)]
  rw [e1, e2, h1, h2]
  congr 1
  omega
theorem lg_one : lg 1 = 0 := by decide
theorem mul_one (a : Nat) (h : a < 256) : mul a 1 = a := by
  by_cases h0 : a = 0
  · subst h0; exact zero_mul 1
  · rw [mul, if_neg (by omega), lg_one, Nat.add_zero, ex_mod, (ex_lg a h0 h).1]
/-- the quotient -/
def quo (a b : Nat) : Nat := if a = 0 then 0 else ex ((lg a + 255 - lg b) % 255)
theorem quo_lt (a b : Nat) : quo a b < 256 := by unfold quo; split; omega; exact (ex_pos _).1
theorem quo_mul (a b : Nat) (ha : a < 256) (h0 : b ≠ 0) (hb : b < 256) : mul (quo a b) b = a := by
  by_cases ha0 : a = 0
  · subst ha0; exact zero_mul b
  · have hl := lg_lt b hb
    have hq : quo a b = ex ((lg a + 255 - lg b) % 255) := by rw [quo, if_neg ha0]
    rw [hq, mul, if_neg (by have := (ex_pos ((lg a + 255 - lg b) % 255)).2; omega), lg_ex _ (Nat.mod_lt _ (by omega))]
    rw [show ((lg a + 255 - lg b) % 255 + lg b) % 255 = lg a % 255 from by omega, ex_mod, (ex_lg a ha0 ha).1]
theorem quo_one (a b : Nat) (hb' : b < 256) : quo a b = mul a (quo 1 b) := by
  by_cases ha0 : a = 0
  · subst ha0; rw [zero_mul]; rfl
  · have hl := lg_lt b hb'
    have hq : quo 1 b = ex ((lg 1 + 255 - lg b) % 255) := by rw [quo, if_neg (by omega)]
    rw [mul, if_neg (by have := (ex_pos ((lg 1 + 255 - lg b) % 255)).2; rw [hq]; omega), hq, lg_ex _ (Nat.mod_lt _ (by omega)), lg_one, quo, if_neg ha0]
    congr 1
    omega
/-- cancelling -/
theorem mul_cancel (a b c : Nat) (hb : b < 256) (hc : c < 256) (h0 : a ≠ 0) (h : mul a b = mul a c) : b = c := by
  by_cases e : b = 0
  · subst e
    by_cases e' : c = 0
    · exact e'.symm
    · exact absurd (h.symm.trans (mul_zero a)) (mul_ne a c h0 e')
  by_cases e' : c = 0
  · subst e'; exact absurd (h.trans (mul_zero a)) (mul_ne a b h0 e)
  have h1 := lg_mul a b h0 e
  have h2 := lg_mul a c h0 e'
  rw [h, h2] at h1
  have l1 := lg_lt b hb
  have l2 := lg_lt c hc
  have : lg b = lg c := by omega
  rw [← (ex_lg b e hb).1, ← (ex_lg c e' hc).1, this]
/-- powers -/
def pw (a : Nat) : Nat → Nat
  | 0 => 1
  | n + 1 => mul (pw a n) a
theorem pw_lt (a n : Nat) : pw a n < 256 := by
  cases n with
  | zero => exact (by decide : 1 < 256)
  | succ n => exact mul_lt _ _
theorem pw_zero (n : Nat) (h : n ≠ 0) : pw 0 n = 0 := by cases n; omega; exact mul_zero _
theorem pw_lg (a n : Nat) (h0 : a ≠ 0) : pw a n = ex (lg a * n) := by
  induction n with
  | zero => rfl
  | succ n ih =>
    have hx := (ex_pos (lg a * n)).2
    show mul (pw a n) a = _
    rw [ih, mul, if_neg (by omega), ex_mod, ← ex_mod (lg (ex (lg a * n)) + lg a), ← ex_mod (lg a * (n + 1))]
    congr 1
    have e : lg (ex (lg a * n)) = (lg a * n) % 255 := by rw [← ex_mod (lg a * n), lg_ex _ (Nat.mod_lt _ (by omega))]
    rw [e, Nat.mul_succ]
    omega
theorem pw_mod (a n : Nat) (h0 : a ≠ 0) : pw a n = ex ((lg a * (n % 255)) % 255) := by
  rw [pw_lg a n h0, ← ex_mod (lg a * n)]
  congr 1
  exact (Nat.mul_mod (lg a) n 255).trans (by rw [Nat.mul_mod (lg a) (n % 255) 255, Nat.mod_mod])
theorem pw_add (a n m : Nat) : mul (pw a n) (pw a m) = pw a (n + m) := by
  induction m with
  | zero => exact mul_one _ (pw_lt a n)
  | succ m ih => show mul (pw a n) (mul (pw a m) a) = mul (pw a (n + m)) a; rw [← mul_assoc, ih]
theorem pw_prod (a b n : Nat) : pw (mul a b) n = mul (pw a n) (pw b n) := by
  induction n with
  | zero => rfl
  | succ n ih =>
    show mul (pw (mul a b) n) (mul a b) = mul (mul (pw a n) a) (mul (pw b n) b)
    rw [ih, mul_assoc, mul_assoc, ← mul_assoc (pw b n) a b, mul_comm (pw b n) a, mul_assoc a]
theorem pw_two (a : Nat) (h : a < 256) : pw a 2 = mul a a := by
  show mul (mul 1 a) a = _
  rw [mul_comm 1 a, mul_one a h]
theorem pw_sum (a b : Nat) (ha : a < 256) (hb : b < 256) : pw (a ^^^ b) 2 = pw a 2 ^^^ pw b 2 := by
  rw [pw_two _ (xor_lt a b ha hb), pw_two a ha, pw_two b hb, mul_dist _ a b ha hb, mul_dist' a a b ha hb, mul_dist' b a b ha hb, mul_comm b a]
  rw [Nat.xor_assoc, ← Nat.xor_assoc (mul a b) (mul a b), Nat.xor_self, Nat.zero_xor]
theorem pw_255 (a : Nat) (h0 : a ≠ 0) : pw a 255 = 1 := by rw [pw_mod a 255 h0]; simp; rfl
theorem pw_dbl (a n : Nat) : pw (mul a a) n = pw a (2 * n) := by
  rw [pw_prod, pw_add, Nat.two_mul]

end Go.Coop
