/- Sums, products of matrices, and that no row vector but nought is tied by a square part of a Cauchy matrix: plain. Nothing here speaks of a program. -/
import Derived.Test.YtkkpfehgobanbaaElts
set_option maxRecDepth 100000
namespace Go.Coop

/-- a sum -/
def xs : Nat → (Nat → Nat) → Nat
  | 0, _ => 0
  | n + 1, f => xs n f ^^^ f n
theorem xs_lt {n : Nat} {f : Nat → Nat} (h : ∀ i, i < n → f i < 256) : xs n f < 256 := by
  induction n with
  | zero => exact (by decide : 0 < 256)
  | succ n ih => exact xor_lt _ _ (ih fun i hi => h i (by omega)) (h n (by omega))
theorem xs_congr {n : Nat} {f g : Nat → Nat} (h : ∀ i, i < n → f i = g i) : xs n f = xs n g := by
  induction n with
  | zero => rfl
  | succ n ih => show xs n f ^^^ f n = xs n g ^^^ g n; rw [ih fun i hi => h i (by omega), h n (by omega)]
theorem xs_zero {n : Nat} {f : Nat → Nat} (h : ∀ i, i < n → f i = 0) : xs n f = 0 := by
  induction n with
  | zero => rfl
  | succ n ih => show xs n f ^^^ f n = 0; rw [ih fun i hi => h i (by omega), h n (by omega)]; rfl
theorem xor_four (a b c d : Nat) : (a ^^^ b) ^^^ (c ^^^ d) = (a ^^^ c) ^^^ (b ^^^ d) := by
  rw [Nat.xor_assoc, ← Nat.xor_assoc b c d, Nat.xor_comm b c, Nat.xor_assoc c b d, ← Nat.xor_assoc a c]
theorem xs_xor (n : Nat) (f g : Nat → Nat) : xs n (fun i => f i ^^^ g i) = xs n f ^^^ xs n g := by
  induction n with
  | zero => simp [xs]
  | succ n ih => show xs n _ ^^^ (f n ^^^ g n) = (xs n f ^^^ f n) ^^^ (xs n g ^^^ g n); rw [ih, xor_four]
theorem xs_mul {n : Nat} {f : Nat → Nat} (c : Nat) (h : ∀ i, i < n → f i < 256) : mul c (xs n f) = xs n (fun i => mul c (f i)) := by
  induction n with
  | zero => exact mul_zero c
  | succ n ih =>
    show mul c (xs n f ^^^ f n) = xs n _ ^^^ mul c (f n)
    rw [mul_dist c _ _ (xs_lt fun i hi => h i (by omega)) (h n (by omega)), ih fun i hi => h i (by omega)]
theorem xs_swap (n m : Nat) (f : Nat → Nat → Nat) : xs n (fun i => xs m (fun j => f i j)) = xs m (fun j => xs n (fun i => f i j)) := by
  induction n with
  | zero => exact (xs_zero fun _ _ => rfl).symm
  | succ n ih =>
    show xs n _ ^^^ xs m _ = xs m (fun j => xs n (fun i => f i j) ^^^ f n j)
    rw [ih, xs_xor]
theorem xs_one {n k : Nat} {f : Nat → Nat} (hk : k < n) (h : ∀ i, i < n → i ≠ k → f i = 0) : xs n f = f k := by
  induction n with
  | zero => omega
  | succ n ih =>
    show xs n f ^^^ f n = f k
    by_cases e : k = n
    · subst e; rw [xs_zero fun i hi => h i (by omega) (by omega), Nat.zero_xor]
    · rw [ih (by omega) fun i hi => h i (by omega), h n (by omega) (by omega), Nat.xor_zero]

/-- products of matrices, n the inner side -/
def mm (n : Nat) (A B : Nat → Nat → Nat) (i j : Nat) : Nat := xs n fun k => mul (A i k) (B k j)
def unitM (i j : Nat) : Nat := if i = j then 1 else 0
theorem mm_lt (n : Nat) (A B : Nat → Nat → Nat) (i j : Nat) : mm n A B i j < 256 := xs_lt fun _ _ => mul_lt _ _
theorem mm_assoc (n m : Nat) (A B C : Nat → Nat → Nat) (i j : Nat) : mm m (mm n A B) C i j = mm n A (mm m B C) i j := by
  unfold mm
  have h1 : (xs m fun k => mul (xs n fun l => mul (A i l) (B l k)) (C k j)) = xs m fun k => xs n fun l => mul (A i l) (mul (B l k) (C k j)) := xs_congr fun k _ => by
    rw [mul_comm, xs_mul _ fun _ _ => mul_lt _ _]
    exact xs_congr fun l _ => by rw [mul_comm, mul_assoc]
  have h2 : (xs n fun l => mul (A i l) (xs m fun k => mul (B l k) (C k j))) = xs n fun l => xs m fun k => mul (A i l) (mul (B l k) (C k j)) := xs_congr fun l _ => xs_mul _ fun _ _ => mul_lt _ _
  rw [h1, h2, xs_swap]
theorem one_mul (a : Nat) (h : a < 256) : mul 1 a = a := by rw [mul_comm, mul_one a h]
theorem mm_unit_l (n : Nat) (A : Nat → Nat → Nat) (i j : Nat) (hi : i < n) (hA : A i j < 256) : mm n unitM A i j = A i j := by
  unfold mm
  rw [xs_one hi fun k _ hk => by rw [unitM, if_neg (fun e => hk e.symm), zero_mul]]
  rw [unitM, if_pos rfl, one_mul _ hA]
theorem mm_unit_r (n : Nat) (A : Nat → Nat → Nat) (i j : Nat) (hj : j < n) (hA : A i j < 256) : mm n A unitM i j = A i j := by
  unfold mm
  rw [xs_one hj fun k _ hk => by rw [unitM, if_neg hk, mul_zero]]
  rw [unitM, if_pos rfl, mul_one _ hA]
theorem mm_congr {n : Nat} {A A' B B' : Nat → Nat → Nat} {i j : Nat} (hA : ∀ k, k < n → A i k = A' i k) (hB : ∀ k, k < n → B k j = B' k j) : mm n A B i j = mm n A' B' i j :=
  xs_congr fun k hk => by rw [hA k hk, hB k hk]
/-- Two inverses from the two sides are one. -/
theorem inv_sides (n : Nat) (A L R : Nat → Nat → Nat) (hL : ∀ i j, i < n → j < n → mm n L A i j = unitM i j) (hR : ∀ i j, i < n → j < n → mm n A R i j = unitM i j)
    (bL : ∀ i j, L i j < 256) (bR : ∀ i j, R i j < 256) (i j : Nat) (hi : i < n) (hj : j < n) : L i j = R i j := by
  have h1 : mm n (mm n L A) R i j = R i j := by
    rw [mm_congr (A' := unitM) (B' := R) (fun k hk => hL i k hi hk) (fun _ _ => rfl)]
    exact mm_unit_l n R i j hi (bR i j)
  have h2 : mm n L (mm n A R) i j = L i j := by
    rw [mm_congr (A' := L) (B' := unitM) (fun _ _ => rfl) (fun k hk => hR k j hk hj)]
    exact mm_unit_r n L i j hj (bL i j)
  rw [← h2, ← mm_assoc, h1]

/-- the inverse of an element -/
def iv (a : Nat) : Nat := quo 1 a
theorem iv_lt (a : Nat) : iv a < 256 := quo_lt 1 a
theorem iv_mul (a : Nat) (h0 : a ≠ 0) (h : a < 256) : mul (iv a) a = 1 := quo_mul 1 a (by omega) h0 h
theorem mul_iv (a : Nat) (h0 : a ≠ 0) (h : a < 256) : mul a (iv a) = 1 := by rw [mul_comm, iv_mul a h0 h]
theorem iv_ne (a : Nat) (h0 : a ≠ 0) (h : a < 256) : iv a ≠ 0 := fun e => by
  have := iv_mul a h0 h
  rw [e, zero_mul] at this
  omega
theorem mul_eq_zero {a b : Nat} (h : mul a b = 0) : a = 0 ∨ b = 0 := by
  by_cases ha : a = 0
  · exact .inl ha
  · by_cases hb : b = 0
    · exact .inr hb
    · exact absurd h (mul_ne a b ha hb)
theorem xor_ne {a b : Nat} (h : a ≠ b) : a ^^^ b ≠ 0 := fun e => h (by
  have : (a ^^^ b) ^^^ b = 0 ^^^ b := by rw [e]
  rwa [Nat.xor_assoc, Nat.xor_self, Nat.xor_zero, Nat.zero_xor] at this)
theorem xor_via (a b c : Nat) : a ^^^ c = (a ^^^ b) ^^^ (b ^^^ c) := by
  rw [Nat.xor_assoc, ← Nat.xor_assoc b b c, Nat.xor_self, Nat.zero_xor]

/-- a sum of two inverses -/
theorem iv_sum (p q : Nat) (hp : p ≠ 0) (hp' : p < 256) (hq : q ≠ 0) (hq' : q < 256) : iv p ^^^ iv q = mul (p ^^^ q) (mul (iv p) (iv q)) := by
  rw [mul_dist' _ p q hp' hq', ← mul_assoc p, mul_iv p hp hp', one_mul _ (iv_lt q), mul_comm (iv p) (iv q), ← mul_assoc q, mul_iv q hq hq', one_mul _ (iv_lt p), Nat.xor_comm]
/-- the step from a Cauchy matrix to the one with a row and a column less -/
theorem cauchy_step (xi xn yj yn : Nat) (b1 : xi < 256) (b2 : xn < 256) (b3 : yj < 256) (b4 : yn < 256) (h1 : xi ≠ yj) (h2 : xi ≠ yn) :
    mul (xn ^^^ yj) (iv (xi ^^^ yj)) ^^^ mul (xn ^^^ yn) (iv (xi ^^^ yn)) = mul (mul (xn ^^^ xi) (iv (xi ^^^ yn))) (mul (yj ^^^ yn) (iv (xi ^^^ yj))) := by
  have p0 := xor_ne h1
  have q0 := xor_ne h2
  have pl := xor_lt xi yj b1 b3
  have ql := xor_lt xi yn b1 b4
  have dl := xor_lt xn xi b2 b1
  have e : ∀ y, y < 256 → xi ≠ y → mul (xn ^^^ y) (iv (xi ^^^ y)) = mul (xn ^^^ xi) (iv (xi ^^^ y)) ^^^ 1 := by
    intro y hy hne
    rw [xor_via xn xi y, mul_dist' _ _ _ dl (xor_lt xi y b1 hy), mul_iv _ (xor_ne hne) (xor_lt xi y b1 hy)]
  rw [e yj b3 h1, e yn b4 h2, xor_four, Nat.xor_self, Nat.xor_zero, ← mul_dist _ _ _ (iv_lt _) (iv_lt _), iv_sum _ _ p0 pl q0 ql]
  have e2 : (xi ^^^ yj) ^^^ (xi ^^^ yn) = yj ^^^ yn := by rw [Nat.xor_comm xi yj]; exact (xor_via yj xi yn).symm
  rw [e2, mul_assoc (xn ^^^ xi)]
  congr 1
  rw [mul_comm (iv (xi ^^^ yj)), ← mul_assoc, mul_comm (yj ^^^ yn), mul_assoc]

/-- **No row vector but nought is tied by a square part of a Cauchy matrix.** -/
theorem cauchy_free (n : Nat) : ∀ (x y v : Nat → Nat), (∀ i, i < n → x i < 256) → (∀ j, j < n → y j < 256) → (∀ i j, i < n → j < n → x i ≠ y j) → (∀ i j, i < n → j < n → i ≠ j → x i ≠ x j) → (∀ i j, i < n → j < n → i ≠ j → y i ≠ y j) →
    (∀ i, i < n → v i < 256) → (∀ j, j < n → xs n (fun i => mul (v i) (iv (x i ^^^ y j))) = 0) → ∀ i, i < n → v i = 0 := by
  induction n with
  | zero => intro x y v _ _ _ _ _ _ _ i hi; omega
  | succ n ih =>
    intro x y v bx by_ hxy hxx hyy bv hs
    have hlow : ∀ i, i < n → v i = 0 := by
      have hw := ih x y (fun i => mul (v i) (mul (x n ^^^ x i) (iv (x i ^^^ y n)))) (fun i hi => bx i (by omega)) (fun j hj => by_ j (by omega)) (fun i j hi hj => hxy i j (by omega) (by omega)) (fun i j hi hj => hxx i j (by omega) (by omega)) (fun i j hi hj => hyy i j (by omega) (by omega)) (fun _ _ => mul_lt _ _) (by
        intro j hj
        have hj1 := hs j (by omega)
        have hn1 := hs n (by omega)
        have hyj : y j ^^^ y n ≠ 0 := xor_ne (hyy j n (by omega) (by omega) (by omega))
        have key : mul (y j ^^^ y n) (xs n fun i => mul (mul (v i) (mul (x n ^^^ x i) (iv (x i ^^^ y n)))) (iv (x i ^^^ y j))) = 0 := by
          rw [xs_mul _ fun _ _ => mul_lt _ _]
          have e1 : mul (x n ^^^ y j) (xs (n + 1) fun i => mul (v i) (iv (x i ^^^ y j))) ^^^ mul (x n ^^^ y n) (xs (n + 1) fun i => mul (v i) (iv (x i ^^^ y n))) = 0 := by rw [hj1, hn1, mul_zero, mul_zero]; rfl
          rw [xs_mul _ fun _ _ => mul_lt _ _, xs_mul _ fun _ _ => mul_lt _ _, ← xs_xor] at e1
          have e2 : ∀ i, i < n + 1 → mul (x n ^^^ y j) (mul (v i) (iv (x i ^^^ y j))) ^^^ mul (x n ^^^ y n) (mul (v i) (iv (x i ^^^ y n))) = mul (v i) (mul (mul (x n ^^^ x i) (iv (x i ^^^ y n))) (mul (y j ^^^ y n) (iv (x i ^^^ y j)))) := by
            intro i hi
            rw [← cauchy_step (x i) (x n) (y j) (y n) (bx i hi) (bx n (by omega)) (by_ j (by omega)) (by_ n (by omega)) (hxy i j hi (by omega)) (hxy i n hi (by omega)), mul_dist _ _ _ (mul_lt _ _) (mul_lt _ _)]
            congr 1
            · rw [← mul_assoc, mul_comm (x n ^^^ y j) (v i), mul_assoc]
            · rw [← mul_assoc, mul_comm (x n ^^^ y n) (v i), mul_assoc]
          rw [xs_congr e2] at e1
          have e3 : mul (v n) (mul (mul (x n ^^^ x n) (iv (x n ^^^ y n))) (mul (y j ^^^ y n) (iv (x n ^^^ y j)))) = 0 := by rw [Nat.xor_self, zero_mul, zero_mul, mul_zero]
          have e4 : (xs n fun i => mul (v i) (mul (mul (x n ^^^ x i) (iv (x i ^^^ y n))) (mul (y j ^^^ y n) (iv (x i ^^^ y j))))) = 0 := by
            have h5 : (xs n fun i => mul (v i) (mul (mul (x n ^^^ x i) (iv (x i ^^^ y n))) (mul (y j ^^^ y n) (iv (x i ^^^ y j))))) ^^^ mul (v n) (mul (mul (x n ^^^ x n) (iv (x n ^^^ y n))) (mul (y j ^^^ y n) (iv (x n ^^^ y j)))) = 0 := e1
            rwa [e3, Nat.xor_zero] at h5
          rw [← e4]
          refine xs_congr fun i _ => ?_
          rw [mul_assoc (v i), ← mul_assoc (y j ^^^ y n), mul_comm (y j ^^^ y n) (v i), mul_assoc (v i)]
          congr 1
          rw [← mul_assoc, mul_comm (y j ^^^ y n), mul_assoc]
        rcases mul_eq_zero key with h | h
        · exact absurd h hyj
        · exact h)
      intro i hi
      have h := hw i hi
      have d0 : x n ^^^ x i ≠ 0 := xor_ne (hxx n i (by omega) (by omega) (by omega))
      have q0 := xor_ne (hxy i n (by omega) (by omega))
      have ql := xor_lt (x i) (y n) (bx i (by omega)) (by_ n (by omega))
      rcases mul_eq_zero h with h | h
      · exact h
      · exact absurd h (mul_ne _ _ d0 (iv_ne _ q0 ql))
    intro i hi
    by_cases e : i < n
    · exact hlow i e
    · obtain rfl : i = n := by omega
      have h : xs i (fun k => mul (v k) (iv (x k ^^^ y i))) ^^^ mul (v i) (iv (x i ^^^ y i)) = 0 := hs i (by omega)
      rw [xs_zero fun k hk => by rw [hlow k hk, zero_mul], Nat.zero_xor] at h
      rcases mul_eq_zero h with h | h
      · exact h
      · exact absurd h (iv_ne _ (xor_ne (hxy i i hi hi)) (xor_lt _ _ (bx i hi) (by_ i hi)))
end Go.Coop
