/- The rank of a matrix, as the number of rows of a basis: that there is one number, and how it goes with products and rows picked: plain. Nothing here speaks of a program. -/
import Derived.Test.YtkkpfehgobanbaaDimP
set_option maxRecDepth 100000
namespace Go.Coop

/-- u, of m places, is a sum of multiples of the s rows of W -/
def Span (s : Nat) (W : Nat → Nat → Nat) (m : Nat) (u : Nat → Nat) : Prop := ∃ t : Nat → Nat, (∀ i, t i < 256) ∧ ∀ j, j < m → u j = xs s (fun k => mul (t k) (W k j))
/-- no multiples of the r rows of B but nought make nought -/
def Indep (r : Nat) (B : Nat → Nat → Nat) (m : Nat) : Prop := ∀ t : Nat → Nat, (∀ i, t i < 256) → (∀ j, j < m → xs r (fun i => mul (t i) (B i j)) = 0) → ∀ i, i < r → t i = 0

theorem Span.self {s m : Nat} {W : Nat → Nat → Nat} {i : Nat} (hi : i < s) (bW : ∀ i j, W i j < 256) : Span s W m (W i) :=
  ⟨unitM i, unitM_lt i, fun j _ => by
    have h0 : ∀ k, k ≠ i → unitM i k = 0 := fun k hk => if_neg (fun e => hk e.symm)
    have h1 : unitM i i = 1 := if_pos rfl
    rw [xs_one hi fun k _ hk => by rw [h0 k hk, zero_mul], h1, one_mul _ (bW i j)]⟩
theorem Span.zero {s m : Nat} {W : Nat → Nat → Nat} {u : Nat → Nat} (h : ∀ j, j < m → u j = 0) : Span s W m u :=
  ⟨fun _ => 0, fun _ => (by decide : 0 < 256), fun j hj => by rw [h j hj, xs_zero fun _ _ => zero_mul _]⟩
theorem Span.trans {s r m : Nat} {V W : Nat → Nat → Nat} {u : Nat → Nat} (hu : Span s V m u) (hV : ∀ i, i < s → Span r W m (V i)) : Span r W m u := by
  obtain ⟨t, bt, ht⟩ := hu
  have hc : ∃ c : Nat → Nat → Nat, ∀ i, i < s → (∀ k, c i k < 256) ∧ ∀ j, j < m → V i j = xs r (fun k => mul (c i k) (W k j)) := by
    refine ⟨fun i => if h : i < s then Classical.choose (hV i h) else fun _ => 0, fun i hi => ?_⟩
    simp only [dif_pos hi]
    exact Classical.choose_spec (hV i hi)
  obtain ⟨c, hc⟩ := hc
  refine ⟨fun k => xs s fun i => mul (t i) (c i k), fun k => xs_lt fun _ _ => mul_lt _ _, fun j hj => ?_⟩
  rw [ht j hj]
  have h1 : (xs s fun i => mul (t i) (V i j)) = xs s fun i => xs r fun k => mul (mul (t i) (c i k)) (W k j) := xs_congr fun i hi => by
    rw [(hc i hi).2 j hj, xs_mul _ fun _ _ => mul_lt _ _]
    exact xs_congr fun k _ => (mul_assoc _ _ _).symm
  have h2 : (xs r fun k => mul (xs s fun i => mul (t i) (c i k)) (W k j)) = xs r fun k => xs s fun i => mul (mul (t i) (c i k)) (W k j) := xs_congr fun k _ => by
    rw [mul_comm, xs_mul _ fun _ _ => mul_lt _ _]
    exact xs_congr fun i _ => mul_comm _ _
  rw [h1, h2, xs_swap]
theorem Span.congr {s m : Nat} {W : Nat → Nat → Nat} {u u' : Nat → Nat} (h : Span s W m u) (e : ∀ j, j < m → u' j = u j) : Span s W m u' := by
  obtain ⟨t, bt, ht⟩ := h
  exact ⟨t, bt, fun j hj => (e j hj).trans (ht j hj)⟩

/-- **As many rows as are not tied are at most as many as those that make them.** -/
theorem indep_le {r s m : Nat} {B W : Nat → Nat → Nat} (hB : Indep r B m) (hW : ∀ i, i < r → Span s W m (B i)) : r ≤ s := by
  refine Classical.byContradiction fun hn => ?_
  have hc : ∃ c : Nat → Nat → Nat, (∀ i k, c i k < 256) ∧ ∀ i, i < r → ∀ j, j < m → B i j = xs s (fun k => mul (c i k) (W k j)) := by
    refine ⟨fun i => if h : i < r then Classical.choose (hW i h) else fun _ => 0, fun i k => ?_, fun i hi => ?_⟩
    · by_cases h : i < r
      · simp only [dif_pos h]; exact (Classical.choose_spec (hW i h)).1 k
      · simp only [dif_neg h]; decide
    · simp only [dif_pos hi]
      exact (Classical.choose_spec (hW i hi)).2
  obtain ⟨c, bc, hc⟩ := hc
  obtain ⟨t, bt, ⟨i0, hi0, hne⟩, ht⟩ := tied s r c (by omega) bc
  refine hne (hB t bt (fun j hj => ?_) i0 hi0)
  have h1 : (xs r fun i => mul (t i) (B i j)) = xs r fun i => xs s fun k => mul (mul (t i) (c i k)) (W k j) := xs_congr fun i hi => by
    rw [hc i hi j hj, xs_mul _ fun _ _ => mul_lt _ _]
    exact xs_congr fun k _ => (mul_assoc _ _ _).symm
  rw [h1, xs_swap]
  refine xs_zero fun k hk => ?_
  have h2 : (xs r fun i => mul (mul (t i) (c i k)) (W k j)) = mul (W k j) (xs r fun i => mul (t i) (c i k)) := by
    rw [xs_mul _ fun _ _ => mul_lt _ _]
    exact xs_congr fun i _ => mul_comm _ _
  rw [h2, ht k hk, mul_zero]

/-- the rank of the k rows of A, of m places -/
def RankIs (A : Nat → Nat → Nat) (k m r : Nat) : Prop := ∃ B : Nat → Nat → Nat, Indep r B m ∧ (∀ i, i < k → Span r B m (A i)) ∧ ∀ i, i < r → Span k A m (B i)
theorem RankIs.le_span {A : Nat → Nat → Nat} {k m r s : Nat} {W : Nat → Nat → Nat} (h : RankIs A k m r) (hW : ∀ i, i < k → Span s W m (A i)) : r ≤ s := by
  obtain ⟨B, hB, _, h2⟩ := h
  exact indep_le hB fun i hi => (h2 i hi).trans hW
theorem RankIs.le_of {A A' : Nat → Nat → Nat} {k k' m r r' : Nat} (h : RankIs A k m r) (h' : RankIs A' k' m r') (hA : ∀ i, i < k → Span k' A' m (A i)) : r ≤ r' := by
  obtain ⟨B', _, h1', _⟩ := h'
  exact h.le_span fun i hi => (hA i hi).trans h1'
theorem RankIs.unique {A : Nat → Nat → Nat} {k m r r' : Nat} (h : RankIs A k m r) (h' : RankIs A k m r') (bA : ∀ i j, A i j < 256) : r = r' := by
  have h1 := h.le_of h' fun i hi => Span.self hi bA
  have h2 := h'.le_of h fun i hi => Span.self hi bA
  omega
theorem RankIs.le_rows {A : Nat → Nat → Nat} {k m r : Nat} (h : RankIs A k m r) (bA : ∀ i j, A i j < 256) : r ≤ k := h.le_span fun _ hi => Span.self hi bA
theorem RankIs.le_cols {A : Nat → Nat → Nat} {k m r : Nat} (h : RankIs A k m r) (bA : ∀ i j, A i j < 256) : r ≤ m :=
  h.le_span (W := unitM) fun i _ => ⟨A i, fun j => bA i j, fun j hj => by
    rw [xs_one hj fun q _ hq => by rw [unitM, if_neg hq, mul_zero], unitM, if_pos rfl, mul_one _ (bA i j)]⟩
/-- of a product -/
theorem RankIs.prod_l {A C : Nat → Nat → Nat} {k n m r r' : Nat} (h : RankIs A k n r) (h' : RankIs (mm n A C) k m r') : r' ≤ r := by
  obtain ⟨B, _, h1, _⟩ := h
  refine h'.le_span (W := mm n B C) fun i hi => ?_
  obtain ⟨t, bt, ht⟩ := h1 i hi
  refine ⟨t, bt, fun j _ => ?_⟩
  show (xs n fun l => mul (A i l) (C l j)) = _
  have e1 : (xs n fun l => mul (A i l) (C l j)) = xs n fun l => xs r fun k => mul (t k) (mul (B k l) (C l j)) := xs_congr fun l hl => by
    rw [ht l hl, mul_comm, xs_mul _ fun _ _ => mul_lt _ _]
    exact xs_congr fun k _ => by rw [mul_comm, mul_assoc]
  rw [e1, xs_swap]
  exact xs_congr fun k _ => (xs_mul _ fun _ _ => mul_lt _ _).symm
theorem RankIs.prod_r {A C : Nat → Nat → Nat} {k n m r r' : Nat} (bA : ∀ i j, A i j < 256) (h : RankIs C n m r) (h' : RankIs (mm n A C) k m r') : r' ≤ r :=
  h'.le_of h fun i _ => ⟨A i, bA i, fun _ _ => rfl⟩

/-- Rows that lead each in a place of its own, where all others are nought, are not tied. -/
theorem indep_of_leads {r m : Nat} {B : Nat → Nat → Nat} (p : Nat → Nat) (hp : ∀ i, i < r → p i < m) (h : ∀ i k, i < r → k < r → B k (p i) = unitM k i) : Indep r B m := by
  intro t bt ht i hi
  have h1 := ht (p i) (hp i hi)
  rw [xs_one hi fun k hk hne => by rw [h i k hi hk, unitM, if_neg hne, mul_zero], h i i hi hi, unitM, if_pos rfl, mul_one _ (bt i)] at h1
  exact h1
/-- What elimination comes to: rows b·A, of which the first r lead, and the others are nought. -/
theorem RankIs.of_steps {A b c a : Nat → Nat → Nat} {k m r : Nat} (h : Inv2 k b c) (bb : ∀ i j, b i j < 256) (bc : ∀ i j, c i j < 256) (ba : ∀ i j, a i j < 256) (bA : ∀ i j, A i j < 256) (ha : ∀ i j, i < k → j < m → a i j = mm k b A i j) (hr : r ≤ k)
    (p : Nat → Nat) (hp : ∀ i, i < r → p i < m) (hl : ∀ i q, i < r → q < r → a q (p i) = unitM q i) (hz : ∀ i j, r ≤ i → i < k → j < m → a i j = 0) : RankIs A k m r := by
  refine ⟨a, indep_of_leads p hp hl, fun i hi => ?_, fun i hi => ⟨b i, bb i, fun j hj => ha i j (by omega) hj⟩⟩
  have h1 : Span k a m (A i) := ⟨c i, bc i, fun j hj => by
    have e1 : (xs k fun q => mul (c i q) (a q j)) = mm k c (mm k b A) i j := xs_congr fun q hq => by rw [ha q j hq hj]
    rw [e1, ← mm_assoc, mm_congr (A' := unitM) (B' := A) (fun q hq => h.cb i q hi hq) (fun _ _ => rfl)]
    exact (mm_unit_l k A i j hi (bA i j)).symm⟩
  refine h1.trans fun q hq => ?_
  by_cases hqr : q < r
  · exact Span.self hqr ba
  · exact Span.zero fun j hj => hz q j (by omega) hq hj
/-- Of full rank: an inverse; and the other way round. -/
theorem RankIs.full {A b : Nat → Nat → Nat} {n r : Nat} (bA : ∀ i j, A i j < 256) (bb : ∀ i j, b i j < 256) (h : Inv2 n b A) (hr : RankIs A n n r) : r = n := by
  have h1 := hr.le_rows bA
  obtain ⟨B, hB, hs, _⟩ := hr
  have h2 : n ≤ r := indep_le (B := unitM) (W := B) (m := n) (fun t bt ht i hi => by
    have := ht i hi
    rw [xs_one hi fun k _ hk => by rw [unitM, if_neg hk, mul_zero], unitM, if_pos rfl, mul_one _ (bt i)] at this
    exact this) fun i hi => Span.trans (V := A) (s := n) ⟨b i, bb i, fun j hj => (h.bc i j hi hj).symm⟩ hs
  omega
end Go.Coop
