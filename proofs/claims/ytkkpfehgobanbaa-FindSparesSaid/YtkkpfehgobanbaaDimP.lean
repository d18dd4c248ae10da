/- More rows than columns are tied; row operations that can be taken back: plain. Nothing here speaks of a program. -/
import Derived.Test.YtkkpfehgobanbaaMatP
set_option maxRecDepth 100000
namespace Go.Coop

theorem xs_upd {n p : Nat} (g : Nat → Nat) (a : Nat) (hp : p < n) : xs n (fun i => if i = p then a else g i) = (xs n g ^^^ g p) ^^^ a := by
  induction n with
  | zero => omega
  | succ n ih =>
    show xs n _ ^^^ (if n = p then a else g n) = ((xs n g ^^^ g n) ^^^ g p) ^^^ a
    by_cases e : n = p
    · subst e
      rw [if_pos rfl, Nat.xor_assoc (xs n g), Nat.xor_self, Nat.xor_zero]
      congr 1
      exact xs_congr fun i hi => if_neg (by omega)
    · rw [if_neg e, ih (by omega)]
      rw [Nat.xor_assoc (xs n g ^^^ g p), Nat.xor_comm a, ← Nat.xor_assoc (xs n g ^^^ g p), Nat.xor_assoc (xs n g) (g p), Nat.xor_comm (g p) (g n), ← Nat.xor_assoc (xs n g)]
/-- one of a sum's ahead of the others, the last one in its place -/
theorem xs_pull {n p : Nat} (g : Nat → Nat) (hp : p ≤ n) : xs (n + 1) g = g p ^^^ xs n (fun i => g (if i = p then n else i)) := by
  by_cases e : p = n
  · subst e
    have : (xs p fun i => g (if i = p then p else i)) = xs p g := xs_congr fun i hi => by rw [if_neg (by omega)]
    rw [this, Nat.xor_comm]
    rfl
  · have h : (xs n fun i => g (if i = p then n else i)) = xs n (fun i => if i = p then g n else g i) := xs_congr fun i _ => by split <;> rfl
    rw [h, xs_upd g (g n) (by omega)]
    show xs n g ^^^ g n = _
    rw [Nat.xor_assoc (xs n g), ← Nat.xor_assoc (g p), Nat.xor_comm (g p) (xs n g), Nat.xor_assoc (xs n g), ← Nat.xor_assoc (g p) (g p), Nat.xor_self, Nat.zero_xor]

/-- **More rows than columns: some of the rows make nought together.** -/
theorem tied (r : Nat) : ∀ (k : Nat) (C : Nat → Nat → Nat), r < k → (∀ i j, C i j < 256) →
    ∃ t : Nat → Nat, (∀ i, t i < 256) ∧ (∃ i, i < k ∧ t i ≠ 0) ∧ ∀ j, j < r → xs k (fun i => mul (t i) (C i j)) = 0 := by
  induction r with
  | zero =>
    intro k C hk _
    exact ⟨fun _ => 1, fun _ => (by decide : 1 < 256), ⟨0, hk, (by decide : (1 : Nat) ≠ 0)⟩, fun j hj => absurd hj (by omega)⟩
  | succ r ih =>
    intro k C hk hC
    by_cases hz : ∃ p, p < k ∧ C p r ≠ 0
    · obtain ⟨p, hp, hp0⟩ := hz
      obtain ⟨n, rfl⟩ : ∃ n, k = n + 1 := ⟨k - 1, by omega⟩
      have hrho : ∀ i, i < n → (if i = p then n else i) < n + 1 ∧ (if i = p then n else i) ≠ p := by
        intro i hi
        by_cases e : i = p
        · rw [if_pos e]; exact ⟨by omega, by omega⟩
        · rw [if_neg e]; exact ⟨by omega, e⟩
      obtain ⟨m, bm, ⟨i0, hi0, hm0⟩, hm⟩ := ih n (fun i j => C (if i = p then n else i) j ^^^ mul (mul (C (if i = p then n else i) r) (iv (C p r))) (C p j)) (by omega) (fun i j => xor_lt _ _ (hC _ _) (mul_lt _ _))
      obtain ⟨T, hT⟩ : ∃ T, T = xs n (fun i => mul (m i) (mul (C (if i = p then n else i) r) (iv (C p r)))) := ⟨_, rfl⟩
      have bT : T < 256 := by rw [hT]; exact xs_lt fun _ _ => mul_lt _ _
      have ht : ∀ i, i < n → (if (if i = p then n else i) = p then T else if (if i = p then n else i) = n then m p else m (if i = p then n else i)) = m i := by
        intro i hi
        rw [if_neg (hrho i hi).2]
        by_cases e : i = p
        · subst e; rw [if_pos rfl, if_pos rfl]
        · rw [if_neg e, if_neg (by omega)]
      refine ⟨fun i => if i = p then T else if i = n then m p else m i, fun i => ?_, ⟨if i0 = p then n else i0, (hrho i0 hi0).1, ?_⟩, fun j hj => ?_⟩
      · show (if i = p then T else if i = n then m p else m i) < 256
        split
        · exact bT
        · split
          · exact bm _
          · exact bm _
      · show (if (if i0 = p then n else i0) = p then T else if (if i0 = p then n else i0) = n then m p else m (if i0 = p then n else i0)) ≠ 0
        rw [ht i0 hi0]; exact hm0
      · rw [xs_pull _ (show p ≤ n by omega)]
        simp only [if_true]
        have e1 : (xs n fun i => mul (if (if i = p then n else i) = p then T else if (if i = p then n else i) = n then m p else m (if i = p then n else i)) (C (if i = p then n else i) j)) = xs n fun i => mul (m i) (C (if i = p then n else i) j) :=
          xs_congr fun i hi => by rw [ht i hi]
        have e2 : mul T (C p j) = xs n fun i => mul (m i) (mul (mul (C (if i = p then n else i) r) (iv (C p r))) (C p j)) := by
          rw [hT, mul_comm, xs_mul _ fun _ _ => mul_lt _ _]
          exact xs_congr fun i _ => by rw [mul_comm, mul_assoc]
        have e3 : mul T (C p j) ^^^ (xs n fun i => mul (m i) (C (if i = p then n else i) j)) = xs n fun i => mul (m i) (C (if i = p then n else i) j ^^^ mul (mul (C (if i = p then n else i) r) (iv (C p r))) (C p j)) := by
          rw [e2, ← xs_xor]
          exact xs_congr fun i _ => by rw [mul_dist _ _ _ (hC _ _) (mul_lt _ _), Nat.xor_comm]
        rw [e1, e3]
        by_cases hjr : j < r
        · exact hm j hjr
        · obtain rfl : j = r := by omega
          refine xs_zero fun i _ => ?_
          rw [mul_assoc _ (iv (C p j)), iv_mul _ hp0 (hC _ _), mul_one _ (hC _ _), Nat.xor_self, mul_zero]
    · obtain ⟨t, bt, hne, hs⟩ := ih k C (by omega) hC
      refine ⟨t, bt, hne, fun j hj => ?_⟩
      by_cases hjr : j < r
      · exact hs j hjr
      · obtain rfl : j = r := by omega
        refine xs_zero fun i hi => ?_
        have : C i j = 0 := Classical.byContradiction fun h => hz ⟨i, hi, h⟩
        rw [this, mul_zero]

/-- b and c are each other's inverse -/
structure Inv2 (n : Nat) (b c : Nat → Nat → Nat) : Prop where
  bc : ∀ i j, i < n → j < n → mm n b c i j = unitM i j
  cb : ∀ i j, i < n → j < n → mm n c b i j = unitM i j
theorem unitM_lt (i j : Nat) : unitM i j < 256 := by unfold unitM; split <;> omega
theorem Inv2.unit (n : Nat) : Inv2 n unitM unitM := ⟨fun i j hi _ => mm_unit_l n unitM i j hi (unitM_lt i j), fun i j hi _ => mm_unit_l n unitM i j hi (unitM_lt i j)⟩
/-- a row operation that can be taken back keeps it -/
theorem Inv2.step {n : Nat} {b c E F b' : Nat → Nat → Nat} (h : Inv2 n b c) (hE : Inv2 n E F) (hb : ∀ i j, i < n → j < n → b' i j = mm n E b i j) (bE : ∀ i j, E i j < 256) (bb : ∀ i j, b i j < 256) : Inv2 n b' (mm n c F) := by
  constructor
  · intro i j hi hj
    rw [mm_congr (A' := mm n E b) (B' := mm n c F) (fun k hk => hb i k hi hk) (fun _ _ => rfl), ← mm_assoc]
    have h1 : ∀ k, k < n → mm n (mm n E b) c i k = E i k := fun k hk => by
      rw [mm_assoc, mm_congr (A' := E) (B' := unitM) (fun _ _ => rfl) (fun l hl => h.bc l k hl hk)]
      exact mm_unit_r n E i k hk (bE i k)
    rw [mm_congr (A' := E) (B' := F) h1 (fun _ _ => rfl)]
    exact hE.bc i j hi hj
  · intro i j hi hj
    rw [mm_congr (A' := mm n c F) (B' := mm n E b) (fun _ _ => rfl) (fun k hk => hb k j hk hj), ← mm_assoc]
    have h1 : ∀ k, k < n → mm n (mm n c F) E i k = mm n c unitM i k := fun k hk => by
      rw [mm_assoc]
      exact mm_congr (fun _ _ => rfl) (fun l hl => hE.cb l k hl hk)
    rw [mm_congr (A' := mm n c unitM) (B' := b) h1 (fun _ _ => rfl), mm_assoc]
    rw [mm_congr (A' := c) (B' := b) (fun _ _ => rfl) (fun k hk => mm_unit_l n b k j hk (bb k j))]
    exact h.cb i j hi hj
/-- the rows of an invertible matrix are not nought -/
theorem Inv2.row_ne {n : Nat} {b c : Nat → Nat → Nat} (h : Inv2 n b c) {i : Nat} (hi : i < n) : ∃ k, k < n ∧ b i k ≠ 0 := by
  refine Classical.byContradiction fun hn => ?_
  have h1 := h.bc i i hi hi
  have h2 : mm n b c i i = 0 := xs_zero fun k hk => by
    have : b i k = 0 := Classical.byContradiction fun h0 => hn ⟨k, hk, h0⟩
    rw [this, zero_mul]
  rw [h2, unitM, if_pos rfl] at h1
  omega

/-! ### The three row operations -/
/-- d times row l onto row i -/
def eLay (i l d : Nat) (a b : Nat) : Nat := unitM a b ^^^ (if a = i ∧ b = l then d else 0)
theorem eLay_lt (i l d : Nat) (hd : d < 256) (a b : Nat) : eLay i l d a b < 256 := xor_lt _ _ (unitM_lt a b) (by split <;> omega)
theorem eLay_row {n i l d : Nat} (B : Nat → Nat → Nat) (hl : l < n) (hd : d < 256) (bB : ∀ a j, B a j < 256) (a j : Nat) (ha : a < n) : mm n (eLay i l d) B a j = if a = i then B i j ^^^ mul d (B l j) else B a j := by
  have h1 : mm n (eLay i l d) B a j = mm n unitM B a j ^^^ xs n fun k => mul (if a = i ∧ k = l then d else 0) (B k j) := by
    unfold mm
    rw [← xs_xor]
    exact xs_congr fun k _ => mul_dist' _ _ _ (unitM_lt a k) (by split <;> omega)
  rw [h1, mm_unit_l n B a j ha (bB a j)]
  by_cases e : a = i
  · rw [if_pos e, xs_one hl fun k _ hk => by rw [if_neg (fun h => hk h.2), zero_mul], if_pos ⟨e, rfl⟩, e]
  · rw [if_neg e, xs_zero fun k _ => by rw [if_neg (fun h => e h.1), zero_mul], Nat.xor_zero]
theorem eLay_inv {n i l d : Nat} (hl : l < n) (hil : i ≠ l) (hd : d < 256) : Inv2 n (eLay i l d) (eLay i l d) := by
  have h : ∀ a j, a < n → j < n → mm n (eLay i l d) (eLay i l d) a j = unitM a j := by
    intro a j ha hj
    rw [eLay_row _ hl hd (eLay_lt i l d hd) a j ha]
    by_cases e : a = i
    · subst e
      rw [if_pos rfl]
      have h2 : eLay a l d l j = unitM l j := by unfold eLay; rw [if_neg (fun h => hil h.1.symm), Nat.xor_zero]
      rw [h2]
      unfold eLay
      by_cases ej : j = l
      · subst ej
        rw [if_pos ⟨rfl, rfl⟩, show unitM j j = 1 from if_pos rfl, mul_one d hd, Nat.xor_assoc, Nat.xor_self, Nat.xor_zero]
      · rw [if_neg (fun h => ej h.2), show unitM l j = 0 from if_neg (fun h => ej h.symm), mul_zero, Nat.xor_zero, Nat.xor_zero]
    · rw [if_neg e]
      unfold eLay
      rw [if_neg (fun h => e h.1), Nat.xor_zero]
  exact ⟨h, h⟩
/-- row l times c -/
def eMul (l c : Nat) (a b : Nat) : Nat := if a = b then (if a = l then c else 1) else 0
theorem eMul_lt (l c : Nat) (hc : c < 256) (a b : Nat) : eMul l c a b < 256 := by
  unfold eMul
  split
  · split <;> omega
  · omega
theorem eMul_row {n l c : Nat} (B : Nat → Nat → Nat) (bB : ∀ a j, B a j < 256) (a j : Nat) (ha : a < n) : mm n (eMul l c) B a j = if a = l then mul c (B l j) else B a j := by
  unfold mm
  rw [xs_one ha fun k _ hk => by rw [eMul, if_neg (fun h => hk h.symm), zero_mul], eMul, if_pos rfl]
  by_cases e : a = l
  · subst e; rw [if_pos rfl, if_pos rfl]
  · rw [if_neg e, if_neg e, one_mul _ (bB a j)]
theorem eMul_inv {n l c : Nat} (hc : c < 256) (h0 : c ≠ 0) : Inv2 n (eMul l c) (eMul l (iv c)) := by
  have key : ∀ c d, c < 256 → d < 256 → mul c d = 1 → ∀ a j, a < n → j < n → mm n (eMul l c) (eMul l d) a j = unitM a j := by
    intro c d hc hd hcd a j ha _
    rw [eMul_row _ (eMul_lt l d hd) a j ha]
    unfold eMul unitM
    by_cases e : a = l
    · subst e
      rw [if_pos rfl]
      by_cases ej : a = j
      · rw [if_pos ej, if_pos rfl, if_pos ej, hcd]
      · rw [if_neg ej, if_neg ej, mul_zero]
    · rw [if_neg e]
      by_cases ej : a = j
      · rw [if_pos ej, if_neg e, if_pos ej]
      · rw [if_neg ej, if_neg ej]
  exact ⟨key c (iv c) hc (iv_lt c) (mul_iv c h0 hc), key (iv c) c (iv_lt c) hc (iv_mul c h0 hc)⟩
/-- rows p and q changed about -/
def sw (p q a : Nat) : Nat := if a = p then q else if a = q then p else a
def eSw (p q : Nat) (a b : Nat) : Nat := unitM (sw p q a) b
theorem sw_lt {n p q a : Nat} (hp : p < n) (hq : q < n) (ha : a < n) : sw p q a < n := by
  unfold sw
  split
  · omega
  · split <;> omega
theorem sw_sw (p q a : Nat) : sw p q (sw p q a) = a := by
  unfold sw
  by_cases h1 : a = p
  · subst h1
    rw [if_pos rfl]
    by_cases h2 : q = a
    · rw [if_pos h2]; exact h2
    · rw [if_neg h2, if_pos rfl]
  · rw [if_neg h1]
    by_cases h2 : a = q
    · subst h2; rw [if_pos rfl, if_pos rfl]
    · rw [if_neg h2, if_neg h1, if_neg h2]
theorem eSw_row {n p q : Nat} (B : Nat → Nat → Nat) (hp : p < n) (hq : q < n) (bB : ∀ a j, B a j < 256) (a j : Nat) (ha : a < n) : mm n (eSw p q) B a j = B (sw p q a) j := by
  exact mm_unit_l n B (sw p q a) j (sw_lt hp hq ha) (bB _ _)
theorem eSw_inv {n p q : Nat} (hp : p < n) (hq : q < n) : Inv2 n (eSw p q) (eSw p q) := by
  have h : ∀ a j, a < n → j < n → mm n (eSw p q) (eSw p q) a j = unitM a j := by
    intro a j ha _
    rw [eSw_row (eSw p q) hp hq (fun a b => unitM_lt _ b) a j ha]
    unfold eSw
    rw [sw_sw]
  exact ⟨h, h⟩

/-- When the unit is reached, what was done is the inverse, from both sides. -/
theorem Inv2.of_unit {n : Nat} {b c m : Nat → Nat → Nat} (h : Inv2 n b c) (bc : ∀ i j, c i j < 256) (bm : ∀ i j, m i j < 256) (hu : ∀ i j, i < n → j < n → mm n b m i j = unitM i j) : Inv2 n b m := by
  have hm : ∀ i j, i < n → j < n → m i j = c i j := by
    intro i j hi hj
    have h1 : mm n c (mm n b m) i j = c i j := by
      rw [mm_congr (A' := c) (B' := unitM) (fun _ _ => rfl) (fun k hk => hu k j hk hj)]
      exact mm_unit_r n c i j hj (bc i j)
    have h2 : mm n (mm n c b) m i j = m i j := by
      rw [mm_congr (A' := unitM) (B' := m) (fun k hk => h.cb i k hi hk) (fun _ _ => rfl)]
      exact mm_unit_l n m i j hi (bm i j)
    rw [← h2, mm_assoc, h1]
  refine ⟨hu, fun i j hi hj => ?_⟩
  rw [mm_congr (A' := c) (B' := b) (fun k hk => hm i k hi hk) (fun _ _ => rfl)]
  exact h.cb i j hi hj
/-- When a row of nought is reached, the rows are tied, and there is no inverse from the right. -/
theorem stuck {n : Nat} {b c m : Nat → Nat → Nat} (h : Inv2 n b c) (bb : ∀ i j, b i j < 256) {i : Nat} (hi : i < n) (hz : ∀ j, j < n → mm n b m i j = 0) (R : Nat → Nat → Nat) : ¬ ∀ a j, a < n → j < n → mm n m R a j = unitM a j := by
  intro hR
  obtain ⟨k, hk, hne⟩ := h.row_ne hi
  apply hne
  have h1 : mm n b (mm n m R) i k = b i k := by
    rw [mm_congr (A' := b) (B' := unitM) (fun _ _ => rfl) (fun l hl => hR l k hl hk)]
    exact mm_unit_r n b i k hk (bb i k)
  rw [← h1, ← mm_assoc]
  exact xs_zero fun l hl => by rw [hz l hl, zero_mul]
end Go.Coop
