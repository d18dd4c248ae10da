/- The matrix of a code: any rows, as many as columns, are of full rank; what such rows tell: plain. Nothing here speaks of a program. -/
import Derived.Test.YtkkpfehgobanbaaMtxC
set_option maxRecDepth 100000
namespace Go.Proofs.Ytkkpfehgobanbaa
open Go.Coop

/-- the matrix of a code of k -/
def codF (k : Nat) : Fn2 := fun i j => if i < k then unitF i j else cauF k (i - k) j
theorem nf_codF (k i j : Nat) : nf (codF k) i j = if i < k then unitM i j else iv (i ^^^ j) := by
  by_cases h : i < k
  · rw [if_pos h, ← nf_unit]; unfold nf codF; rw [if_pos h]
  · rw [if_neg h]
    have e := nf_cauF k (i - k) j
    rw [show k + (i - k) = i by omega] at e
    rw [← e]; unfold nf codF; rw [if_neg h]

/-- a sum over a list -/
def ls : List Nat → (Nat → Nat) → Nat
  | [], _ => 0
  | i :: l, f => f i ^^^ ls l f
theorem ls_append (l m : List Nat) (f : Nat → Nat) : ls (l ++ m) f = ls l f ^^^ ls m f := by
  induction l with
  | nil => show ls m f = 0 ^^^ ls m f; rw [Nat.zero_xor]
  | cons a l ih => show f a ^^^ ls (l ++ m) f = (f a ^^^ ls l f) ^^^ ls m f; rw [ih, Nat.xor_assoc]
theorem xs_ls (n : Nat) (f : Nat → Nat) : xs n f = ls (List.range n) f := by
  induction n with
  | zero => rfl
  | succ n ih => rw [List.range_succ, ls_append, ← ih]; show xs n f ^^^ f n = xs n f ^^^ (f n ^^^ 0); rw [Nat.xor_zero]
theorem ls_parts (p : Nat → Bool) (l : List Nat) (f : Nat → Nat) : ls l f = ls (l.filter p) f ^^^ ls (l.filter fun i => !p i) f := by
  induction l with
  | nil => simp [ls]
  | cons a l ih =>
    show f a ^^^ ls l f = _
    rw [ih]
    by_cases h : p a = true
    · rw [List.filter_cons_of_pos h, List.filter_cons_of_neg (by simp [h])]
      show _ = (f a ^^^ ls (l.filter p) f) ^^^ _
      rw [Nat.xor_assoc]
    · rw [List.filter_cons_of_neg h, List.filter_cons_of_pos (by simp [h])]
      show _ = _ ^^^ (f a ^^^ ls (l.filter fun i => !p i) f)
      rw [← Nat.xor_assoc, ← Nat.xor_assoc, Nat.xor_comm (f a)]
theorem ls_zero {l : List Nat} {f : Nat → Nat} (h : ∀ i, i ∈ l → f i = 0) : ls l f = 0 := by
  induction l with
  | nil => rfl
  | cons a l ih => show f a ^^^ ls l f = 0; rw [h a (by simp), ih fun i hi => h i (by simp [hi])]; rfl
theorem ls_idx (f : Nat → Nat) : ∀ l : List Nat, ls l f = xs l.length fun i => f (l.getD i 0) := by
  intro l
  rw [xs_ls]
  induction l with
  | nil => rfl
  | cons a l ih =>
    rw [List.length_cons, List.range_succ_eq_map]
    show f a ^^^ ls l f = f a ^^^ ls ((List.range l.length).map Nat.succ) _
    rw [ih]
    congr 1
    generalize List.range l.length = m
    induction m with
    | nil => rfl
    | cons b m ih2 => show f (l.getD b 0) ^^^ _ = f ((a :: l).getD (b + 1) 0) ^^^ _; rw [ih2]; rfl

theorem len_but (c : Nat) : ∀ l : List Nat, l.Nodup → l.length ≤ (l.filter fun j => !(j == c)).length + 1 := by
  intro l
  induction l with
  | nil => intro _; simp
  | cons a l ih =>
    intro h
    rw [List.nodup_cons] at h
    by_cases e : a = c
    · subst e
      have : (l.filter fun j => !(j == a)) = l := List.filter_eq_self.2 fun j hj => by
        have : j ≠ a := fun e => h.1 (e ▸ hj)
        simp [this]
      rw [List.filter_cons_of_neg (by simp), this]
      simp
    · rw [List.filter_cons_of_pos (by simp [e])]
      have := ih h.2
      simp only [List.length_cons]
      omega
/-- what is not among those numbers -/
theorem len_less (Y : List Nat) (hY : Y.Nodup) : ∀ U : List Nat, Y.length ≤ (Y.filter fun j => !(U.any fun i => j == i)).length + U.length := by
  intro U
  induction U with
  | nil =>
    have e : (Y.filter fun j => !(([] : List Nat).any fun i => j == i)) = Y := List.filter_eq_self.2 fun _ _ => rfl
    rw [e]; simp
  | cons c U ih =>
    have h := len_but c (Y.filter fun j => !(U.any fun i => j == i)) (hY.filter _)
    rw [List.filter_filter] at h
    have e : (Y.filter fun j => !((c :: U).any fun i => j == i)) = Y.filter fun a => (!(a == c)) && !(U.any fun i => a == i) := by
      congr 1
      funext j
      simp [List.any_cons, Bool.not_or]
    rw [e, List.length_cons]
    omega

/-- **Any k rows of a code's matrix are not tied.** -/
theorem any_free (k n : Nat) (la : Nat → Nat) (t : Nat → Nat) (hn : n ≤ 256) (hkn : k ≤ n) (hla : ∀ i, i < k → la i < n) (hap : ∀ i j, i < k → j < k → i ≠ j → la i ≠ la j) (ht : ∀ i, t i < 256)
    (hs : ∀ j, j < k → xs k (fun i => mul (t i) (nf (codF k) (la i) j)) = 0) : ∀ i, i < k → t i = 0 := by
  obtain ⟨U, hU⟩ : ∃ U, U = (List.range k).filter (fun i => decide (la i < k)) := ⟨_, rfl⟩
  obtain ⟨V, hV⟩ : ∃ V, V = (List.range k).filter (fun i => !decide (la i < k)) := ⟨_, rfl⟩
  obtain ⟨W, hW⟩ : ∃ W, W = (List.range k).filter (fun j => !((U.map la).any fun i => j == i)) := ⟨_, rfl⟩
  have hnr : (List.range k).Nodup := List.nodup_range
  have mU : ∀ i, i ∈ U ↔ i < k ∧ la i < k := fun i => by rw [hU]; simp
  have mV : ∀ i, i ∈ V ↔ i < k ∧ k ≤ la i := fun i => by rw [hV]; simp
  have mW : ∀ j, j ∈ W → j < k ∧ ∀ i, i ∈ U → la i ≠ j := fun j hj => by
    rw [hW, List.mem_filter] at hj
    refine ⟨List.mem_range.1 hj.1, fun i hi e => ?_⟩
    have h2 := hj.2
    simp only [Bool.not_eq_true', List.any_eq_false, List.mem_map, forall_exists_index, and_imp] at h2
    exact h2 (la i) i hi rfl (by simp [e])
  have lUV : U.length + V.length = k := by
    have := List.length_eq_countP_add_countP (fun i => decide (la i < k)) (l := List.range k)
    rw [List.countP_eq_length_filter, List.countP_eq_length_filter, List.length_range] at this
    rw [hU, hV]
    have e : (List.range k).filter (fun i => !decide (la i < k)) = (List.range k).filter (fun i => decide ¬decide (la i < k) = true) := by
      congr 1
      funext i
      by_cases h : la i < k <;> simp [h]
    rw [e]
    omega
  have lW : V.length ≤ W.length := by
    have h := len_less (List.range k) hnr (U.map la)
    rw [← hW, List.length_map, List.length_range] at h
    omega
  have gV : ∀ i, i < V.length → V.getD i 0 ∈ V := fun i hi => by
    rw [show V.getD i 0 = V[i] by simp [hi]]
    exact List.getElem_mem _
  have gW : ∀ i, i < W.length → W.getD i 0 ∈ W := fun i hi => by
    rw [show W.getD i 0 = W[i] by simp [hi]]
    exact List.getElem_mem _
  have nV : V.Nodup := by rw [hV]; exact hnr.filter _
  have nW : W.Nodup := by rw [hW]; exact hnr.filter _
  have apart : ∀ {L : List Nat}, L.Nodup → ∀ i j, i < L.length → j < L.length → i ≠ j → L.getD i 0 ≠ L.getD j 0 := fun {L} hL i j hi hj hij e => by
    rw [show L.getD i 0 = L[i] by simp [hi], show L.getD j 0 = L[j] by simp [hj]] at e
    exact hij ((List.getElem_inj hL).1 e)
  have hz : ∀ q, q < V.length → t (V.getD q 0) = 0 := by
    refine cauchy_free V.length (fun q => la (V.getD q 0)) (fun q => W.getD q 0) (fun q => t (V.getD q 0)) ?_ ?_ ?_ ?_ ?_ ?_ ?_
    · intro q hq
      have := hla _ ((mV _).1 (gV q hq)).1
      show la (V.getD q 0) < 256; omega
    · intro q hq
      have := (mW _ (gW q (by omega))).1
      show W.getD q 0 < 256; omega
    · intro q r hq hr
      have h1 := ((mV _).1 (gV q hq)).2
      have h2 := (mW _ (gW r (by omega))).1
      show la (V.getD q 0) ≠ W.getD r 0; omega
    · intro q r hq hr hqr
      exact hap _ _ ((mV _).1 (gV q hq)).1 ((mV _).1 (gV r hr)).1 (apart nV q r hq hr hqr)
    · intro q r hq hr hqr
      exact apart nW q r (by omega) (by omega) hqr
    · intro q _; exact ht _
    · intro r hr
      obtain ⟨hj, hoff⟩ := mW _ (gW r (by omega))
      have h := hs _ hj
      rw [xs_ls, ls_parts (fun i => decide (la i < k)), ← hU, ← hV, ls_zero (l := U) (fun i hi => by
        have hi2 := (mU i).1 hi
        show mul (t i) (nf (codF k) (la i) (W.getD r 0)) = 0
        rw [nf_codF, if_pos hi2.2, unitM, if_neg (hoff i hi), mul_zero]), Nat.zero_xor, ls_idx] at h
      refine (xs_congr fun q hq => ?_).trans h
      have hv := ((mV _).1 (gV q hq)).2
      show mul _ _ = mul _ _
      rw [nf_codF, if_neg (by omega)]
  intro i hi
  have hVz : ∀ a, a ∈ V → t a = 0 := fun a ha => by
    obtain ⟨q, hq, rfl⟩ := List.getElem_of_mem ha
    have := hz q hq
    rwa [show V.getD q 0 = V[q] by simp [hq]] at this
  by_cases hl : la i < k
  · have h := hs (la i) hl
    rw [xs_one hi fun a ha hai => by
      by_cases hal : la a < k
      · show mul (t a) (nf (codF k) (la a) (la i)) = 0
        rw [nf_codF, if_pos hal, unitM, if_neg (hap a i ha hi hai), mul_zero]
      · show mul (t a) _ = 0
        rw [hVz a ((mV a).2 ⟨ha, by omega⟩), zero_mul]] at h
    have h : mul (t i) (nf (codF k) (la i) (la i)) = 0 := h
    rw [nf_codF, if_pos hl, unitM, if_pos rfl, mul_one _ (ht i)] at h
    exact h
  · exact hVz i ((mV i).2 ⟨hi, by omega⟩)

/-- the rows at those places -/
def pkF (F : Fn2) (la : List Nat) : Fn2 := fun i j => F (la.getD i 0) j
/-- places that may tell: all below n, none twice -/
structure Places (n : Nat) (la : List Nat) : Prop where
  lt : ∀ (i x : Nat), la[i]? = some x → x < n
  ap : la.Nodup
theorem Places.take {n : Nat} {la : List Nat} (h : Places n la) (k : Nat) : Places n (la.take k) :=
  ⟨fun i x hi => h.lt i x (by rw [List.getElem?_take] at hi; split at hi <;> simp_all), h.ap.sublist (List.take_sublist _ _)⟩
theorem Places.getD_lt {n : Nat} {la : List Nat} (h : Places n la) {i : Nat} (hi : i < la.length) : la.getD i 0 < n :=
  h.lt i _ (by rw [show la.getD i 0 = la[i] by simp [hi]]; exact List.getElem?_eq_getElem hi)
theorem Places.getD_ne {n : Nat} {la : List Nat} (h : Places n la) {i j : Nat} (hi : i < la.length) (hj : j < la.length) (hij : i ≠ j) : la.getD i 0 ≠ la.getD j 0 := fun e => by
  rw [show la.getD i 0 = la[i] by simp [hi], show la.getD j 0 = la[j] by simp [hj]] at e
  exact hij ((List.getElem_inj h.ap).1 e)
/-- **Any rows, as many as columns, are of full rank.** -/
theorem any_full {k n : Nat} {la : List Nat} (hn : n ≤ 256) (hkn : k ≤ n) (h : Places n la) (hl : k ≤ la.length) (G : Fn2) : rankF k k (pkF (codF k) la) G = k := by
  have hR : RankIs (nf (pkF (codF k) la)) k k k := by
    refine ⟨nf (pkF (codF k) la), fun t ht hs => ?_, fun i hi => Span.self hi (nf_lt _), fun i hi => Span.self hi (nf_lt _)⟩
    exact any_free k n (fun i => la.getD i 0) t hn hkn (fun i hi => h.getD_lt (by omega)) (fun i j hi hj hij => h.getD_ne (by omega) (by omega) hij) ht hs
  exact (rankF_is k k (pkF (codF k) la) G).unique hR (nf_lt _)
end Go.Proofs.Ytkkpfehgobanbaa
