/- Elimination, plain: matrices as functions of bytes, the steps upon a matrix and one beside it, and what they come to. Nothing here speaks of a program. -/
import Derived.Test.YtkkpfehgobanbaaRankP
import Derived.Test.YtkkpfehgobanbaaListP
set_option maxRecDepth 100000
namespace Go.Coop

/-- a matrix of bytes, by row and column -/
abbrev Fn2 := Nat → Nat → UInt8
def nf (F : Fn2) (i j : Nat) : Nat := (F i j).toNat
theorem nf_lt (F : Fn2) (i j : Nat) : nf F i j < 256 := (F i j).toNat_lt
/-- a row as a list; a matrix as a list of rows -/
def rowL (k : Nat) (f : Nat → UInt8) : List UInt8 := (List.range k).map f
def tabM (n k : Nat) (F : Fn2) : List (List UInt8) := (List.range n).map fun i => rowL k (F i)
theorem rowL_len (k : Nat) (f : Nat → UInt8) : (rowL k f).length = k := by simp [rowL]
theorem rowL_at {k : Nat} (f : Nat → UInt8) {j : Nat} (h : j < k) : (rowL k f)[j]? = some (f j) := by simp [rowL, h]
theorem rowL_congr {k : Nat} {f g : Nat → UInt8} (h : ∀ j, j < k → f j = g j) : rowL k f = rowL k g := by
  unfold rowL; exact List.map_congr_left fun j hj => h j (List.mem_range.1 hj)
theorem tabM_len (n k : Nat) (F : Fn2) : (tabM n k F).length = n := by simp [tabM]
theorem tabM_at {n : Nat} (k : Nat) (F : Fn2) {i : Nat} (h : i < n) : (tabM n k F)[i]? = some (rowL k (F i)) := by simp [tabM, h]
theorem tabM_congr {n k : Nat} {F G : Fn2} (h : ∀ i j, i < n → j < k → F i j = G i j) : tabM n k F = tabM n k G := by
  unfold tabM; exact List.map_congr_left fun i hi => rowL_congr fun j hj => h i j (List.mem_range.1 hi) hj
theorem lay_rowL (c : Nat) (k : Nat) (f g : Nat → UInt8) : lay c (rowL k f) (rowL k g) = rowL k fun j => lay1 c (f j) (g j) := by
  apply List.ext_getElem?
  intro j
  rw [lay_at]
  by_cases h : j < k
  · rw [rowL_at f h, rowL_at g h, rowL_at _ h]
  · have e : ∀ h : Nat → UInt8, (rowL k h)[j]? = none := fun h => List.getElem?_eq_none (by rw [rowL_len]; omega)
    rw [e, e, e]
theorem dot_rowL : ∀ (k : Nat) (f g : Nat → UInt8), dot (rowL k f) (rowL k g) = xs k fun l => mul (f l).toNat (g l).toNat := by
  intro k
  induction k with
  | zero => intro f g; rfl
  | succ k ih =>
    intro f g
    have e : ∀ h : Nat → UInt8, rowL (k + 1) h = rowL k h ++ [h k] := fun h => by simp [rowL, List.range_succ]
    have hz : (rowL k f ++ [f k]).zip (rowL k g ++ [g k]) = (rowL k f).zip (rowL k g) ++ [(f k, g k)] := by
      rw [List.zip_append (by rw [rowL_len, rowL_len])]; rfl
    show dotZ _ = _
    rw [e, e, hz, dotZ_snoc]
    show dot (rowL k f) (rowL k g) ^^^ _ = _
    rw [ih]
    rfl

/-- the first place from i on, of so many, that is not nought in a column -/
def seek (F : Fn2) (col : Nat) : Nat → Nat → Nat
  | _, 0 => 0
  | i, f + 1 => if F i col ≠ 0 then 0 else 1 + seek F col (i + 1) f
/-- two rows changed about, and the upper one times c -/
def lead1 (F : Fn2) (led first c : Nat) : Fn2 := fun a j => if a = led then lay1 c 0 (F first j) else F (sw led first a) j
/-- a multiple of one row laid onto another -/
def onto (F : Fn2) (i led t : Nat) : Fn2 := fun a j => if a = i then lay1 t (F i j) (F led j) else F a j
/-- the rows below i -/
def elimTo (col led : Nat) : Nat → Fn2 × Fn2 → Fn2 × Fn2
  | 0, s => s
  | i + 1, s =>
    let u := elimTo col led i s
    if i = led ∨ u.1 i col = 0 then u else (onto u.1 i led (u.1 i col).toNat, onto u.2 i led (u.1 i col).toNat)
def stepCol (n col : Nat) (s : Fn2 × Fn2 × Nat) : Fn2 × Fn2 × Nat :=
  let first := s.2.2 + seek s.1 col s.2.2 (n - s.2.2)
  if first = n then s else
    let c := iv (s.1 first col).toNat
    let u := elimTo col s.2.2 n (lead1 s.1 s.2.2 first c, lead1 s.2.1 s.2.2 first c)
    (u.1, u.2, s.2.2 + 1)
def red (n : Nat) : Nat → Fn2 × Fn2 × Nat → Fn2 × Fn2 × Nat
  | 0, s => s
  | c + 1, s => stepCol n c (red n c s)

theorem seek_le (F : Fn2) (col : Nat) : ∀ f i, seek F col i f ≤ f := by
  intro f
  induction f with
  | zero => intro i; simp [seek]
  | succ f ih => intro i; simp only [seek]; split <;> have := ih (i + 1) <;> omega
theorem seek_ne (F : Fn2) (col : Nat) : ∀ f i, seek F col i f < f → F (i + seek F col i f) col ≠ 0 := by
  intro f
  induction f with
  | zero => intro i h; simp [seek] at h
  | succ f ih =>
    intro i h
    simp only [seek] at h ⊢
    split at h
    · rename_i hne; rw [if_pos hne]; simpa using hne
    · rename_i hne
      rw [if_neg hne]
      have := ih (i + 1) (by omega)
      rwa [show i + (1 + seek F col (i + 1) f) = i + 1 + seek F col (i + 1) f from by omega]
theorem seek_zero (F : Fn2) (col : Nat) : ∀ f i j, j < seek F col i f → F (i + j) col = 0 := by
  intro f
  induction f with
  | zero => intro i j h; simp [seek] at h
  | succ f ih =>
    intro i j h
    simp only [seek] at h
    split at h
    · omega
    · rename_i hne
      cases j with
      | zero => simpa using hne
      | succ j => rw [show i + (j + 1) = i + 1 + j from by omega]; exact ih (i + 1) j (by omega)

/-- what is done can be taken back: two matrices under the same steps -/
structure Steps (n : Nat) (F G F' G' : Fn2) : Prop where
  ex : ∃ b c, Inv2 n b c ∧ (∀ i j, b i j < 256) ∧ (∀ i j, c i j < 256) ∧ (∀ i j, i < n → nf F' i j = mm n b (nf F) i j) ∧ ∀ i j, i < n → nf G' i j = mm n b (nf G) i j
theorem Steps.refl (n : Nat) (F G : Fn2) : Steps n F G F G :=
  ⟨unitM, unitM, Inv2.unit n, unitM_lt, unitM_lt, fun i j hi => (mm_unit_l n _ i j hi (nf_lt _ _ _)).symm, fun i j hi => (mm_unit_l n _ i j hi (nf_lt _ _ _)).symm⟩
theorem Steps.step {n : Nat} {F G F1 G1 F2 G2 : Fn2} (h : Steps n F G F1 G1) (E E' : Nat → Nat → Nat) (hE : Inv2 n E E') (bE : ∀ i j, E i j < 256)
    (hF : ∀ i j, i < n → nf F2 i j = mm n E (nf F1) i j) (hG : ∀ i j, i < n → nf G2 i j = mm n E (nf G1) i j) : Steps n F G F2 G2 := by
  obtain ⟨b, c, hi, bb, bc, h1, h2⟩ := h.ex
  refine ⟨mm n E b, mm n c E', hi.step hE (fun _ _ _ _ => rfl) bE bb, fun _ _ => mm_lt _ _ _ _ _, fun _ _ => mm_lt _ _ _ _ _, fun i j hin => ?_, fun i j hin => ?_⟩
  · rw [hF i j hin, mm_assoc]; exact mm_congr (fun _ _ => rfl) fun k hk => h1 k j hk
  · rw [hG i j hin, mm_assoc]; exact mm_congr (fun _ _ => rfl) fun k hk => h2 k j hk
theorem lay1_toNat (c : Nat) (o x : UInt8) : (lay1 c o x).toNat = o.toNat ^^^ mul c x.toNat := lay1_nat c o x
theorem nf_onto (F : Fn2) (i led t a j : Nat) : nf (onto F i led t) a j = if a = i then nf F i j ^^^ mul t (nf F led j) else nf F a j := by
  unfold nf onto; split
  · exact lay1_nat _ _ _
  · rfl
theorem nf_lead1 (F : Fn2) (led first c a j : Nat) : nf (lead1 F led first c) a j = if a = led then mul c (nf F (sw led first led) j) else nf F (sw led first a) j := by
  have e : sw led first led = first := by unfold sw; simp
  unfold nf lead1; split
  · rw [lay1_nat, e]; simp
  · rfl
theorem Steps.onto {n : Nat} {F G F1 G1 : Fn2} (h : Steps n F G F1 G1) {i led t : Nat} (hl : led < n) (hil : i ≠ led) (ht : t < 256) : Steps n F G (onto F1 i led t) (onto G1 i led t) :=
  h.step (eLay i led t) (eLay i led t) (eLay_inv hl hil ht) (eLay_lt i led t ht)
    (fun a j ha => by rw [nf_onto, eLay_row _ hl ht (nf_lt F1) a j ha]) (fun a j ha => by rw [nf_onto, eLay_row _ hl ht (nf_lt G1) a j ha])
theorem Steps.lead1 {n : Nat} {F G F1 G1 : Fn2} (h : Steps n F G F1 G1) {led first c : Nat} (hl : led < n) (hf : first < n) (hc : c < 256) (h0 : c ≠ 0) : Steps n F G (lead1 F1 led first c) (lead1 G1 led first c) := by
  have h1 : Steps n F G (fun a => F1 (sw led first a)) (fun a => G1 (sw led first a)) :=
    h.step (eSw led first) (eSw led first) (eSw_inv hl hf) (fun _ _ => unitM_lt _ _)
      (fun a j ha => by rw [eSw_row _ hl hf (nf_lt F1) a j ha]; rfl) (fun a j ha => by rw [eSw_row _ hl hf (nf_lt G1) a j ha]; rfl)
  exact h1.step (eMul led c) (eMul led (iv c)) (eMul_inv hc h0) (eMul_lt led c hc)
    (fun a j ha => by rw [nf_lead1, eMul_row _ (nf_lt _) a j ha]; rfl) (fun a j ha => by rw [nf_lead1, eMul_row _ (nf_lt _) a j ha]; rfl)

theorem elimTo_steps {n : Nat} {F G F1 G1 : Fn2} (h : Steps n F G F1 G1) {col led : Nat} (hl : led < n) : ∀ i, i ≤ n → Steps n F G (elimTo col led i (F1, G1)).1 (elimTo col led i (F1, G1)).2 := by
  intro i
  induction i with
  | zero => intro _; exact h
  | succ i ih =>
    intro hi
    have h1 := ih (by omega)
    simp only [elimTo]
    split
    · exact h1
    · rename_i hne
      exact h1.onto hl (fun e => hne (.inl e)) (UInt8.toNat_lt _)
/-- of each row: done, or as it was -/
theorem elimTo_row (F G : Fn2) (col led : Nat) : ∀ i a, (elimTo col led i (F, G)).1 a = (if a < i ∧ a ≠ led then (fun j => lay1 (F a col).toNat (F a j) (F led j)) else F a) := by
  intro i
  induction i with
  | zero => intro a; rw [if_neg (by omega)]; rfl
  | succ i ih =>
    intro a
    have hl := ih led
    rw [if_neg (by omega)] at hl
    have hi := ih i
    rw [if_neg (by omega)] at hi
    simp only [elimTo]
    split
    · rename_i hc
      rw [ih a]
      by_cases h1 : a < i ∧ a ≠ led
      · rw [if_pos h1, if_pos (by omega)]
      · rw [if_neg h1]
        by_cases h2 : a = i
        · subst h2
          rcases hc with e | e
          · rw [if_neg (by omega)]
          · rw [hi] at e
            by_cases h3 : a = led
            · rw [if_neg (by omega)]
            · rw [if_pos (by omega)]
              funext j
              rw [e]
              apply UInt8.toNat_inj.1
              rw [lay1_nat]
              simp [zero_mul]
        · rw [if_neg (by omega)]
    · rename_i hc
      have hil : i ≠ led := fun e => hc (.inl e)
      show onto (elimTo col led i (F, G)).1 i led ((elimTo col led i (F, G)).1 i col).toNat a = _
      by_cases h2 : a = i
      · subst h2
        rw [if_pos ⟨by omega, hil⟩]
        funext j
        unfold onto
        rw [if_pos rfl, hi, hl]
      · have : onto (elimTo col led i (F, G)).1 i led ((elimTo col led i (F, G)).1 i col).toNat a = (elimTo col led i (F, G)).1 a := by
          funext j; unfold onto; rw [if_neg h2]
        rw [this, ih a]
        by_cases h1 : a < i ∧ a ≠ led
        · rw [if_pos h1, if_pos (by omega)]
        · rw [if_neg h1, if_neg (by omega)]

/-- How far it has come: the first led rows lead, each in a column of its own, rising, among the first col; the others are nought there. -/
structure Far (n col led : Nat) (F : Fn2) (p : Nat → Nat) : Prop where
  le : led ≤ n
  lt : ∀ i, i < led → p i < col
  up : ∀ i j, i < j → j < led → p i < p j
  one : ∀ i a, i < led → a < n → nf F a (p i) = unitM a i
  non : ∀ a j, led ≤ a → a < n → j < col → nf F a j = 0
theorem Far.start (n : Nat) (F : Fn2) : Far n 0 0 F (fun _ => 0) := ⟨by omega, fun _ h => by omega, fun _ _ _ h => by omega, fun _ _ h => by omega, fun _ _ _ _ h => by omega⟩
theorem byte_ne {x : UInt8} (h : x ≠ 0) : x.toNat ≠ 0 := fun e => h (UInt8.toNat_inj.1 e)
theorem Far.step {n col led : Nat} {F G : Fn2} {p : Nat → Nat} {F0 G0 : Fn2} (h : Far n col led F p) (hs : Steps n F0 G0 F G) :
    (∃ q, Far n (col + 1) (stepCol n col (F, G, led)).2.2 (stepCol n col (F, G, led)).1 q) ∧ Steps n F0 G0 (stepCol n col (F, G, led)).1 (stepCol n col (F, G, led)).2.1 := by
  have hle := h.le
  have hsk := seek_le F col (n - led) led
  unfold stepCol
  simp only
  by_cases hfn : led + seek F col led (n - led) = n
  · rw [if_pos hfn]
    show (∃ q, Far n (col + 1) led F q) ∧ Steps n F0 G0 F G
    refine ⟨⟨p, h.le, fun i hi => by have := h.lt i hi; omega, h.up, h.one, fun a j ha han hj => ?_⟩, hs⟩
    by_cases hjc : j < col
    · exact h.non a j ha han hjc
    · obtain rfl : j = col := by omega
      have := seek_zero F j (n - led) led (a - led) (by omega)
      rw [show led + (a - led) = a from by omega] at this
      unfold nf; rw [this]; rfl
  · rw [if_neg hfn]
    have hlt : seek F col led (n - led) < n - led := by omega
    have hne := seek_ne F col (n - led) led hlt
    generalize hfi : led + seek F col led (n - led) = first at *
    have hf : first < n := by omega
    have hlf : led ≤ first := by omega
    have hl : led < n := by omega
    have hx := byte_ne hne
    have hx' := UInt8.toNat_lt (F first col)
    simp only
    have hS1 := hs.lead1 (led := led) (first := first) (c := iv (F first col).toNat) hl hf (iv_lt _) (iv_ne _ hx hx')
    refine ⟨?_, elimTo_steps hS1 hl n (Nat.le_refl _)⟩
    generalize hF1 : lead1 F led first (iv (F first col).toNat) = F1 at *
    generalize hG1 : lead1 G led first (iv (F first col).toNat) = G1 at *
    -- the new matrix, place by place
    have hE : ∀ a j, nf (elimTo col led n (F1, G1)).1 a j = if a < n ∧ a ≠ led then nf F1 a j ^^^ mul (nf F1 a col) (nf F1 led j) else nf F1 a j := by
      intro a j
      unfold nf
      rw [elimTo_row]
      split
      · exact lay1_nat _ _ _
      · rfl
    have h1 : ∀ a j, nf F1 a j = if a = led then mul (iv (nf F first col)) (nf F first j) else nf F (sw led first a) j := by
      intro a j
      rw [← hF1, nf_lead1]
      have e : sw led first led = first := by unfold sw; simp
      rw [e]; rfl
    have h1l : nf F1 led col = 1 := by rw [h1, if_pos rfl]; exact iv_mul _ hx hx'
    have hswn : ∀ a, a < n → sw led first a < n := fun a ha => sw_lt hl hf ha
    have hswl : ∀ a, led ≤ a → led ≤ sw led first a := fun a ha => by unfold sw; split <;> (try split) <;> omega
    have hsw0 : ∀ a, a < led → sw led first a = a := fun a ha => by unfold sw; rw [if_neg (by omega), if_neg (by omega)]
    -- columns that lead already
    have hold : ∀ i a, i < led → a < n → nf F1 a (p i) = unitM a i := by
      intro i a hi ha
      rw [h1]
      split
      · rename_i e
        subst e
        rw [h.one i first hi hf, unitM, if_neg (by omega), mul_zero, unitM, if_neg (by omega)]
      · rename_i e
        by_cases hal : a < led
        · rw [hsw0 a hal, h.one i a hi ha]
        · rw [h.one i _ hi (hswn a ha), unitM, if_neg (by have := hswl a (by omega); omega), unitM, if_neg (by omega)]
    have hnil : ∀ a j, led ≤ a → a < n → j < col → nf F1 a j = 0 := by
      intro a j ha han hj
      rw [h1]
      split
      · rw [h.non first j hlf hf hj, mul_zero]
      · exact h.non _ j (hswl a ha) (hswn a han) hj
    refine ⟨fun i => if i = led then col else p i, by omega, fun i hi => ?_, fun i j hij hj => ?_, fun i a hi ha => ?_, fun a j ha han hj => ?_⟩
    · split
      · omega
      · have := h.lt i (by omega); omega
    · rw [if_neg (by omega)]
      split
      · exact h.lt i (by omega)
      · exact h.up i j hij (by omega)
    · rw [hE]
      by_cases hil : i = led
      · subst hil
        rw [if_pos rfl]
        split
        · rename_i e
          rw [h1l, mul_one _ (nf_lt _ _ _), Nat.xor_self, unitM, if_neg e.2]
        · rename_i e
          obtain rfl : a = i := by omega
          rw [h1l, unitM, if_pos rfl]
      · rw [if_neg hil]
        have hz : nf F1 led (p i) = 0 := by rw [hold i led (by omega) hl, unitM, if_neg (by omega)]
        rw [hz, mul_zero, Nat.xor_zero, hold i a (by omega) ha]
        simp
    · rw [hE, if_pos ⟨han, by omega⟩]
      by_cases hjc : j < col
      · rw [hnil a j (by omega) han hjc, hnil led j (Nat.le_refl _) hl hjc, mul_zero, Nat.xor_zero]
      · obtain rfl : j = col := by omega
        rw [h1l, mul_one _ (nf_lt _ _ _), Nat.xor_self]
/-- what elimination comes to -/
theorem red_spec (n : Nat) (F G : Fn2) : ∀ k, (∃ p, Far n k (red n k (F, G, 0)).2.2 (red n k (F, G, 0)).1 p) ∧ Steps n F G (red n k (F, G, 0)).1 (red n k (F, G, 0)).2.1 := by
  intro k
  induction k with
  | zero => exact ⟨⟨_, Far.start n F⟩, Steps.refl n F G⟩
  | succ k ih =>
    obtain ⟨⟨p, h⟩, hs⟩ := ih
    have := h.step hs
    exact this
/-- the rank, and the inverse, by elimination -/
def rankF (n k : Nat) (F G : Fn2) : Nat := (red n k (F, G, 0)).2.2
def besF (n k : Nat) (F G : Fn2) : Fn2 := (red n k (F, G, 0)).2.1
theorem rankF_is (n k : Nat) (F G : Fn2) : RankIs (nf F) n k (rankF n k F G) := by
  obtain ⟨⟨p, h⟩, hs⟩ := red_spec n F G k
  obtain ⟨b, c, hi, bb, bc, h1, h2⟩ := hs.ex
  exact RankIs.of_steps (a := nf (red n k (F, G, 0)).1) hi bb bc (nf_lt _) (nf_lt _) (fun i j hin _ => h1 i j hin) h.le p h.lt (fun i a hi ha => h.one i a hi (by have := h.le; exact Nat.lt_of_lt_of_le ha this)) (fun i j h1 h2 h3 => h.non i j h1 h2 h3)
theorem rankF_eq (n k : Nat) (F G G' : Fn2) : rankF n k F G = rankF n k F G' := (rankF_is n k F G).unique (rankF_is n k F G') (nf_lt F)
theorem rankF_le (n k : Nat) (F G : Fn2) : rankF n k F G ≤ n ∧ rankF n k F G ≤ k := ⟨(rankF_is n k F G).le_rows (nf_lt F), (rankF_is n k F G).le_cols (nf_lt F)⟩
def unitF : Fn2 := fun i j => if i = j then 1 else 0
theorem nf_unit (i j : Nat) : nf unitF i j = unitM i j := by unfold nf unitF unitM; split <;> rfl
theorem full_lead {n : Nat} {F : Fn2} {p : Nat → Nat} (h : Far n n n F p) : ∀ i, i < n → p i = i := by
  have h1 : ∀ i, i < n → i ≤ p i := by
    intro i
    induction i with
    | zero => intro _; omega
    | succ i ih => intro hi; have := ih (by omega); have := h.up i (i + 1) (by omega) hi; omega
  have h2 : ∀ d i, i < n → n - 1 - i = d → p i ≤ i := by
    intro d
    induction d with
    | zero => intro i hi hd; have := h.lt i hi; omega
    | succ d ih => intro i hi hd; have := ih (i + 1) (by omega) (by omega); have := h.up i (i + 1) (by omega) (by omega); omega
  intro i hi
  have := h1 i hi
  have := h2 _ i hi rfl
  omega
/-- Where the rank is full, what stands beside is the inverse, from both sides. -/
theorem invF_spec {n : Nat} {F : Fn2} (h : rankF n n F unitF = n) : Inv2 n (nf (besF n n F unitF)) (nf F) := by
  obtain ⟨⟨p, hf⟩, hs⟩ := red_spec n F unitF n
  obtain ⟨b, c, hi, bb, bc, h1, h2⟩ := hs.ex
  unfold rankF at h
  rw [h] at hf
  have hp := full_lead hf
  have hb : ∀ i j, i < n → j < n → nf (besF n n F unitF) i j = b i j := by
    intro i j hin hj
    show nf (red n n (F, unitF, 0)).2.1 i j = _
    rw [h2 i j hin, mm_congr (B' := unitM) (fun _ _ => rfl) (fun k _ => nf_unit k j), mm_unit_r n b i j hj (bb i j)]
  have hu : Inv2 n b (nf F) := hi.of_unit bc (nf_lt F) fun i j hin hj => by
    rw [← h1 i j hin]
    have := hf.one j i hj hin
    rwa [hp j hj] at this
  exact ⟨fun i j hin hj => by rw [mm_congr (A' := b) (fun k hk => hb i k hin hk) (fun _ _ => rfl)]; exact hu.1 i j hin hj,
    fun i j hin hj => by rw [mm_congr (B' := b) (fun _ _ => rfl) (fun k hk => hb k j hk hj)]; exact hu.2 i j hin hj⟩
/-- Whoever has an inverse is of full rank. -/
theorem full_of_inv {n : Nat} {F G : Fn2} {X : Nat → Nat → Nat} (bX : ∀ i j, X i j < 256) (h : Inv2 n X (nf F)) : rankF n n F G = n := (rankF_is n n F G).full (nf_lt F) bX h
end Go.Coop
