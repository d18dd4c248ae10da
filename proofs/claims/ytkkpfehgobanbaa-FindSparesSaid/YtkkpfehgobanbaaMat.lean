/- Matrices in memory: a slice of rows of one's own, each a slice of bytes of one's own; a grid: rows that were made one behind the other. -/
import Derived.Test.YtkkpfehgobanbaaDot
import Derived.Test.YtkkpfehgobanbaaElimP
namespace Go.Proofs.Ytkkpfehgobanbaa
open Go.RowKit Go.Coop
set_option maxRecDepth 100000

theorem info31 : (Try.prog.info? 35).map (fun i => (i.zero, i.size, i.bytes)) = some (some (.slice none 0 0), 1, 24) := by kernel_rfl
theorem size_alloc (w : World) (o : Obj) : (w.alloc o).heap.size = w.heap.size + 1 := by simp
theorem add_zero_off (g k : Nat) : (⟨g, 0, none⟩ : Addr).add k = ⟨g, k, none⟩ := by unfold Addr.add; split <;> simp_all

/-- the slice at A of n rows, capacity c, among the blocks from bo on; each row a slice of bytes among the blocks from br on -/
structure MO (w : World) (bo br : Nat) (A : Option Addr) (n c : Nat) (M : List (List UInt8)) : Prop where
  len : M.length = n
  out : ∃ vs : List Value, OwnV w bo 35 A n c vs ∧ ∀ (i : Nat) (r : List UInt8), M[i]? = some r → ∃ (B : Option Addr) (d : Nat), vs[i]? = some (Value.slice B r.length d) ∧ Own w br 5 B r.length d r

/-- a block stays -/
theorem _root_.Go.Coop.Own.at_block {w w' : World} {b E : Nat} {A : Option Addr} {n c : Nat} {l : List UInt8} (h : Own w b E A n c l) (hk : ∀ g, A = some ⟨g, 0, none⟩ → w'.heap[g]? = w.heap[g]?) : Own w' b E A n c l := by
  refine ⟨h.len, h.row.1, ?_⟩
  rcases h.row.2 with hn | ⟨g, cap, cur, hv, hb, hg, r⟩
  · exact .inl hn
  · injection hv with hA hn hc
    subst hA
    exact .inr ⟨g, cap, cur, by rw [hn, hc], hb, (hk g rfl).trans hg, r⟩
theorem _root_.Go.Coop.OwnV.at_block {w w' : World} {b E : Nat} {A : Option Addr} {n c : Nat} {l : List Value} (h : OwnV w b E A n c l) (hk : ∀ g, A = some ⟨g, 0, none⟩ → w'.heap[g]? = w.heap[g]?) : OwnV w' b E A n c l := by
  refine ⟨h.len, h.row.1, ?_⟩
  rcases h.row.2 with hn | ⟨g, cap, cur, hv, hb, hg, r⟩
  · exact .inl hn
  · injection hv with hA hn hc
    subst hA
    exact .inr ⟨g, cap, cur, by rw [hn, hc], hb, (hk g rfl).trans hg, r⟩
theorem _root_.Go.Coop.OwnV.lower {w : World} {base base' E c : Nat} {A : Option Addr} {n : Nat} {vs : List Value} (h : OwnV w base E A n c vs) (hb : base' ≤ base) : OwnV w base' E A n c vs := by
  refine ⟨h.len, h.row.1, ?_⟩
  rcases h.row.2 with hn | ⟨g, cap, cur, hv, hg, r⟩
  · exact .inl hn
  · exact .inr ⟨g, cap, cur, hv, by omega, r⟩
/-- where a row of one's own lies -/
theorem _root_.Go.Coop.Own.cells_at {w : World} {b E : Nat} {A : Option Addr} {n c : Nat} {l : List UInt8} (h : Own w b E A n c l) (g : Nat) (hA : A = some ⟨g, 0, none⟩) : ∃ cur, w.heap[g]? = some (.cells cur E (0, 0)) ∧ b ≤ g := by
  subst hA
  rcases h.row.2 with ⟨hv, _⟩ | ⟨g', cap, cur, hv, hb, hg, r⟩
  · cases hv
  · injection hv with hA _ _
    injection hA with hA
    injection hA with hA _ _
    subst hA
    exact ⟨cur, hg, hb⟩
theorem _root_.Go.Coop.OwnV.cells_at {w : World} {b E : Nat} {A : Option Addr} {n c : Nat} {l : List Value} (h : OwnV w b E A n c l) (g : Nat) (hA : A = some ⟨g, 0, none⟩) : ∃ cur, w.heap[g]? = some (.cells cur E (0, 0)) ∧ b ≤ g := by
  subst hA
  rcases h.row.2 with ⟨hv, _⟩ | ⟨g', cap, cur, hv, hb, hg, r⟩
  · cases hv
  · injection hv with hA _ _
    injection hA with hA
    injection hA with hA _ _
    subst hA
    exact ⟨cur, hg, hb⟩
theorem _root_.Go.Coop.OwnV.set {w : World} {base E : Nat} {A : Option Addr} {n c : Nat} {l : List Value} (h : OwnV w base E A n c l) {g k : Nat} (hA : A = some ⟨g, 0, none⟩) (x : Value) : OwnV (w.setCell ⟨g, k, none⟩ x) base E A n c (l.set k x) := by
  subst hA
  refine ⟨by rw [List.length_set]; exact h.len, ?_⟩
  refine ⟨by simp [h.len], ?_⟩
  rcases h.row.2 with ⟨hv, h0⟩ | ⟨g', cap, cur, hv, hb, hg, hc1, hc2, hc3, hc4⟩
  · cases hv
  · injection hv with a b c'
    injection a with a
    injection a with a _ _
    subst a c'
    refine .inr ⟨g, c, cur.setIfInBounds k x, rfl, hb, ?_, hc1, hc2, by simpa using hc3, ?_⟩
    · rw [heap_setCell_same w g k cur E x hg]
    · simp only [Array.toList_setIfInBounds, Nat.mul_one] at hc4 ⊢
      rw [List.take_set, hc4]
theorem _root_.Go.Coop.OwnV.addr {w : World} {base E : Nat} {A : Option Addr} {n c : Nat} {l : List Value} (h : OwnV w base E A n c l) (hn : 0 < n) : ∃ g, A = some ⟨g, 0, none⟩ ∧ base ≤ g ∧ g < w.heap.size ∧ ∀ k, w.frozen? ⟨g, k, none⟩ = false := by
  rcases h.row.2 with ⟨hv, h0⟩ | ⟨g, cap, cur, hv, hb, hg, _⟩
  · omega
  · injection hv with a _ _
    subst a
    exact ⟨g, rfl, hb, (Array.getElem?_eq_some_iff.1 hg).1, fun k => frozen_of_row w g k cur E hg⟩

section
variable {w w' : World} {bo br : Nat} {A : Option Addr} {n c : Nat} {M : List (List UInt8)}
/-- what it lies in stays -/
theorem MO.keep (h : MO w bo br A n c M) (hk : ∀ g cur E, w.heap[g]? = some (.cells cur E (0, 0)) → (E = 35 ∧ A = some ⟨g, 0, none⟩ ∨ E = 5 ∧ br ≤ g) → w'.heap[g]? = w.heap[g]?) : MO w' bo br A n c M := by
  obtain ⟨vs, ho, hr⟩ := h.out
  refine ⟨h.len, vs, ho.at_block fun g hA => ?_, fun i r hi => ?_⟩
  · obtain ⟨cur, hg, _⟩ := ho.cells_at g hA
    exact hk g cur 35 hg (.inl ⟨rfl, hA⟩)
  · obtain ⟨B, d, hv, hw⟩ := hr i r hi
    refine ⟨B, d, hv, hw.at_block fun g hB => ?_⟩
    obtain ⟨cur, hg, hb⟩ := hw.cells_at g hB
    exact hk g cur 5 hg (.inr ⟨rfl, hb⟩)
theorem MO.below {B : Nat} (h : MO w bo br A n c M) (hb : Below B w w') (hB : w.heap.size ≤ B) : MO w' bo br A n c M :=
  h.keep fun g _ _ hg _ => hb.block g (by have := (Array.getElem?_eq_some_iff.1 hg).1; omega)
theorem MO.alloc (h : MO w bo br A n c M) (o : Obj) : MO (w.alloc o) bo br A n c M := h.below ((Below.refl w.heap.size w).alloc (Nat.le_refl _) o) (Nat.le_refl _)
theorem MO.drewN (h : MO w bo br A n c M) (k : Nat) : MO (w.drewN k) bo br A n c M := h.keep fun _ _ _ _ _ => rfl
theorem MO.drew (h : MO w bo br A n c M) : MO w.drew bo br A n c M := h.keep fun _ _ _ _ _ => rfl
theorem MO.lower {bo' br' : Nat} (h : MO w bo br A n c M) (h1 : bo' ≤ bo) (h2 : br' ≤ br) : MO w bo' br' A n c M := by
  obtain ⟨vs, ho, hr⟩ := h.out
  refine ⟨h.len, vs, ho.lower h1, fun i r hi => ?_⟩
  obtain ⟨B, d, hv, hw⟩ := hr i r hi
  exact ⟨B, d, hv, hw.lower h2⟩
/-- a cell of another kind is written -/
theorem MO.setOther (h : MO w bo br A n c M) {g k : Nat} {v : Value} {cur : Array Value} {E : TypeId} (hg : w.heap[g]? = some (.cells cur E (0, 0))) (h1 : E ≠ 35) (h2 : E ≠ 5) : MO (w.setCell ⟨g, k, none⟩ v) bo br A n c M :=
  h.keep fun g' _ E' hg' ho => Below.heap_setCell _ _ _ _ (by
    rintro rfl
    rw [hg] at hg'
    injection hg' with e
    injection e with _ e _
    rcases ho with ⟨rfl, _⟩ | ⟨rfl, _⟩
    · exact h1 e
    · exact h2 e)
/-- a cell of another matrix' rows is written -/
theorem MO.setApart (h : MO w bo br A n c M) {g k : Nat} {v : Value} {cur : Array Value} (hg : w.heap[g]? = some (.cells cur 35 (0, 0))) (h1 : A ≠ some ⟨g, 0, none⟩) : MO (w.setCell ⟨g, k, none⟩ v) bo br A n c M :=
  h.keep fun g' _ E' hg' ho => Below.heap_setCell _ _ _ _ (by
    rintro rfl
    rcases ho with ⟨_, e⟩ | ⟨rfl, _⟩
    · exact h1 e
    · rw [hg] at hg'
      injection hg' with e
      injection e with _ e _
      cases e)
/-- a row of it -/
theorem MO.row (h : MO w bo br A n c M) {i : Nat} (hi : i < n) : ∃ g B d r, A = some ⟨g, 0, none⟩ ∧ bo ≤ g ∧ g < w.heap.size ∧ (∀ k, w.frozen? ⟨g, k, none⟩ = false) ∧ M[i]? = some r ∧ w.cell? ⟨g, i, none⟩ = some (.slice B r.length d) ∧ Own w br 5 B r.length d r := by
  obtain ⟨vs, ho, hr⟩ := h.out
  obtain ⟨g, rfl, hb, hlt, hf⟩ := ho.addr (by omega)
  have hM : i < M.length := by have := h.len; omega
  obtain ⟨B, d, hv, hw⟩ := hr i _ (List.getElem?_eq_getElem hM)
  obtain ⟨ad, v, e, _, hv', hc⟩ := ho.rd.at_ hi
  injection e with e
  subst e
  rw [hv] at hv'
  injection hv' with hv'
  subst hv'
  rw [add_zero_off] at hc
  exact ⟨g, B, d, _, rfl, hb, hlt, hf, List.getElem?_eq_getElem hM, hc, hw⟩
/-- a row is put anew -/
theorem MO.setRow (h : MO w bo br A n c M) {g i d : Nat} {B : Option Addr} {r : List UInt8} (hA : A = some ⟨g, 0, none⟩) (hw : Own w br 5 B r.length d r) : MO (w.setCell ⟨g, i, none⟩ (.slice B r.length d)) bo br A n c (M.set i r) := by
  obtain ⟨vs, ho, hr⟩ := h.out
  obtain ⟨cur, hg, _⟩ := ho.cells_at g hA
  have hkeep : ∀ {X : Option Addr} {m e : Nat} {l : List UInt8}, Own w br 5 X m e l → Own (w.setCell ⟨g, i, none⟩ (.slice B r.length d)) br 5 X m e l := fun {X m e l} hx => hx.at_block fun g' hX => Below.heap_setCell _ _ _ _ (by
    rintro rfl
    obtain ⟨cur', hg', _⟩ := hx.cells_at _ hX
    rw [hg] at hg'
    injection hg' with e
    injection e with _ e _
    cases e)
  refine ⟨by rw [List.length_set]; exact h.len, vs.set i (.slice B r.length d), ho.set hA _, fun j r' hj => ?_⟩
  rw [List.getElem?_set] at hj ⊢
  have hl : vs.length = M.length := by rw [ho.len, h.len]
  by_cases hij : i = j
  · subst hij
    rw [if_pos rfl] at hj ⊢
    split at hj
    · injection hj with hj
      subst hj
      rw [if_pos (by omega)]
      exact ⟨B, d, rfl, hkeep hw⟩
    · cases hj
  · rw [if_neg hij] at hj ⊢
    obtain ⟨B', d', hv, hw'⟩ := hr j r' hj
    exact ⟨B', d', hv, hkeep hw'⟩
/-- one row more -/
theorem MO.nil (w : World) (bo br : Nat) : MO w bo br none 0 0 [] := ⟨rfl, [], OwnV.nil _ _ _, fun i r h => by simp at h⟩
end

/-- a row that was just made -/
theorem own_new (w : World) (l : List UInt8) (k : Nat) (hk : l.length = k) (hm : k ≤ maxLen) : Own (w.alloc (.cells (bvs l).toArray 5)) w.heap.size 5 (some ⟨w.heap.size, 0, none⟩) k k l := by
  refine ⟨hk, by simp [bvs, hk], .inr ⟨w.heap.size, k, (bvs l).toArray, rfl, Nat.le_refl _, heap_alloc_new w _, Nat.le_refl _, hm, by simp [bvs, hk], ?_⟩⟩
  have e : (bvs l).toArray.toList = bvs l := rfl
  rw [e, Nat.mul_one, List.take_of_length_le (by rw [bvs_length]; omega)]

/- a grid -/
def rowC (k : Nat) (f : Nat → UInt8) : Array Value := (bvs (rowL k f)).toArray
def outC (g n k i : Nat) : Array Value := ((List.range n).map fun j => if j < i then Value.slice (some ⟨g + 1 + j, 0, none⟩) k k else .slice none 0 0).toArray
structure Grid (w : World) (g n k : Nat) (F : Fn2) : Prop where
  out : w.heap[g]? = some (.cells (outC g n k n) 35 (0, 0))
  rows : ∀ i, i < n → w.heap[g + 1 + i]? = some (.cells (rowC k (F i)) 5 (0, 0))
theorem rowC_at {k j : Nat} (f : Nat → UInt8) (h : j < k) : (rowC k f)[j]? = some (BV (f j)) := by
  unfold rowC
  have := bvs_at' (rowL_at f h)
  simpa using this
theorem outC_at {g n k i j : Nat} (h : j < n) : (outC g n k i)[j]? = some (if j < i then Value.slice (some ⟨g + 1 + j, 0, none⟩) k k else .slice none 0 0) := by
  unfold outC; simp [h]
theorem rowC_set (k j : Nat) (f : Nat → UInt8) (x : UInt8) : (rowC k f).setIfInBounds j (BV x) = rowC k (fun b => if b = j then x else f b) := by
  apply Array.ext_getElem?
  intro b
  by_cases hb : b < k
  · rw [rowC_at _ hb, Array.getElem?_setIfInBounds]
    by_cases e : j = b
    · subst e
      rw [if_pos rfl, if_pos rfl, if_pos (by simp [rowC, bvs, rowL]; omega)]
    · rw [if_neg e, if_neg (fun h => e h.symm), rowC_at _ hb]
  · rw [Array.getElem?_eq_none (by simp [rowC, bvs, rowL]; omega), Array.getElem?_eq_none (by simp [rowC, bvs, rowL]; omega)]
theorem Grid.rowAt {w : World} {g n k : Nat} {F : Fn2} (h : Grid w g n k F) {i : Nat} (hi : i < n) : w.cell? ⟨g, i, none⟩ = some (.slice (some ⟨g + 1 + i, 0, none⟩) k k) := by
  rw [cell_of_row w g i _ 35 (0, 0) h.out, outC_at hi, if_pos hi]
theorem Grid.cellAt {w : World} {g n k : Nat} {F : Fn2} (h : Grid w g n k F) {i j : Nat} (hi : i < n) (hj : j < k) : w.cell? ⟨g + 1 + i, j, none⟩ = some (BV (F i j)) ∧ w.frozen? ⟨g + 1 + i, j, none⟩ = false :=
  ⟨by rw [cell_of_row w _ j _ 5 (0, 0) (h.rows i hi), rowC_at _ hj], frozen_of_row w _ j _ 5 (h.rows i hi)⟩
theorem Grid.set {w : World} {g n k : Nat} {F : Fn2} (h : Grid w g n k F) (i j : Nat) (x : UInt8) : Grid (w.setCell ⟨g + 1 + i, j, none⟩ (BV x)) g n k (fun a b => if a = i ∧ b = j then x else F a b) := by
  refine ⟨(Below.heap_setCell _ _ _ _ (by show g ≠ g + 1 + i; omega)).trans h.out, fun a ha => ?_⟩
  by_cases e : a = i
  · subst e
    rw [heap_setCell_same w _ j _ 5 (BV x) (h.rows a ha), rowC_set]
    congr 3
    funext b
    simp
  · rw [Below.heap_setCell _ _ _ _ (by show g + 1 + a ≠ g + 1 + i; omega), h.rows a ha]
    congr 3
    funext b
    rw [if_neg (by omega)]
theorem Grid.congr {w : World} {g n k : Nat} {F G : Fn2} (h : Grid w g n k F) (e : ∀ i j, i < n → j < k → F i j = G i j) : Grid w g n k G :=
  ⟨h.out, fun i hi => by rw [h.rows i hi]; unfold rowC; rw [rowL_congr fun j hj => e i j hi hj]⟩
theorem Grid.below {w w' : World} {g n k B : Nat} {F : Fn2} (h : Grid w g n k F) (hb : Below B w w') (hB : w.heap.size ≤ B) : Grid w' g n k F :=
  ⟨(hb.block g (by have := (Array.getElem?_eq_some_iff.1 h.out).1; omega)).trans h.out, fun i hi => (hb.block _ (by have := (Array.getElem?_eq_some_iff.1 (h.rows i hi)).1; omega)).trans (h.rows i hi)⟩
theorem Grid.drewN {w : World} {g n k : Nat} {F : Fn2} (h : Grid w g n k F) (q : Nat) : Grid (w.drewN q) g n k F := ⟨h.out, h.rows⟩
theorem Grid.mo {w : World} {g n k : Nat} {F : Fn2} (h : Grid w g n k F) (hn : n ≤ maxLen) (hk : k ≤ maxLen) : MO w g g (some ⟨g, 0, none⟩) n n (tabM n k F) := by
  refine ⟨tabM_len n k F, (outC g n k n).toList, ⟨by simp [outC], by simp [outC], .inr ⟨g, n, _, rfl, Nat.le_refl _, h.out, Nat.le_refl _, hn, by simp [outC], ?_⟩⟩, fun i r hi => ?_⟩
  · rw [Nat.mul_one, List.take_of_length_le (by simp [outC])]
  · have hin : i < n := by have := (List.getElem?_eq_some_iff.1 hi).1; rwa [tabM_len] at this
    rw [tabM_at k F hin] at hi
    injection hi with hi
    subst hi
    rw [rowL_len]
    refine ⟨some ⟨g + 1 + i, 0, none⟩, k, ?_, ⟨rowL_len _ _, by simp [bvs, rowL], .inr ⟨g + 1 + i, k, _, rfl, by omega, h.rows i hin, Nat.le_refl _, hk, by simp [rowC, bvs, rowL], ?_⟩⟩⟩
    · have := outC_at (g := g) (k := k) (i := n) hin
      rw [if_pos hin] at this
      simpa using this
    · have e : (rowC k (F i)).toList = bvs (rowL k (F i)) := rfl
      rw [e, Nat.mul_one, List.take_of_length_le (by rw [bvs_length, rowL_len]; omega)]
end Go.Proofs.Ytkkpfehgobanbaa
