/- How the reference's elimination makes its copies: row by row, each in memory of its own. -/
import Derived.Test.YtobbjeephmfdeaaMtxAB
namespace Go.Proofs.Ytobbjeephmfdeaa
open Go.RowKit Go.Coop
set_option maxRecDepth 100000

def rowsV (q k : Nat) (r d : Nat → Nat) : List Value := (List.range q).map fun i => Value.slice (some ⟨r i, 0, none⟩) k (d i)
theorem rowsV_len (q k : Nat) (r d : Nat → Nat) : (rowsV q k r d).length = q := by simp [rowsV]
theorem rowsV_at {q k i : Nat} (r d : Nat → Nat) (h : i < q) : (rowsV q k r d)[i]? = some (.slice (some ⟨r i, 0, none⟩) k (d i)) := by simp [rowsV, h]
def upd (f : Nat → Nat) (q x : Nat) : Nat → Nat := fun i => if i = q then x else f i
theorem rowsV_snoc (q k : Nat) (r d : Nat → Nat) (x e : Nat) : rowsV (q + 1) k (upd r q x) (upd d q e) = rowsV q k r d ++ [.slice (some ⟨x, 0, none⟩) k e] := by
  unfold rowsV
  rw [List.range_succ, List.map_append]
  congr 1
  · refine List.map_congr_left fun i hi => ?_
    have := List.mem_range.1 hi
    unfold upd
    rw [if_neg (by omega), if_neg (by omega)]
  · simp [upd]
structure Half (w : World) (s q k : Nat) (A : Option Addr) (c : Nat) (F : Fn2) (r d : Nat → Nat) : Prop where
  own : OwnV w s 31 A q c (rowsV q k r d)
  cells : RowCells w q k F r
  lo : ∀ i, i < q → s ≤ r i
  inj : ∀ i j, i < q → j < q → i ≠ j → r i ≠ r j
theorem grown_five {w w' : World} {bo m c : Nat} {A : Option Addr} {vs : List Value} (ho : OwnV w bo 31 A m c vs) (hg : w.grownBy w' (A.map (·.block))) {p : Nat} {cur : Array Value} (hp : w.heap[p]? = some (.cells cur 5 (0, 0))) : w'.heap[p]? = w.heap[p]? := by
  refine hg.block p (heap_lt hp) ?_
  intro e
  cases A with
  | none => cases e
  | some a =>
    injection e with e
    rcases ho.row.2 with ⟨hv, _⟩ | ⟨g', cap, cur', hv, _, hg', _⟩
    · cases hv
    · injection hv with ha _ _
      injection ha with ha
      subst ha
      simp only at e
      subst e
      rw [hp] at hg'
      injection hg' with e
      injection e with _ e _
      cases e
theorem Half.below {w w' : World} {s q k c B : Nat} {A : Option Addr} {F : Fn2} {r d : Nat → Nat} (h : Half w s q k A c F r d) (hb : Below B w w') (hB : w.heap.size ≤ B) : Half w' s q k A c F r d :=
  ⟨h.own.below hb hB, h.cells.keep fun i hi => by obtain ⟨cr, e, _⟩ := h.cells i hi; exact hb.block _ (by have := heap_lt e; omega), h.lo, h.inj⟩
theorem Half.alloc {w : World} {s q k c : Nat} {A : Option Addr} {F : Fn2} {r d : Nat → Nat} (h : Half w s q k A c F r d) (o : Obj) : Half (w.alloc o) s q k A c F r d := h.below ((Below.refl w.heap.size w).alloc (Nat.le_refl _) o) (Nat.le_refl _)
theorem Half.lt {w : World} {s q k c : Nat} {A : Option Addr} {F : Fn2} {r d : Nat → Nat} (h : Half w s q k A c F r d) {i : Nat} (hi : i < q) : r i < w.heap.size := by
  obtain ⟨cr, e, _⟩ := h.cells i hi
  exact heap_lt e
/-- one row more -/
theorem Half.grow {w0 w w' : World} {s q k c c' e N : Nat} {A A' : Option Addr} {F : Fn2} {r d : Nat → Nat} {x : Nat} (h0 : Half w0 s q k A c F r d) (hb : Below w0.heap.size w0 w) (hs : s ≤ w0.heap.size)
    (hx : Own w w0.heap.size 5 (some ⟨x, 0, none⟩) k e (rowL k (F q))) (hN : N = q + 1) (ho : OwnV w' s 31 A' N c' (rowsV q k r d ++ [.slice (some ⟨x, 0, none⟩) k e])) (hg : w.grownBy w' (A.map (·.block))) (hk : 1 ≤ k) : Half w' s (q + 1) k A' c' F (upd r q x) (upd d q e) := by
  subst hN
  have h := h0.below hb (Nat.le_refl _)
  obtain ⟨b, cr, eb, hcr, hbx, _⟩ := own_cells hx (by omega)
  injection eb with eb
  injection eb with eb _ _
  subst eb
  refine ⟨by rw [rowsV_snoc]; exact ho, fun i hi => ?_, fun i hi => ?_, fun i j hi hj hij => ?_⟩
  · unfold upd
    by_cases e1 : i = q
    · rw [if_pos e1]
      refine ⟨cr, (grown_five h.own hg hcr).trans hcr, fun j hj => ?_⟩
      subst e1
      rcases hx.row.2 with ⟨hv, h0⟩ | ⟨g, cap, cur, hv, _, hg', _, _, _, h4⟩
      · omega
      · injection hv with hA _ _
        injection hA with hA
        injection hA with hA _ _
        subst hA
        rw [hcr] at hg'
        injection hg' with hg'
        injection hg' with hg' _ _
        subst hg'
        rw [Nat.mul_one] at h4
        have e3 : (bvs (rowL k (F i)))[j]? = some (BV (F i j)) := bvs_at' (rowL_at (F i) hj)
        rw [← h4, List.getElem?_take, if_pos hj] at e3
        simpa using e3
    · rw [if_neg e1]
      obtain ⟨c1, e2, e3⟩ := h.cells i (by omega)
      exact ⟨c1, (grown_five h.own hg e2).trans e2, e3⟩
  · unfold upd
    split
    · omega
    · exact h.lo i (by omega)
  · have hold : ∀ i, i < q → r i < w0.heap.size := fun i hi => h0.lt hi
    unfold upd
    by_cases e1 : i = q
    · rw [if_pos e1, if_neg (by omega)]
      have := hold j (by omega)
      omega
    · rw [if_neg e1]
      have := hold i (by omega)
      split
      · omega
      · exact h.inj i j (by omega) (by omega) hij
/-- the other one stays -/
theorem Half.other {w w' : World} {s q q' k c c' : Nat} {A B : Option Addr} {F G : Fn2} {r d r' d' : Nat → Nat} (h : Half w s q k B c G r d) (ho : Half w s q' k A c' F r' d') (hg : w.grownBy w' (A.map (·.block))) (hne : B.map (·.block) = none ∨ B.map (·.block) ≠ A.map (·.block)) : Half w' s q k B c G r d :=
  ⟨h.own.kept hg hne, h.cells.keep fun i hi => by obtain ⟨cr, e, _⟩ := h.cells i hi; exact grown_five ho.own hg e, h.lo, h.inj⟩
/-- both, so far -/
structure Copies (w : World) (s q k : Nat) (F G : Fn2) (A B : Option Addr) (c c' : Nat) (ra da rb db : Nat → Nat) : Prop where
  a : Half w s q k A c F ra da
  b : Half w s q k B c' G rb db
  ab : ∀ i j, i < q → j < q → ra i ≠ rb j
  ne : B.map (·.block) = none ∨ B.map (·.block) ≠ A.map (·.block)
theorem Copies.two {w : World} {s n k c c' : Nat} {F G : Fn2} {A B : Option Addr} {ra da rb db : Nat → Nat} (h : Copies w s n k F G A B c c' ra da rb db) (hn : 1 ≤ n) : ∃ ga gb, A = some ⟨ga, 0, none⟩ ∧ B = some ⟨gb, 0, none⟩ ∧ s ≤ ga ∧ s ≤ gb ∧ Two s w ga gb n k F G ra rb := by
  obtain ⟨ga, rfl, hga, _⟩ := h.a.own.addr (by omega)
  obtain ⟨gb, rfl, hgb, _⟩ := h.b.own.addr (by omega)
  have outer : ∀ {g c : Nat} {r d : Nat → Nat}, OwnV w s 31 (some ⟨g, 0, none⟩) n c (rowsV n k r d) → Outer w g n k r := fun {g c r d} ho => by
    obtain ⟨cur, hcur, _⟩ := ho.cells_at g rfl
    refine ⟨cur, hcur, fun i hi => ⟨d i, ?_⟩⟩
    obtain ⟨ad, v, e, _, hv, hc⟩ := ho.rd.at_ hi
    injection e with e
    subst e
    rw [rowsV_at r d hi] at hv
    injection hv with hv
    subst hv
    rw [add_zero_off, cell_of_row _ _ i _ 31 (0, 0) hcur] at hc
    exact hc
  refine ⟨ga, gb, rfl, rfl, hga, hgb, outer h.a.own, outer h.b.own, h.a.cells, h.b.cells, h.a.inj, h.b.inj, h.ab, ?_, fun i hi => ⟨h.a.lo i hi, h.b.lo i hi⟩⟩
  rcases h.ne with e | e
  · cases e
  · rintro rfl
    exact e rfl
end Go.Proofs.Ytobbjeephmfdeaa
