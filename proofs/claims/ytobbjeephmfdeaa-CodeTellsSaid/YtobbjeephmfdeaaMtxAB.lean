/- Two matrices whose rows all lie apart: what the reference's elimination does upon them. -/
import Derived.Test.YtobbjeephmfdeaaMtxAA
import Derived.Test.YtobbjeephmfdeaaMtxW
namespace Go.Proofs.Ytobbjeephmfdeaa
open Go.RowKit Go.Coop
set_option maxRecDepth 100000

def RowCells (w : World) (n k : Nat) (F : Fn2) (r : Nat → Nat) : Prop := ∀ i, i < n → ∃ cr : Array Value, w.heap[r i]? = some (.cells cr 5 (0, 0)) ∧ ∀ j, j < k → cr[j]? = some (BV (F i j))
def Outer (w : World) (g n k : Nat) (r : Nat → Nat) : Prop := ∃ co : Array Value, w.heap[g]? = some (.cells co 31 (0, 0)) ∧ ∀ i, i < n → ∃ d, co[i]? = some (.slice (some ⟨r i, 0, none⟩) k d)
structure Two (s : Nat) (w : World) (ga gb n k : Nat) (F G : Fn2) (ra rb : Nat → Nat) : Prop where
  oa : Outer w ga n k ra
  ob : Outer w gb n k rb
  ca : RowCells w n k F ra
  cb : RowCells w n k G rb
  ia : ∀ i j, i < n → j < n → i ≠ j → ra i ≠ ra j
  ib : ∀ i j, i < n → j < n → i ≠ j → rb i ≠ rb j
  ab : ∀ i j, i < n → j < n → ra i ≠ rb j
  gg : ga ≠ gb
  lo : ∀ i, i < n → s ≤ ra i ∧ s ≤ rb i
theorem heap_lt {w : World} {p : Nat} {o : Obj} (h : w.heap[p]? = some o) : p < w.heap.size := (Array.getElem?_eq_some_iff.1 h).1
theorem RowCells.keep {w w' : World} {n k : Nat} {F : Fn2} {r : Nat → Nat} (h : RowCells w n k F r) (hk : ∀ i, i < n → w'.heap[r i]? = w.heap[r i]?) : RowCells w' n k F r := fun i hi => by
  obtain ⟨cr, h1, h2⟩ := h i hi
  exact ⟨cr, (hk i hi).trans h1, h2⟩
theorem Outer.keep {w w' : World} {g n k : Nat} {r : Nat → Nat} (h : Outer w g n k r) (hk : w'.heap[g]? = w.heap[g]?) : Outer w' g n k r := by
  obtain ⟨co, h1, h2⟩ := h
  exact ⟨co, hk.trans h1, h2⟩
section
variable {s : Nat} {w w' : World} {ga gb n k : Nat} {F G : Fn2} {ra rb : Nat → Nat}
theorem Two.flip (h : Two s w ga gb n k F G ra rb) : Two s w gb ga n k G F rb ra := ⟨h.ob, h.oa, h.cb, h.ca, h.ib, h.ia, fun i j hi hj e => h.ab j i hj hi e.symm, h.gg.symm, fun i hi => ⟨(h.lo i hi).2, (h.lo i hi).1⟩⟩
theorem Two.below {B : Nat} (h : Two s w ga gb n k F G ra rb) (hb : Below B w w') (hB : w.heap.size ≤ B) : Two s w' ga gb n k F G ra rb := by
  have hl : ∀ p o, w.heap[p]? = some o → w'.heap[p]? = w.heap[p]? := fun p o hp => hb.block p (by have := heap_lt hp; omega)
  refine ⟨?_, ?_, ?_, ?_, h.ia, h.ib, h.ab, h.gg, h.lo⟩
  · obtain ⟨co, h1, _⟩ := h.oa
    exact h.oa.keep (hl _ _ h1)
  · obtain ⟨co, h1, _⟩ := h.ob
    exact h.ob.keep (hl _ _ h1)
  · exact h.ca.keep fun i hi => by obtain ⟨cr, h1, _⟩ := h.ca i hi; exact hl _ _ h1
  · exact h.cb.keep fun i hi => by obtain ⟨cr, h1, _⟩ := h.cb i hi; exact hl _ _ h1
theorem Two.row_ne (h : Two s w ga gb n k F G ra rb) {i : Nat} (hi : i < n) : ra i ≠ ga ∧ ra i ≠ gb := by
  obtain ⟨cr, h1, _⟩ := h.ca i hi
  obtain ⟨co, h2, _⟩ := h.oa
  obtain ⟨co', h3, _⟩ := h.ob
  refine ⟨fun e => ?_, fun e => ?_⟩
  · rw [e, h2] at h1
    injection h1 with e
    injection e with _ e _
    cases e
  · rw [e, h3] at h1
    injection h1 with e
    injection e with _ e _
    cases e
theorem Two.cell (h : Two s w ga gb n k F G ra rb) {i : Nat} (hi : i < n) : ∃ d, w.cell? ⟨ga, i, none⟩ = some (.slice (some ⟨ra i, 0, none⟩) k d) ∧ w.frozen? ⟨ga, i, none⟩ = false := by
  obtain ⟨co, h1, h2⟩ := h.oa
  obtain ⟨d, h3⟩ := h2 i hi
  exact ⟨d, by rw [cell_of_row _ ga i _ 31 (0, 0) h1]; exact h3, frozen_of_row _ ga i _ 31 h1⟩
theorem Two.elem (h : Two s w ga gb n k F G ra rb) {i j : Nat} (hi : i < n) (hj : j < k) : w.cell? ⟨ra i, j, none⟩ = some (.int .u8 ((F i j).toNat : Int)) ∧ w.frozen? ⟨ra i, j, none⟩ = false := by
  obtain ⟨cr, h1, h2⟩ := h.ca i hi
  exact ⟨by rw [cell_of_row _ _ j _ 5 (0, 0) h1]; exact h2 j hj, frozen_of_row _ _ j _ 5 h1⟩
theorem Two.rd (h : Two s w ga gb n k F G ra rb) {i : Nat} (hi : i < n) : Rd w (some ⟨ra i, 0, none⟩) k (rowL k (F i)) := by
  obtain ⟨cr, h1, h2⟩ := h.ca i hi
  refine ⟨rowL_len _ _, fun _ => ⟨⟨ra i, 0, none⟩, rfl, heap_lt h1, fun j c hj => ?_⟩⟩
  have hjk : j < k := by have := (List.getElem?_eq_some_iff.1 hj).1; rwa [rowL_len] at this
  rw [rowL_at _ hjk] at hj
  injection hj with hj
  subst hj
  rw [add_zero_off, cell_of_row _ _ j _ 5 (0, 0) h1]
  exact h2 j hjk
/-- an element is put anew -/
theorem Two.setElem (h : Two s w ga gb n k F G ra rb) {i j : Nat} (hi : i < n) (x : UInt8) : Two s (w.setCell ⟨ra i, j, none⟩ (BV x)) ga gb n k (fun a b => if a = i ∧ b = j then x else F a b) G ra rb := by
  have far : ∀ p, p ≠ ra i → (w.setCell ⟨ra i, j, none⟩ (BV x)).heap[p]? = w.heap[p]? := fun p hp => Below.heap_setCell _ _ _ _ hp
  have hr := h.row_ne hi
  refine ⟨h.oa.keep (far _ hr.1.symm), h.ob.keep (far _ hr.2.symm), fun a ha => ?_, h.cb.keep fun a ha => far _ (h.ab i a hi ha).symm, h.ia, h.ib, h.ab, h.gg, h.lo⟩
  obtain ⟨cr, h1, h2⟩ := h.ca a ha
  by_cases e : a = i
  · subst e
    refine ⟨cr.setIfInBounds j (BV x), heap_setCell_same _ _ _ _ _ _ h1, fun b hb => ?_⟩
    rw [Array.getElem?_setIfInBounds]
    by_cases hjb : j = b
    · subst hjb
      have := h2 j hb
      rw [if_pos rfl, if_pos (Array.getElem?_eq_some_iff.1 this).1, if_pos ⟨rfl, rfl⟩]
    · rw [if_neg hjb, if_neg (fun e => hjb e.2.symm)]
      exact h2 b hb
  · refine ⟨cr, (far _ (h.ia a i ha hi e)).trans h1, fun b hb => ?_⟩
    rw [if_neg (fun e2 => e e2.1)]
    exact h2 b hb
/-- two rows are changed about -/
theorem Two.swap (h : Two s w ga gb n k F G ra rb) {p q dp dq : Nat} (hp : p < n) (hq : q < n) : Two s ((w.setCell ⟨ga, p, none⟩ (.slice (some ⟨ra q, 0, none⟩) k dq)).setCell ⟨ga, q, none⟩ (.slice (some ⟨ra p, 0, none⟩) k dp)) ga gb n k (fun a => F (sw p q a)) G (fun a => ra (sw p q a)) rb := by
  have far : ∀ b, b ≠ ga → ((w.setCell ⟨ga, p, none⟩ (.slice (some ⟨ra q, 0, none⟩) k dq)).setCell ⟨ga, q, none⟩ (.slice (some ⟨ra p, 0, none⟩) k dp)).heap[b]? = w.heap[b]? := fun b hb => (Below.heap_setCell _ _ _ _ hb).trans (Below.heap_setCell _ _ _ _ hb)
  have hsw : ∀ a, a < n → sw p q a < n := fun a ha => sw_lt hp hq ha
  have hinj : ∀ a b, a ≠ b → sw p q a ≠ sw p q b := fun a b hab e => hab (by rw [← sw_sw p q a, e, sw_sw])
  refine ⟨?_, h.ob.keep (far _ h.gg.symm), fun a ha => ?_, h.cb.keep fun a ha => far _ ?_, fun i j hi hj hij => h.ia _ _ (hsw i hi) (hsw j hj) (hinj i j hij), h.ib, fun i j hi hj => h.ab _ _ (hsw i hi) hj, h.gg, fun i hi => ⟨(h.lo _ (hsw i hi)).1, (h.lo i hi).2⟩⟩
  · obtain ⟨co, h1, h2⟩ := h.oa
    refine ⟨_, heap_setCell_same _ _ q _ _ _ (heap_setCell_same w ga p co 31 _ h1), fun i hi => ?_⟩
    have hsz : ∀ i, i < n → i < co.size := fun i hi => by obtain ⟨d, h3⟩ := h2 i hi; exact (Array.getElem?_eq_some_iff.1 h3).1
    rw [Array.getElem?_setIfInBounds, Array.size_setIfInBounds, Array.getElem?_setIfInBounds]
    have := hsz i hi
    unfold sw
    show ∃ d, _ = some (Value.slice (some ⟨ra (if i = p then q else if i = q then p else i), 0, none⟩) k d)
    by_cases e1 : q = i
    · subst e1
      rw [if_pos rfl, if_pos this]
      by_cases e2 : q = p
      · rw [if_pos e2, e2]; exact ⟨dp, rfl⟩
      · rw [if_neg e2, if_pos rfl]; exact ⟨dp, rfl⟩
    · rw [if_neg e1]
      by_cases e2 : p = i
      · subst e2
        rw [if_pos rfl, if_pos this, if_pos rfl]
        exact ⟨dq, rfl⟩
      · rw [if_neg e2, if_neg (fun e => e2 e.symm), if_neg (fun e => e1 e.symm)]
        exact h2 i hi
  · obtain ⟨cr, h1, h2⟩ := h.ca _ (hsw a ha)
    exact ⟨cr, (far _ (h.row_ne (hsw a ha)).1).trans h1, h2⟩
  · exact fun e => (h.flip.row_ne ha).2 e
/-- a row is put anew: one that was just made -/
theorem Two.setRow (h : Two s w ga gb n k F G ra rb) (hs : s ≤ w.heap.size) (hk : 1 ≤ k) {w1 : World} (hb : Below w.heap.size w w1) {A : Option Addr} {d i : Nat} {f : Nat → UInt8} (ho : Own w1 w.heap.size 5 A k d (rowL k f)) :
    ∃ ra', Two s (w1.setCell ⟨ga, i, none⟩ (.slice A k d)) ga gb n k (fun a => if a = i then f else F a) G ra' rb := by
  obtain ⟨nb, cr, rfl, hcr, hnb, _⟩ := own_cells ho (by omega)
  have h1 := h.below hb (Nat.le_refl _)
  have far : ∀ b, b ≠ ga → (w1.setCell ⟨ga, i, none⟩ (.slice (some ⟨nb, 0, none⟩) k d)).heap[b]? = w1.heap[b]? := fun b hb => Below.heap_setCell _ _ _ _ hb
  have old : ∀ a, a < n → ra a < w.heap.size ∧ rb a < w.heap.size := fun a ha => by
    obtain ⟨c1, e1, _⟩ := h.ca a ha
    obtain ⟨c2, e2, _⟩ := h.cb a ha
    exact ⟨heap_lt e1, heap_lt e2⟩
  have hga : ga < w.heap.size := by obtain ⟨co, e, _⟩ := h.oa; exact heap_lt e
  refine ⟨fun a => if a = i then nb else ra a, ?_, h1.ob.keep (far _ h.gg.symm), fun a ha => ?_, h1.cb.keep fun a ha => far _ (h.flip.row_ne ha).2, fun a b ha hb hab => ?_, h.ib, fun a b ha hb => ?_, h.gg, fun a ha => ⟨?_, (h.lo a ha).2⟩⟩
  · obtain ⟨co, e1, e2⟩ := h1.oa
    refine ⟨_, heap_setCell_same w1 ga i co 31 _ e1, fun a ha => ?_⟩
    have hsz : a < co.size := by obtain ⟨d, h3⟩ := e2 a ha; exact (Array.getElem?_eq_some_iff.1 h3).1
    rw [Array.getElem?_setIfInBounds]
    show ∃ d', _ = some (Value.slice (some ⟨(if a = i then nb else ra a), 0, none⟩) k d')
    by_cases e : i = a
    · subst e
      rw [if_pos rfl, if_pos hsz, if_pos rfl]
      exact ⟨d, rfl⟩
    · rw [if_neg e, if_neg (fun x => e x.symm)]
      exact e2 a ha
  · show ∃ c : Array Value, (w1.setCell ⟨ga, i, none⟩ (.slice (some ⟨nb, 0, none⟩) k d)).heap[(if a = i then nb else ra a)]? = some (.cells c 5 (0, 0)) ∧ ∀ j, j < k → c[j]? = some (BV ((if a = i then f else F a) j))
    by_cases e : a = i
    · rw [if_pos e, if_pos e]
      refine ⟨cr, (far _ (by omega)).trans hcr, fun j hj => ?_⟩
      rcases ho.row.2 with ⟨hv, h0⟩ | ⟨g, cap, cur, hv, _, hg, _, _, _, h4⟩
      · omega
      · injection hv with hA _ _
        injection hA with hA
        injection hA with hA _ _
        subst hA
        rw [hcr] at hg
        injection hg with hg
        injection hg with hg _ _
        subst hg
        rw [Nat.mul_one] at h4
        have e3 : (bvs (rowL k f))[j]? = some (BV (f j)) := bvs_at' (rowL_at f hj)
        rw [← h4, List.getElem?_take, if_pos hj] at e3
        simpa using e3
    · rw [if_neg e, if_neg e]
      obtain ⟨c1, e1, e2⟩ := h1.ca a ha
      exact ⟨c1, (far _ (h.row_ne ha).1).trans e1, e2⟩
  · have o1 := old a ha
    have o2 := old b hb
    show (if a = i then nb else ra a) ≠ (if b = i then nb else ra b)
    split
    · rw [if_neg (by omega)]; omega
    · split
      · omega
      · exact h.ia a b ha hb hab
  · have o1 := old b hb
    show (if a = i then nb else ra a) ≠ rb b
    split
    · omega
    · exact h.ab a b ha hb
  · show s ≤ (if a = i then nb else ra a)
    split
    · omega
    · exact (h.lo a ha).1
end
end Go.Proofs.Ytobbjeephmfdeaa
