/- Lists of steps in memory; what a step leaves. -/
import Derived.Test.YtciihebaameccaaRndL
import Derived.Deep.Slices
import Derived.Deep.Fields
import Derived.Lib.SmallJoins
import Derived.OpenShut
namespace Go.Proofs.Ytciihebaameccaa
open Go.RowKit Go.Coop Go.ChangeShapes Go.WideShapes Go.Deep
set_option maxRecDepth 100000
def _root_.Go.Coop.OpR.cells (o : OpR) : List Value := [.int .i64 o.kd, .int .i64 o.ix, .int .u8 o.op, .int .i64 o.e]
/-- the slice at F of m elements reads as these steps -/
structure OpsAt (w : World) (F : Option Addr) (m : Nat) (os : List OpR) : Prop where
  len : os.length = m
  at_ : ∀ (i : Nat) (o : OpR), os[i]? = some o → ∃ ad, F = some ad ∧ ad.block < w.heap.size ∧ ∀ j v, o.cells[j]? = some v → w.cell? (ad.add (i * 4 + j)) = some v
theorem OpsAt.below {w w' : World} {F : Option Addr} {m : Nat} {os : List OpR} {B : Nat} (h : OpsAt w F m os) (hb : Below B w w') (hB : w.heap.size ≤ B) : OpsAt w' F m os :=
  ⟨h.len, fun i o hi => by
    obtain ⟨ad, h2, h3, h4⟩ := h.at_ i o hi
    exact ⟨ad, h2, Nat.lt_of_lt_of_le h3 hb.size, fun j v hj => (hb.cell (by rw [addr_add_block]; omega)).trans (h4 j v hj)⟩⟩
theorem addr_succ3 (a : Addr) (j : Nat) : a.add (j + 3) = ⟨(a.add j).block, (a.add j).off + 3, none⟩ := by
  rw [show j + 3 = (j + 2) + 1 from rfl, addr_succ, addr_succ2]
/-- the i-th step -/
theorem OpsAt.get {w : World} {F : Option Addr} {m : Nat} {os : List OpR} (h : OpsAt w F m os) {i : Nat} (hi : i < m) : ∃ o ad, os[i]? = some o ∧ F = some ad ∧ ad.block < w.heap.size ∧ w.cell? (ad.add (i * 4)) = some (.int .i64 o.kd) ∧ w.cell? ⟨(ad.add (i * 4)).block, (ad.add (i * 4)).off + 1, none⟩ = some (.int .i64 o.ix) ∧ w.cell? ⟨(ad.add (i * 4)).block, (ad.add (i * 4)).off + 2, none⟩ = some (.int .u8 o.op) ∧ w.cell? ⟨(ad.add (i * 4)).block, (ad.add (i * 4)).off + 3, none⟩ = some (.int .i64 o.e) := by
  have hl := h.len
  obtain ⟨o, ho⟩ : ∃ o, os[i]? = some o := ⟨_, List.getElem?_eq_getElem (by omega)⟩
  obtain ⟨ad, h2, h3, h4⟩ := h.at_ i o ho
  have c1 := h4 1 _ rfl
  have c2 := h4 2 _ rfl
  have c3 := h4 3 _ rfl
  rw [addr_succ] at c1
  rw [addr_succ2] at c2
  rw [addr_succ3] at c3
  exact ⟨o, ad, ho, h2, h3, h4 0 _ rfl, c1, c2, c3⟩
/-- the cells of a step stay -/
def StepAt (wr : World) (ad : Addr) (o : OpR) : Prop := ∀ v, Below wr.heap.size wr v → v.cell? ad = some (.int .i64 o.kd) ∧ v.cell? ⟨ad.block, ad.off + 1, none⟩ = some (.int .i64 o.ix) ∧ v.cell? ⟨ad.block, ad.off + 2, none⟩ = some (.int .u8 o.op) ∧ v.cell? ⟨ad.block, ad.off + 3, none⟩ = some (.int .i64 o.e)
theorem StepAt.below {wr wc : World} {ad : Addr} {o : OpR} (h : StepAt wr ad o) (hb : Below wr.heap.size wr wc) : StepAt wc ad o := fun v hv => h v (hb.trans (hv.mono hb.size))
theorem OpsAt.step {w : World} {F : Option Addr} {m : Nat} {os : List OpR} (h : OpsAt w F m os) {i : Nat} (hi : i < m) : ∃ o ad, os[i]? = some o ∧ F = some ad ∧ StepAt w (ad.add (i * 4)) o := by
  obtain ⟨o, ad, h1, h2, h3, c0, c1, c2, c3⟩ := h.get hi
  refine ⟨o, ad, h1, h2, fun v hv => ?_⟩
  exact ⟨(hv.cell (block_lt_of_cell c0)).trans c0, (hv.cell (block_lt_of_cell c1)).trans c1, (hv.cell (block_lt_of_cell c2)).trans c2, (hv.cell (block_lt_of_cell c3)).trans c3⟩
/-- what 'next, e := does(r, o)' leaves: a box with the next round -/
structure DCut (wr wc : World) (b : Nat) (Q : Rn) (A : Option Addr) (n c : Nat) : Prop where
  le : wr.heap.size ≤ b
  row : wc.heap[b]? = some (.cells #[.int .i64 Q.s, .int .i64 Q.v, .int .i64 Q.need, .int .i64 Q.ph, .slice A n c] 26 (0, 0))
  rd : RdV wc A n (Q.ms.map IV)
  fresh : ∀ j, A.map (·.block) = some j → wr.heap.size ≤ j ∧ j ≠ b
  bel : Below wr.heap.size wr wc
/-- a box is filled -/
theorem fill5 {v : World} {b : Nat} {Q : Rn} {A : Option Addr} {n c : Nat} {wr : World} (hx : v.heap[b]? = some (.cells #[.int .i64 0, .int .i64 0, .int .i64 0, .int .i64 0, .slice none 0 0] 26 (0, 0))) (hr : RdV v A n (Q.ms.map IV)) (hA : ∀ j, A.map (·.block) = some j → wr.heap.size ≤ j ∧ j ≠ b) (hb : Below wr.heap.size wr v) (hle : wr.heap.size ≤ b) :
    DCut wr (((((v.setCell ⟨b, 0, none⟩ (.int .i64 Q.s)).setCell ⟨b, 1, none⟩ (.int .i64 Q.v)).setCell ⟨b, 2, none⟩ (.int .i64 Q.need)).setCell ⟨b, 3, none⟩ (.int .i64 Q.ph)).setCell ⟨b, 4, none⟩ (.slice A n c)) b Q A n c := by
  have hb3 : But [b] v (((((v.setCell ⟨b, 0, none⟩ (.int .i64 Q.s)).setCell ⟨b, 1, none⟩ (.int .i64 Q.v)).setCell ⟨b, 2, none⟩ (.int .i64 Q.need)).setCell ⟨b, 3, none⟩ (.int .i64 Q.ph)).setCell ⟨b, 4, none⟩ (.slice A n c)) :=
    (((((But.refl _ _).setCell (by simp) _).setCell (by simp) _).setCell (by simp) _).setCell (by simp) _).setCell (by simp) _
  exact ⟨hle, row5 hx, hr.but hb3 (fun j hj hm => (hA j hj).2 (by simpa using hm)), hA, hb.trans (hb3.below (B := wr.heap.size) hb.size (by intro g hg; simp at hg; omega))⟩
/-- the round's box of a law's loop -/
structure LR (w wr : World) (b : Nat) (r : Rn) (A : Option Addr) (n c : Nat) : Prop where
  row : wr.heap[b]? = some (.cells #[.int .i64 r.s, .int .i64 r.v, .int .i64 r.need, .int .i64 r.ph, .slice A n c] 26 (0, 0))
  rd : RdV wr A n (r.ms.map IV)
  right : RightR r
  len : r.ms.length = n
  bel : Below w.heap.size w wr
  le : w.heap.size ≤ b
theorem LR.below {w wr wc : World} {b : Nat} {r : Rn} {A : Option Addr} {n c : Nat} (h : LR w wr b r A n c) (hb : Below wr.heap.size wr wc) : LR w wc b r A n c :=
  ⟨(hb.block _ (lt_of_block h.row)).trans h.row, h.rd.below hb (Nat.le_refl _), h.right, h.len, h.bel.trans (hb.mono h.bel.size), h.le⟩
/-- the box is written over -/
theorem LR.set {w wr wc : World} {b : Nat} {r Q : Rn} {A A2 : Option Addr} {n c c2 : Nat} (h : LR w wr b r A n c) (hb : Below wr.heap.size wr wc) (hr : RdV wc A2 n (Q.ms.map IV)) (hA : ∀ j, A2.map (·.block) = some j → j ≠ b) (hR : RightR Q) (hl : Q.ms.length = n) :
    LR w (((((wc.setCell ⟨b, 0, none⟩ (.int .i64 Q.s)).setCell ⟨b, 1, none⟩ (.int .i64 Q.v)).setCell ⟨b, 2, none⟩ (.int .i64 Q.need)).setCell ⟨b, 3, none⟩ (.int .i64 Q.ph)).setCell ⟨b, 4, none⟩ (.slice A2 n c2)) b Q A2 n c2 ∧
    But [b] wc (((((wc.setCell ⟨b, 0, none⟩ (.int .i64 Q.s)).setCell ⟨b, 1, none⟩ (.int .i64 Q.v)).setCell ⟨b, 2, none⟩ (.int .i64 Q.need)).setCell ⟨b, 3, none⟩ (.int .i64 Q.ph)).setCell ⟨b, 4, none⟩ (.slice A2 n c2)) := by
  have hb3 : But [b] wc (((((wc.setCell ⟨b, 0, none⟩ (.int .i64 Q.s)).setCell ⟨b, 1, none⟩ (.int .i64 Q.v)).setCell ⟨b, 2, none⟩ (.int .i64 Q.need)).setCell ⟨b, 3, none⟩ (.int .i64 Q.ph)).setCell ⟨b, 4, none⟩ (.slice A2 n c2)) :=
    (((((But.refl _ _).setCell (by simp) _).setCell (by simp) _).setCell (by simp) _).setCell (by simp) _).setCell (by simp) _
  have hc := h.below hb
  exact ⟨⟨row5 hc.row, hr.but hb3 (fun j hj hm => hA j hj (by simpa using hm)), hR, hl, hc.bel.trans (hb3.below (B := w.heap.size) hc.bel.size (by intro g hg; simp at hg; have := h.le; omega)), h.le⟩, hb3⟩
end Go.Proofs.Ytciihebaameccaa
