/- marked: the words. -/
import Derived.Test.YtciihebaameccaaRndE
namespace Go.Proofs.Ytciihebaameccaa
open Go.RowKit Go.Coop
set_option maxRecDepth 100000
/-- a round is told -/
def OneM (w : World) (r : Rn) (e : Ending) (w' : World) : Prop := ∃ A c, e = .returned (RVal r A r.ms.length c) ∧ RdV w' A r.ms.length (r.ms.map IV) ∧ (∀ j, A.map (·.block) = some j → w.heap.size ≤ j) ∧ Below w.heap.size w w'
/-- the phase by the counts -/
def phaseN (n need ph c1 c2 c3 c4 : Int) : Int :=
  if ph = 1 ∧ need ≤ c1 then 2 else if ph = 1 ∧ n - need < c3 then 5 else if ph = 2 ∧ c1 < need then 1 else if ph = 3 ∧ c2 = n then 4 else if ph = 5 ∧ c4 = n then 6 else ph
/-- the end of marked: the box is told by the box of the result -/
theorem marked_end {w5 W W2 : World} {b b2 : Nat} {s v need ph : Int} {A3 : Option Addr} {n c3 : Nat} {L : List Int} (hr : RdV W A3 n (L.map IV)) (h52 : Below w5.heap.size w5 W)
    (hx : w5.heap[b2]? = some (.cells #[.int .i64 0, .int .i64 0, .int .i64 0, .int .i64 0, .slice none 0 0] 26 (0, 0))) (hA : ∀ j, A3.map (·.block) = some j → j ≠ b ∧ j ≠ b2) (hbt : But [b] W W2) (hbb : b2 ≠ b) :
    ∃ _ : (((((W2.setCell ⟨b2, 0, none⟩ (.int .i64 s)).setCell ⟨b2, 1, none⟩ (.int .i64 v)).setCell ⟨b2, 2, none⟩ (.int .i64 need)).setCell ⟨b2, 3, none⟩ (.int .i64 ph)).setCell ⟨b2, 4, none⟩ (.slice A3 n c3)).heap[b2]? = some (.cells #[.int .i64 s, .int .i64 v, .int .i64 need, .int .i64 ph, .slice A3 n c3] 26 (0, 0)),
      RdV (((((W2.setCell ⟨b2, 0, none⟩ (.int .i64 s)).setCell ⟨b2, 1, none⟩ (.int .i64 v)).setCell ⟨b2, 2, none⟩ (.int .i64 need)).setCell ⟨b2, 3, none⟩ (.int .i64 ph)).setCell ⟨b2, 4, none⟩ (.slice A3 n c3)) A3 n (L.map IV) ∧
      But [b, b2] W (((((W2.setCell ⟨b2, 0, none⟩ (.int .i64 s)).setCell ⟨b2, 1, none⟩ (.int .i64 v)).setCell ⟨b2, 2, none⟩ (.int .i64 need)).setCell ⟨b2, 3, none⟩ (.int .i64 ph)).setCell ⟨b2, 4, none⟩ (.slice A3 n c3)) := by
  have hxW := (h52.block _ (lt_of_block hx)).trans hx
  have hx2 := hbt.cells hxW (by simpa using hbb)
  have hb3 : But [b, b2] W (((((W2.setCell ⟨b2, 0, none⟩ (.int .i64 s)).setCell ⟨b2, 1, none⟩ (.int .i64 v)).setCell ⟨b2, 2, none⟩ (.int .i64 need)).setCell ⟨b2, 3, none⟩ (.int .i64 ph)).setCell ⟨b2, 4, none⟩ (.slice A3 n c3)) :=
    (((((hbt.mono (by simp)).setCell (by simp) _).setCell (by simp) _).setCell (by simp) _).setCell (by simp) _).setCell (by simp) _
  refine ⟨row5 hx2, hr.but hb3 fun j hj hm => ?_, hb3⟩
  have := hA j hj
  simp at hm
  omega
theorem _root_.Go.Coop.OwnV.set {w : World} {base E : Nat} {A : Option Addr} {n c : Nat} {l : List Value} (h : OwnV w base E A n c l) {g k : Nat} (hA : A = some ⟨g, 0, none⟩) (x : Value) : OwnV (w.setCell ⟨g, k, none⟩ x) base E A n c (l.set k x) := by
  subst hA
  refine ⟨by rw [List.length_set]; exact h.len, ?_⟩
  refine ⟨by simp [h.len], ?_⟩
  rcases h.row.2 with ⟨hv, h0⟩ | ⟨g', cap, cur, hv, hb, hg, hc1, hc2, hc3, hc4⟩
  · cases hv
  · injection hv with a b c'
    injection a with a
    injection a with a _ _
    subst a c'
    refine .inr ⟨g, c, cur.setIfInBounds k x, rfl, hb, ?_, hc1, hc2, by simpa using hc3, ?_⟩
    · rw [heap_setCell_same w g k cur E x hg]
    · simp only [Array.toList_setIfInBounds, Nat.mul_one] at hc4 ⊢
      rw [List.take_set, hc4]
end Go.Proofs.Ytciihebaameccaa
