/- Where an Id stands; what the last comparisons of ClockPlays load. -/
import Derived.Test.YtncjbohpaanpaaaPlaP
namespace Go.Proofs.Ytncjbohpaanpaaa
open Go.RowKit Go.Coop Go.Maps
set_option maxRecDepth 100000
theorem idxN_lt_of_mem {i : Int} : ∀ {L : List Tm}, (∃ t ∈ L, t.id = i) → idxN i L < L.length
  | [], h => by simp at h
  | a :: l, h => by
    unfold idxN
    split
    · simp
    · rename_i hne
      obtain ⟨t, ht, hi⟩ := h
      have : idxN i l < l.length := idxN_lt_of_mem ⟨t, by
        rcases List.mem_cons.1 ht with rfl | ht
        · exact absurd hi hne
        · exact ht, hi⟩
      simp
      omega
theorem find_where {S : CS} (hok : S.Ok) (i : Int) : (S.find i = none ∧ idxL i S.L = -1) ∨ ∃ (p : Nat) (t : Tm), S.find i = some t.due ∧ idxL i S.L = (p : Int) ∧ S.L[p]? = some t := by
  cases hf : S.find i with
  | none =>
    refine .inl ⟨rfl, ?_⟩
    have := idxN_none (findD_none.1 hf)
    unfold idxL
    rw [this, if_neg (by omega)]
  | some d =>
    have hlt : idxN i S.L < S.L.length := idxN_lt_of_mem ⟨_, findD_some hf, rfl⟩
    obtain ⟨t, ht, hti⟩ := idxN_some hlt
    refine .inr ⟨idxN i S.L, t, ?_, by unfold idxL; rw [if_pos hlt], ht⟩
    have := findD_mem hok.nod (List.mem_of_getElem? ht)
    rw [hti] at this
    exact hf.symm.trans this
theorem cellB {w u : World} {p : Addr} {v : Value} (h : Below w.heap.size w u) (k : w.cell? p = some v) : u.cell? p = some v := (h.cell (block_lt_of_cell k)).trans k
/-- all that stands while the last comparisons are made -/
structure RC (w0 w7 w : World) (g c b7 : Nat) (a : Option Nat) (A : Option Addr) (n cc : Nat) (S : CS) (P : Option Addr) (np cp : Nat) (Q : Option Addr) (cq : Nat) (l : List Tm) : Prop where
  tm : TM w0 w g c b7 a A n cc S S
  lp : Tl w 0 P np cp l
  lq : Tl w 0 Q np cq l
  b7 : Below w7.heap.size w7 w
theorem RC.below {w0 w7 w w' : World} {g c b7 : Nat} {a : Option Nat} {A : Option Addr} {n cc : Nat} {S : CS} {P : Option Addr} {np cp : Nat} {Q : Option Addr} {cq : Nat} {l : List Tm} (h : RC w0 w7 w g c b7 a A n cc S P np cp Q cq l) (hb : Below w.heap.size w w') : RC w0 w7 w' g c b7 a A n cc S P np cp Q cq l :=
  ⟨h.tm.below hb, h.lp.below hb, h.lq.below hb, h.b7.trans (hb.mono h.b7.size)⟩
theorem neq36_self (W : World) (t : Tm) : (binOp .neq 36 (TV t) (TV t)).run Try.prog W = .ok (.bool false) W := by
  rw [neq36, tmB_iff.2 rfl]
  rfl
/-- the marks of a region's operations, written out -/
theorem wpAnyH_flat {P : Program} {md : Region.Mode} {ops : Array Oper} {Q : Exit → Act → World → Prop} {S : World → Prop} {fuel fuel' : Nat} {listed listed' : Array Bool} {a : Act} {w : World} (hf : fuel = fuel') (hl : listed = listed') (h : wpAnyH P md ops Q S fuel' listed' a w) : wpAnyH P md ops Q S fuel listed a w := by
  subst hf hl
  exact h
end Go.Proofs.Ytncjbohpaanpaaa
