/- The program's clock beside the document's: where the law ClockPlays stands. -/
import Derived.Test.YtncjbohpaanpaaaRefB
import Derived.Test.YtncjbohpaanpaaaLawOn
namespace Go.Proofs.Ytncjbohpaanpaaa
open Go.RowKit Go.Coop Go.Maps
set_option maxRecDepth 100000
/-- the law's clock stands at S1, the reference's at S2 -/
structure TM (w0 w : World) (g c b7 : Nat) (a : Option Nat) (A : Option Addr) (n cc : Nat) (S1 S2 : CS) : Prop where
  ck : Ck w w0.heap.size g c a S1
  ls : Ls w a (.slice A n cc) S2.L
  ok : S2.Ok
  row : w.heap[b7]? = some (.cells (B42 S2.now (S2.most : Int) A n cc) 42 (0, 0))
  bel : Below w0.heap.size w0 w
  lo : w0.heap.size ≤ b7
section
variable {w0 w w' : World} {g c b7 n cc : Nat} {a a' : Option Nat} {A : Option Addr} {S1 S2 S' : CS}
theorem rowb {o : Obj} {k : Nat} (hb : Below w.heap.size w w') (h : w.heap[k]? = some o) : w'.heap[k]? = some o := (hb.block _ (Array.getElem?_eq_some_iff.1 h).1).trans h
theorem TM.below (h : TM w0 w g c b7 a A n cc S1 S2) (hb : Below w.heap.size w w') : TM w0 w' g c b7 a A n cc S1 S2 :=
  ⟨h.ck.below hb, h.ls.below hb, h.ok, rowb hb h.row, h.bel.trans (hb.mono h.bel.size), h.lo⟩
theorem TM.prog (h : TM w0 w g c b7 a A n cc S1 S2) (hc : Ck w' w0.heap.size g c a' S') (hb : Below w0.heap.size w w') (hk : Kp g c a a' w w') : TM w0 w' g c b7 a' A n cc S' S2 :=
  ⟨hc, h.ls.kp hk, h.ok, hk.cells _ _ _ _ h.row (by decide) (by decide), h.bel.trans hb, h.lo⟩
theorem TM.tl (h : TM w0 w g c b7 a A n cc S1 S2) : Tl w 0 A n cc S2.L ∧ S2.L.length = n := by
  obtain ⟨A', c', e, h1, _⟩ := h.ls
  injection e with e1 e2 e3
  subst e1 e3
  rw [← e2] at h1
  exact ⟨h1, e2.symm⟩
theorem TM.apart (h : TM w0 w g c b7 a A n cc S1 S2) : ∀ k, A.map (·.block) = some k → a ≠ some k := by
  obtain ⟨A', c', e, _, h2⟩ := h.ls
  injection e with e1 _ _
  subst e1
  exact h2
/-- a box that is no row of timers and no clock is written -/
theorem Ck.but1 {B b : Nat} {cs : Array Value} {T : TypeId} {fr : Nat × Nat} (h : Ck w B g c a S1) (hb : w.heap[b]? = some (.cells cs T fr)) (h1 : T ≠ 57) (h2 : T ≠ 36) (hbt : But [b] w w') : Ck w' B g c a S1 := by
  obtain ⟨h0, A, cap, hA, hN⟩ := h
  exact ⟨Nat.le_trans h0 hbt.size, A, cap, hA, hN.but hbt fun k hk hm => by
    simp at hm
    subst hm
    exact hN.nbT hb (.inl h1) (.inl h2) hk⟩
theorem tl_but1 {B b n cc : Nat} {A : Option Addr} {l : List Tm} {cs : Array Value} {T : TypeId} {fr : Nat × Nat} (h : Tl w B A n cc l) (hb : w.heap[b]? = some (.cells cs T fr)) (h2 : T ≠ 36) (hbt : But [b] w w') : Tl w' B A n cc l :=
  h.but hbt fun j hj hm => by
    simp at hm
    subst hm
    obtain ⟨cur, hc⟩ := h.typ hj
    have := hb.symm.trans hc
    injection this with e
    injection e with _ e _
    exact h2 e
theorem Ls.mk' (h : Tl w 0 A n cc S'.L) (ha : ∀ k, A.map (·.block) = some k → a ≠ some k) : Ls w a (.slice A n cc) S'.L := by
  have hln : S'.L.length = n := by have := h.len; rw [tvs_len] at this; omega
  exact ⟨A, cc, by rw [hln], by rw [hln]; exact h, ha⟩
/-- the reference's box is written -/
theorem TM.book {n' cc' : Nat} {X : Option Addr} (h : TM w0 w g c b7 a A n cc S1 S2) (hok : S'.Ok) (hr : Tl w 0 X n' cc' S'.L) (hX : ∀ k, X.map (·.block) = some k → a ≠ some k) (hw : ((w.setCell ⟨b7, 0, none⟩ (.int .i64 S'.now)).setCell ⟨b7, 1, none⟩ (.int .i64 (S'.most : Int))).setCell ⟨b7, 2, none⟩ (.slice X n' cc') = w') :
    TM w0 w' g c b7 a X n' cc' S1 S' ∧ But [b7] w w' := by
  have hbt : But [b7] w w' := hw ▸ (((But.refl [b7] w).setCell (p := ⟨b7, 0, none⟩) (by simp) _).setCell (p := ⟨b7, 1, none⟩) (by simp) _).setCell (p := ⟨b7, 2, none⟩) (by simp) _
  exact ⟨⟨h.ck.but1 h.row (by decide) (by decide) hbt, Ls.mk' (tl_but1 hr h.row (by decide) hbt) hX, hok, hw ▸ row3 h.row, h.bel.trans (hbt.below h.bel.size (by simpa using h.lo)), h.lo⟩, hbt⟩
/-- what the reference made is apart from the program's row -/
theorem TM.apart_of {X : Option Addr} (h : TM w0 w g c b7 a A n cc S1 S2) (hX : X.map (·.block) = A.map (·.block) ∨ ∀ j, X.map (·.block) = some j → w.heap.size ≤ j) : ∀ k, X.map (·.block) = some k → a ≠ some k := by
  intro k hk he
  rcases hX with e | e
  · exact h.apart k (e ▸ hk) he
  · have := e k hk
    have := h.ck.a_lt k he
    omega
end
/-- behind the call that both have made: the answers, the lists that were told -/
structure TC (w0 w : World) (g c b7 bx : Nat) (a : Option Nat) (A : Option Addr) (n cc : Nat) (S : CS) (o : OpV) (e : Int) (P : Option Addr) (np cp : Nat) (Q : Option Addr) (cq : Nat) (l : List Tm) : Prop where
  tm : TM w0 w g c b7 a A n cc S S
  rx : w.heap[bx]? = some (.cells #[.int .i64 o.kd, .int .i64 o.id, .int .i64 o.dt] 46 (0, 0))
  lp : Tl w 0 P np cp l
  lq : Tl w 0 Q np cq l
  lb : np ≤ 65536
def TCut (w0 w : World) (g c b7 bx : Nat) (o : OpV) (v11 v12 v13 v14 v15 v16 : Value) : Prop :=
  ∃ a A n cc S e P np cp Q cq l q, v11 = .int .i64 e ∧ v12 = .int .i64 e ∧ v13 = .slice P np cp ∧ v14 = .slice Q np cq ∧ v15 = .bool q ∧ v16 = .bool q ∧ TC w0 w g c b7 bx a A n cc S o e P np cp Q cq l
end Go.Proofs.Ytncjbohpaanpaaa
