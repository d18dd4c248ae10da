/- Words for memory, for slices of one-cell values of any kind: a slice that reads as values, a row of the call's own, an append of one onto the other. Nothing here speaks of one program. -/
import Derived.Test.YtkkpfehgobanbaaWords
namespace Go.Coop
open Go.RowKit
set_option maxRecDepth 100000

/-- The slice at A of n elements reads, in w, as the values vs, one cell each. -/
structure RdV (w : World) (A : Option Addr) (n : Nat) (vs : List Value) : Prop where
  len : vs.length = n
  cells : 0 < n → ∃ ad, A = some ad ∧ ad.block < w.heap.size ∧ ∀ j v, vs[j]? = some v → w.cell? (ad.add j) = some v
/-- The same as a row among the blocks from base on. -/
structure OwnV (w : World) (base E : Nat) (A : Option Addr) (n c : Nat) (vs : List Value) : Prop where
  len : vs.length = n
  row : w.ownsRow base E 1 (.slice A n c) n vs

section
variable {w w' : World} {A : Option Addr} {n : Nat} {vs : List Value}
theorem RdV.nil (w : World) (A : Option Addr) : RdV w A 0 [] := ⟨rfl, fun h => absurd h (by omega)⟩
theorem RdV.keep (h : RdV w A n vs) (hs : w.heap.size ≤ w'.heap.size) (hk : ∀ p : Addr, p.block < w.heap.size → w'.cell? p = w.cell? p) : RdV w' A n vs :=
  ⟨h.len, fun hn => by
    obtain ⟨ad, e, hb, hc⟩ := h.cells hn
    exact ⟨ad, e, by omega, fun j c hj => (hk _ (by rw [addr_add_block]; exact hb)).trans (hc j c hj)⟩⟩
theorem RdV.below {B : Nat} (h : RdV w A n vs) (hb : Below B w w') (hB : w.heap.size ≤ B) : RdV w' A n vs := h.keep hb.size fun _ hp => hb.cell (by omega)
theorem RdV.drew (h : RdV w A n vs) : RdV w.drew A n vs := ⟨h.len, h.cells⟩
theorem RdV.drewN (h : RdV w A n vs) (k : Nat) : RdV (w.drewN k) A n vs := ⟨h.len, h.cells⟩
theorem RdV.alloc (h : RdV w A n vs) (o : Obj) : RdV (w.alloc o) A n vs := h.below ((Below.refl w.heap.size w).alloc (Nat.le_refl _) o) (Nat.le_refl _)
theorem RdV.at_ {k : Nat} (h : RdV w A n vs) (hk : k < n) : ∃ ad v, A = some ad ∧ ad.block < w.heap.size ∧ vs[k]? = some v ∧ w.cell? (ad.add k) = some v := by
  obtain ⟨ad, e, hb, hc⟩ := h.cells (by omega)
  have hl : k < vs.length := by have := h.len; omega
  exact ⟨ad, vs[k], e, hb, List.getElem?_eq_getElem hl, hc k _ (List.getElem?_eq_getElem hl)⟩
theorem RdV.take {k : Nat} (h : RdV w A n vs) (hk : k ≤ n) : RdV w A k (vs.take k) :=
  ⟨by have := h.len; simp; omega, fun h0 => by
    obtain ⟨ad, e, hb, hc⟩ := h.cells (by omega)
    refine ⟨ad, e, hb, fun j c hj => hc j c ?_⟩
    rw [List.getElem?_take] at hj
    split at hj
    · exact hj
    · cases hj⟩
/-- a block that was just made -/
theorem RdV.new (w : World) (vs : List Value) (E : TypeId) (fr : Nat × Nat) : RdV (w.alloc (.cells vs.toArray E fr)) (some ⟨w.heap.size, 0, none⟩) vs.length vs :=
  ⟨rfl, fun _ => ⟨_, rfl, by simp, fun j c hj => by
    have hadd : (⟨w.heap.size, 0, none⟩ : Addr).add j = ⟨w.heap.size, j, none⟩ := by unfold Addr.add; split <;> simp_all
    rw [hadd, cell_of_row _ w.heap.size j _ E fr (heap_alloc_new w _)]
    simpa using hj⟩⟩
theorem RdV.one (w : World) (v : Value) (E : TypeId) (fr : Nat × Nat) : RdV (w.alloc (.cells #[v] E fr)) (some ⟨w.heap.size, 0, none⟩) 1 [v] := RdV.new w [v] E fr

theorem OwnV.rd {base E c : Nat} (h : OwnV w base E A n c vs) : RdV w A n vs :=
  ⟨h.len, fun hn => by
    rcases h.row.2 with ⟨hv, h0⟩ | ⟨g, cap, cur, hv, hb, hg, _⟩
    · omega
    · injection hv with hA _ _
      subst hA
      exact ⟨_, rfl, (Array.getElem?_eq_some_iff.1 hg).1, fun j c hj => h.row.cells (g := g) rfl j _ hj⟩⟩
theorem OwnV.nil (w : World) (base E : Nat) : OwnV w base E none 0 0 [] := ⟨rfl, World.ownsRow_nil w base E 1⟩
theorem OwnV.block {base E c : Nat} (h : OwnV w base E A n c vs) : ∀ k, A.map (·.block) = some k → base ≤ k ∧ k < w.heap.size := by
  intro k hk
  refine h.row.lt k ?_
  cases A with
  | none => cases hk
  | some a => simpa [Value.ownBlock] using hk
theorem OwnV.cap {base E c : Nat} (h : OwnV w base E A n c vs) : n ≤ c := by
  rcases h.row.2 with ⟨hv, h0⟩ | ⟨g, cap, cur, hv, _, _, hc, _⟩
  · omega
  · injection hv with _ _ h3; omega
theorem OwnV.kept {base E c : Nat} {row : Option Nat} (h : OwnV w base E A n c vs) (hg : w.grownBy w' row) (hne : A.map (·.block) = none ∨ A.map (·.block) ≠ row) : OwnV w' base E A n c vs :=
  ⟨h.len, h.row.kept hg (by cases A with
    | none => exact .inl rfl
    | some a => rcases hne with e | e
                · cases e
                · exact .inr (by simpa [Value.ownBlock] using e))⟩
theorem OwnV.below {base E c B : Nat} (h : OwnV w base E A n c vs) (hb : Below B w w') (hB : w.heap.size ≤ B) : OwnV w' base E A n c vs :=
  h.kept (row := none) ⟨hb.os, hb.tape, hb.output, hb.size, fun k hk _ => hb.block k (by omega)⟩ (by cases A <;> simp)
theorem OwnV.drew {base E c : Nat} (h : OwnV w base E A n c vs) : OwnV w.drew base E A n c vs := ⟨h.len, h.row⟩
theorem OwnV.drewN {base E c : Nat} (h : OwnV w base E A n c vs) (k : Nat) : OwnV (w.drewN k) base E A n c vs := ⟨h.len, h.row⟩
theorem OwnV.alloc {base E c : Nat} (h : OwnV w base E A n c vs) (o : Obj) : OwnV (w.alloc o) base E A n c vs := ⟨h.len, h.row.alloc o⟩
end

section
variable {P : Program} (w : World)
theorem run_appV (base : Nat) (t ty E : TypeId) (z : Value) (bytes : Nat) (ht : P.underlying t = some (.slice E)) (hi : (P.info? E).map (fun i => (i.zero, i.size, i.bytes)) = some (some z, 1, bytes)) (hz1 : z.cells.size = 1)
    {A : Option Addr} {n c : Nat} {vs : List Value} (hown : OwnV w base E A n c vs) {B : Option Addr} {m : Nat} {us : List Value} (d : Nat) (hr : RdV w B m us) (h1 : ∀ u ∈ us, u.oneCell' = true) (hsz : (n + m) * bytes ≤ 140737488355328) (hmax : n + m ≤ 140737488355328) (hbase : base ≤ w.heap.size) (N : Nat) (hN : N = n + m) :
    ∃ A' c' w', (Builtin.append_ #[t, t] ty #[.slice A n c, .slice B m d]).run P w = .ok (.slice A' N c') w' ∧ OwnV w' base E A' N c' (vs ++ us) ∧ w.grownBy w' (A.map (·.block)) ∧
      (A'.map (·.block) = A.map (·.block) ∨ A'.map (·.block) = some w.heap.size) := by
  subst hN
  obtain ⟨i, hi, hz, hs1, hs2⟩ := info_parts hi
  have ob : ∀ (X : Option Addr) (p q : Nat), (Value.slice X p q).ownBlock = X.map (·.block) := by intro X p q; cases X <;> rfl
  rcases B with _ | ad
  · have hm : m = 0 := by
      rcases Nat.eq_zero_or_pos m with h0 | h0
      · exact h0
      · obtain ⟨ad, h, _⟩ := hr.cells h0
        cases h
    subst hm
    have hk : us = [] := List.eq_nil_of_length_eq_zero hr.len
    subst hk
    refine ⟨A, c, w, ?_, by simpa using hown, World.grownBy.refl w _, .inl rfl⟩
    rcases hown.row.2 with ⟨hv, rfl⟩ | ⟨g, cap, cur, hv, _, _, hnc, _⟩
    · rw [hv]; simp [Builtin.append_, run_underlying ht, sizeOf, typeInfo, hi, Builtin.lenOf, Builtin.firstCells]
    · injection hv with a b c
      subst a c
      simp [Builtin.append_, run_underlying ht, sizeOf, typeInfo, hi, Builtin.lenOf, Builtin.firstCells, hnc, storeCells]
  · have hcells : ∀ j u, us[j]? = some u → w.cell? (ad.add j) = some u := by
      intro j u hu
      rcases Nat.eq_zero_or_pos m with h0 | h0
      · subst h0
        have hk : us = [] := List.eq_nil_of_length_eq_zero hr.len
        subst hk
        simp at hu
      · obtain ⟨ad', h, _, hc⟩ := hr.cells h0
        injection h with h
        subst h
        exact hc j u hu
    obtain ⟨v', w', hrun, h2', h3, _, h5⟩ := run_append_own_at (P := P) w base t ty E i z 1 bytes ht hi hz hs1 hs2 hz1 (by omega) (.slice A n c) n vs hown.row ad m d us (by rw [hr.len]; omega) hcells h1 (by simp only [maxLen]; omega) hsz hbase
    obtain ⟨A', c', rfl⟩ : ∃ A' c', v' = .slice A' (n + m) c' := by
      rcases h2'.2 with ⟨rfl, h0⟩ | ⟨g, cap, cur, rfl, _⟩
      · exact ⟨none, 0, by rw [h0]⟩
      · exact ⟨_, _, rfl⟩
    refine ⟨A', c', w', hrun, ⟨by rw [List.length_append, hown.len, hr.len], h2'⟩, ?_, ?_⟩
    · rwa [ob] at h3
    · rwa [ob, ob] at h5

theorem wp_appV {o : Oper} {a : Act} {K : Act → World → Prop} {Q : Exit → Act → World → Prop} (s x : Operand) (t : TypeId)
    (ho : o.op = .call { callee := .builtin .append, args := #[s, x], argTypes := #[t, t] })
    (base : Nat) (E : TypeId) (z : Value) (bytes : Nat) (ht : P.underlying t = some (.slice E)) (hi : (P.info? E).map (fun i => (i.zero, i.size, i.bytes)) = some (some z, 1, bytes)) (hz1 : z.cells.size = 1)
    {A : Option Addr} {n c : Nat} {vs : List Value} (hs : a.eval s = .slice A n c) (hown : OwnV w base E A n c vs) {B : Option Addr} {m d : Nat} {us : List Value} (hx : a.eval x = .slice B m d) (hr : RdV w B m us) (h1 : ∀ u ∈ us, u.oneCell' = true)
    (hsz : (n + m) * bytes ≤ 140737488355328) (hmax : n + m ≤ 140737488355328) (hbase : base ≤ w.heap.size) (N : Nat) (hN : N = n + m)
    (h : ∀ A' c' w', OwnV w' base E A' N c' (vs ++ us) → w.grownBy w' (A.map (·.block)) → (A'.map (·.block) = A.map (·.block) ∨ A'.map (·.block) = some w.heap.size) → K (a.put o.dst (.slice A' N c')) w') : o.wp P a w K Q := by
  obtain ⟨A', c', w', hrun, h2, h3, h4⟩ := run_appV (P := P) w base t o.type E z bytes ht hi hz1 hown d hr h1 hsz hmax hbase N hN
  unfold Oper.wp execOp
  simp only [ho, resolve, invoke, builtin, Sem.run_bind, Sem.run_pure, Result.andThen_ok, List.map_toArray, List.map_cons, List.map_nil, hs, hx, hrun]
  exact h A' c' w' h2 h3 h4
theorem wpList_appV {ops : Array Oper} {rest : List Oper} {o : Oper} {a : Act} {Q : Exit → Act → World → Prop} (hgd : o.guard = none) (s x : Operand) (t : TypeId)
    (ho : o.op = .call { callee := .builtin .append, args := #[s, x], argTypes := #[t, t] })
    (base : Nat) (E : TypeId) (z : Value) (bytes : Nat) (ht : P.underlying t = some (.slice E)) (hi : (P.info? E).map (fun i => (i.zero, i.size, i.bytes)) = some (some z, 1, bytes)) (hz1 : z.cells.size = 1)
    {A : Option Addr} {n c : Nat} {vs : List Value} (hs : a.eval s = .slice A n c) (hown : OwnV w base E A n c vs) {B : Option Addr} {m d : Nat} {us : List Value} (hx : a.eval x = .slice B m d) (hr : RdV w B m us) (h1 : ∀ u ∈ us, u.oneCell' = true)
    (hsz : (n + m) * bytes ≤ 140737488355328) (hmax : n + m ≤ 140737488355328) (hbase : base ≤ w.heap.size) (N : Nat) (hN : N = n + m)
    (h : ∀ A' c' w', OwnV w' base E A' N c' (vs ++ us) → w.grownBy w' (A.map (·.block)) → (A'.map (·.block) = A.map (·.block) ∨ A'.map (·.block) = some w.heap.size) → wpList P ops Q rest (a.put o.dst (.slice A' N c')) w') : wpList P ops Q (o :: rest) a w :=
  wpList_plain hgd fun _ hK => wp_appV w s x t ho base E z bytes ht hi hz1 hs hown hx hr h1 hsz hmax hbase N hN fun A' c' w' h2 h3 h4 => hK _ _ (h A' c' w' h2 h3 h4)
end

/-- a byte of a row of one's own is written -/
theorem Own.set {w : World} {base E : Nat} {A : Option Addr} {n c : Nat} {l : List UInt8} (h : Own w base E A n c l) {g k : Nat} (hA : A = some ⟨g, 0, none⟩) (x : UInt8) : Own (w.setCell ⟨g, k, none⟩ (BV x)) base E A n c (l.set k x) := by
  subst hA
  refine ⟨by rw [List.length_set]; exact h.len, ?_⟩
  have := h.row
  refine ⟨by simp [bvs, h.len], ?_⟩
  rcases h.row.2 with ⟨hv, h0⟩ | ⟨g', cap, cur, hv, hb, hg, hc1, hc2, hc3, hc4⟩
  · cases hv
  · injection hv with a b c'
    injection a with a
    injection a with a _ _
    subst a c'
    refine .inr ⟨g, c, cur.setIfInBounds k (BV x), rfl, hb, ?_, hc1, hc2, by simpa using hc3, ?_⟩
    · rw [heap_setCell_same w g k cur E (BV x) hg]
    · simp only [Array.toList_setIfInBounds, Nat.mul_one] at hc4 ⊢
      rw [List.take_set, hc4]
      simp [bvs, List.map_set]
theorem Own.addr {w : World} {base E : Nat} {A : Option Addr} {n c : Nat} {l : List UInt8} (h : Own w base E A n c l) (hn : 0 < n) : ∃ g, A = some ⟨g, 0, none⟩ ∧ base ≤ g ∧ g < w.heap.size ∧ ∀ k, w.frozen? ⟨g, k, none⟩ = false := by
  rcases h.row.2 with ⟨hv, h0⟩ | ⟨g, cap, cur, hv, hb, hg, _⟩
  · omega
  · injection hv with a _ _
    subst a
    exact ⟨g, rfl, hb, (Array.getElem?_eq_some_iff.1 hg).1, fun k => frozen_of_row w g k cur E hg⟩
end Go.Coop
