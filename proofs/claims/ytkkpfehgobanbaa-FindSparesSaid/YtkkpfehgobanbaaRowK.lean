/- Rows of elements of k cells: a row of one's own, an append of one onto the other, an append within one row, the clearing of its end. Nothing here speaks of one program. -/
import Derived.Test.YtkkpfehgobanbaaArr
import Derived.Lib.SliceRun
namespace Go.Coop
open Go.RowKit
set_option maxRecDepth 100000
structure OwnK (w : World) (base E k : Nat) (A : Option Addr) (n c : Nat) (vs : List Value) : Prop where
  row : w.ownsRow base E k (.slice A n c) n vs
section
variable {w w' : World} {A : Option Addr} {n k : Nat} {vs : List Value}
theorem OwnK.len {base E c : Nat} (h : OwnK w base E k A n c vs) : vs.length = n * k := h.row.1
theorem OwnK.rd {base E c : Nat} (h : OwnK w base E k A n c vs) : RdV w A (n * k) vs :=
  ⟨h.row.1, fun hn => by
    rcases h.row.2 with ⟨hv, h0⟩ | ⟨g, cap, cur, hv, hb, hg, _⟩
    · subst h0; omega
    · injection hv with hA _ _
      subst hA
      exact ⟨_, rfl, (Array.getElem?_eq_some_iff.1 hg).1, fun j c hj => h.row.cells (g := g) rfl j _ hj⟩⟩
theorem OwnK.nil (w : World) (base E k : Nat) : OwnK w base E k none 0 0 [] := ⟨World.ownsRow_nil w base E k⟩
theorem OwnK.block {base E c : Nat} (h : OwnK w base E k A n c vs) : ∀ j, A.map (·.block) = some j → base ≤ j ∧ j < w.heap.size := by
  intro j hk
  refine h.row.lt j ?_
  cases A with
  | none => cases hk
  | some a => simpa [Value.ownBlock] using hk
theorem OwnK.kept {base E c : Nat} {row : Option Nat} (h : OwnK w base E k A n c vs) (hg : w.grownBy w' row) (hne : A.map (·.block) = none ∨ A.map (·.block) ≠ row) : OwnK w' base E k A n c vs :=
  ⟨h.row.kept hg (by cases A with
    | none => exact .inl rfl
    | some a => rcases hne with e | e
                · cases e
                · exact .inr (by simpa [Value.ownBlock] using e))⟩
theorem OwnK.below {base E c B : Nat} (h : OwnK w base E k A n c vs) (hb : Below B w w') (hB : w.heap.size ≤ B) : OwnK w' base E k A n c vs :=
  h.kept (row := none) ⟨hb.os, hb.tape, hb.output, hb.size, fun j hk _ => hb.block j (by omega)⟩ (by cases A <;> simp)
theorem OwnK.but {base E c : Nat} {gs : List Nat} (h : OwnK w base E k A n c vs) (hb : But gs w w') (hn : ∀ j, A.map (·.block) = some j → j ∉ gs) : OwnK w' base E k A n c vs := by
  refine ⟨h.row.1, ?_⟩
  rcases h.row.2 with h0 | ⟨g, cap, cur, hv, hbg, hg, r⟩
  · exact .inl h0
  · injection hv with hA h2 h3
    subst hA h3
    exact .inr ⟨g, c, cur, rfl, hbg, hb.cells hg (hn g rfl), r⟩
theorem OwnK.head {base E c : Nat} (h : OwnK w base E k A n c vs) (hn : 0 < n) : ∃ g sp, A = some ⟨g, 0, none⟩ ∧ base ≤ g ∧ g < w.heap.size ∧ w.heap[g]? = some (.cells (vs ++ sp).toArray E (0, 0)) ∧ n ≤ c ∧ c ≤ maxLen ∧ vs.length + sp.length = c * k := by
  rcases h.row.2 with ⟨hv, h0⟩ | ⟨g, cap, cur, hv, hb, hg, h1, h2, h3, h4⟩
  · omega
  · injection hv with hA _ hc
    subst hA hc
    have e : cur.toList = vs ++ cur.toList.drop (n * k) := by rw [← h4, List.take_append_drop]
    refine ⟨g, cur.toList.drop (n * k), rfl, hb, (Array.getElem?_eq_some_iff.1 hg).1, ?_, h1, h2, ?_⟩
    · rw [← e]
      simpa using hg
    · have := congrArg List.length e
      rw [List.length_append, Array.length_toList, h3] at this
      omega
theorem OwnK.mk' {base E c g : Nat} {sp : List Value} (hb : base ≤ g) (hg : w.heap[g]? = some (.cells (vs ++ sp).toArray E (0, 0))) (hn : n ≤ c) (hc : c ≤ maxLen) (hl : vs.length = n * k) (hs : vs.length + sp.length = c * k) : OwnK w base E k (some ⟨g, 0, none⟩) n c vs :=
  ⟨hl, .inr ⟨g, c, (vs ++ sp).toArray, rfl, hb, hg, hn, hc, by simp; omega, by simp [← hl]⟩⟩
end
section
variable {P : Program} (w : World)
theorem run_appK (base : Nat) (t ty E k : Nat) (z : Value) (bytes : Nat) (ht : P.underlying t = some (.slice E)) (hi : (P.info? E).map (fun i => (i.zero, i.size, i.bytes)) = some (some z, k, bytes)) (hz1 : z.cells.size = k) (hk : 0 < k)
    {A : Option Addr} {n c : Nat} {vs : List Value} (hown : OwnK w base E k A n c vs) {B : Option Addr} {m : Nat} {us : List Value} (d : Nat) (hr : RdV w B (m * k) us) (hm : 0 < m) (h1 : ∀ u ∈ us, u.oneCell' = true) (hsz : (n + m) * bytes ≤ 140737488355328) (hmax : n + m ≤ 140737488355328) (hbase : base ≤ w.heap.size) (N : Nat) (hN : N = n + m) :
    ∃ A' c' w', (Builtin.append_ #[t, t] ty #[.slice A n c, .slice B m d]).run P w = .ok (.slice A' N c') w' ∧ OwnK w' base E k A' N c' (vs ++ us) ∧ w.grownBy w' (A.map (·.block)) ∧
      (A'.map (·.block) = A.map (·.block) ∨ A'.map (·.block) = some w.heap.size) := by
  subst hN
  obtain ⟨i, hi, hz, hs1, hs2⟩ := info_parts hi
  have ob : ∀ (X : Option Addr) (p q : Nat), (Value.slice X p q).ownBlock = X.map (·.block) := by intro X p q; cases X <;> rfl
  obtain ⟨ad, rfl, _, hcells⟩ := hr.cells (Nat.mul_pos hm hk)
  obtain ⟨v', w', hrun, h2', h3, _, h5⟩ := run_append_own_at (P := P) w base t ty E i z k bytes ht hi hz hs1 hs2 hz1 hk (.slice A n c) n vs hown.row ad m d us hr.len hcells h1 (by simp only [maxLen]; omega) hsz hbase
  obtain ⟨A', c', rfl⟩ : ∃ A' c', v' = .slice A' (n + m) c' := by
    rcases h2'.2 with ⟨rfl, h0⟩ | ⟨g, cap, cur, rfl, _⟩
    · exact ⟨none, 0, by rw [h0]⟩
    · exact ⟨_, _, rfl⟩
  refine ⟨A', c', w', hrun, ⟨h2'⟩, ?_, ?_⟩
  · rwa [ob] at h3
  · rwa [ob, ob] at h5
theorem wp_appK {o : Oper} {a : Act} {K : Act → World → Prop} {Q : Exit → Act → World → Prop} (s x : Operand) (t : TypeId)
    (ho : o.op = .call { callee := .builtin .append, args := #[s, x], argTypes := #[t, t] })
    (base : Nat) (E k : Nat) (z : Value) (bytes : Nat) (ht : P.underlying t = some (.slice E)) (hi : (P.info? E).map (fun i => (i.zero, i.size, i.bytes)) = some (some z, k, bytes)) (hz1 : z.cells.size = k) (hk : 0 < k)
    {A : Option Addr} {n c : Nat} {vs : List Value} (hs : a.eval s = .slice A n c) (hown : OwnK w base E k A n c vs) {B : Option Addr} {m d : Nat} {us : List Value} (hx : a.eval x = .slice B m d) (hr : RdV w B (m * k) us) (hm : 0 < m) (h1 : ∀ u ∈ us, u.oneCell' = true)
    (hsz : (n + m) * bytes ≤ 140737488355328) (hmax : n + m ≤ 140737488355328) (hbase : base ≤ w.heap.size) (N : Nat) (hN : N = n + m)
    (h : ∀ A' c' w', OwnK w' base E k A' N c' (vs ++ us) → w.grownBy w' (A.map (·.block)) → (A'.map (·.block) = A.map (·.block) ∨ A'.map (·.block) = some w.heap.size) → K (a.put o.dst (.slice A' N c')) w') : o.wp P a w K Q := by
  obtain ⟨A', c', w', hrun, h2, h3, h4⟩ := run_appK (P := P) w base t o.type E k z bytes ht hi hz1 hk hown d hr hm h1 hsz hmax hbase N hN
  unfold Oper.wp execOp
  simp only [ho, resolve, invoke, builtin, Sem.run_bind, Sem.run_pure, Result.andThen_ok, List.map_toArray, List.map_cons, List.map_nil, hs, hx, hrun]
  exact h A' c' w' h2 h3 h4
theorem wpList_appK {ops : Array Oper} {rest : List Oper} {o : Oper} {a : Act} {Q : Exit → Act → World → Prop} (hgd : o.guard = none) (s x : Operand) (t : TypeId)
    (ho : o.op = .call { callee := .builtin .append, args := #[s, x], argTypes := #[t, t] })
    (base : Nat) (E k : Nat) (z : Value) (bytes : Nat) (ht : P.underlying t = some (.slice E)) (hi : (P.info? E).map (fun i => (i.zero, i.size, i.bytes)) = some (some z, k, bytes)) (hz1 : z.cells.size = k) (hk : 0 < k)
    {A : Option Addr} {n c : Nat} {vs : List Value} (hs : a.eval s = .slice A n c) (hown : OwnK w base E k A n c vs) {B : Option Addr} {m d : Nat} {us : List Value} (hx : a.eval x = .slice B m d) (hr : RdV w B (m * k) us) (hm : 0 < m) (h1 : ∀ u ∈ us, u.oneCell' = true)
    (hsz : (n + m) * bytes ≤ 140737488355328) (hmax : n + m ≤ 140737488355328) (hbase : base ≤ w.heap.size) (N : Nat) (hN : N = n + m)
    (h : ∀ A' c' w', OwnK w' base E k A' N c' (vs ++ us) → w.grownBy w' (A.map (·.block)) → (A'.map (·.block) = A.map (·.block) ∨ A'.map (·.block) = some w.heap.size) → wpList P ops Q rest (a.put o.dst (.slice A' N c')) w') : wpList P ops Q (o :: rest) a w :=
  wpList_plain hgd fun _ hK => wp_appK w s x t ho base E k z bytes ht hi hz1 hk hs hown hx hr hm h1 hsz hmax hbase N hN fun A' c' w' h2 h3 h4 => hK _ _ (h A' c' w' h2 h3 h4)
theorem step_appK {ops : Array Oper} {o : Oper} {a : Act} {K : Act → World → Prop} {Q : Exit → Act → World → Prop} {Z : Prop} (hgd : o.guard = none) (s x : Operand) (t : TypeId)
    (ho : o.op = .call { callee := .builtin .append, args := #[s, x], argTypes := #[t, t] })
    (base : Nat) (E k : Nat) (z : Value) (bytes : Nat) (ht : P.underlying t = some (.slice E)) (hi : (P.info? E).map (fun i => (i.zero, i.size, i.bytes)) = some (some z, k, bytes)) (hz1 : z.cells.size = k) (hk : 0 < k)
    {A : Option Addr} {n c : Nat} {vs : List Value} (hs : a.eval s = .slice A n c) (hown : OwnK w base E k A n c vs) {B : Option Addr} {m d : Nat} {us : List Value} (hx : a.eval x = .slice B m d) (hr : RdV w B (m * k) us) (hm : 0 < m) (h1 : ∀ u ∈ us, u.oneCell' = true)
    (hsz : (n + m) * bytes ≤ 140737488355328) (hmax : n + m ≤ 140737488355328) (hbase : base ≤ w.heap.size) (N : Nat) (hN : N = n + m)
    (h : ∀ A' c' w', OwnK w' base E k A' N c' (vs ++ us) → w.grownBy w' (A.map (·.block)) → (A'.map (·.block) = A.map (·.block) ∨ A'.map (·.block) = some w.heap.size) → K (a.put o.dst (.slice A' N c')) w') :
    if Region.wanted o (yielded ops a.tmps) = true then Oper.wp P o a w K Q else Z := by
  have hw : Region.wanted o (yielded ops a.tmps) = true := by simp [Region.wanted, hgd]
  rw [if_pos hw]
  exact wp_appK w s x t ho base E k z bytes ht hi hz1 hk hs hown hx hr hm h1 hsz hmax hbase N hN h

/-- cells written one by one into a block: the block written whole -/
theorem setCells_row (P : Program) (g T : Nat) (l m r vs : List Value) (hg : w.heap[g]? = some (.cells (l ++ m ++ r).toArray T (0, 0))) (hm : m.length = vs.length) (h1 : ∀ v ∈ vs, v.oneCell' = true) :
    w.setCells g l.length vs = w.setRow g (l ++ vs ++ r).toArray := by
  have e1 := run_storeCells_in (P := P) g T vs l m r w hg hm h1
  have e2 := run_storeCells_cells (P := P) g l.length vs 0 w (fun j hj => by
    simp only [World.cell?, hg]
    have hj' : l.length + 0 + j < (l ++ m ++ r).length := by simp; omega
    simp only [List.getElem?_toArray, List.getElem?_eq_getElem hj']
    rfl) (fun j _ => frozen_of_row w g _ _ T hg) h1
  rw [Nat.add_zero] at e2
  have e3 : storeCells ⟨g, 0, none⟩ vs l.length = storeCells ⟨g, l.length, none⟩ vs 0 := by
    have := storeCells_add ⟨g, 0, none⟩ l.length vs 0
    rw [addr_at] at this
    simpa using this.symm
  rw [e3, e2] at e1
  injection e1 with _ e1
/-- append(s[:i], s[j:]...) of one row -/
theorem run_app_over (t ty E k : Nat) (z : Value) (bytes : Nat) (ht : P.underlying t = some (.slice E)) (hi : (P.info? E).map (fun i => (i.zero, i.size, i.bytes)) = some (some z, k, bytes))
    (g T cap x m d : Nat) (l q r sp : List Value) (hg : w.heap[g]? = some (.cells (l ++ (q ++ r) ++ sp).toArray T (0, 0))) (hl : l.length = x * k) (hr : r.length = m * k) (a : Addr) (ha : 0 < r.length → a = ⟨g, l.length + q.length, none⟩) (hroom : x + m ≤ cap) (h1 : ∀ u ∈ r, u.oneCell' = true) :
    (Builtin.append_ #[t, t] ty #[.slice (some ⟨g, 0, none⟩) x cap, .slice (some a) m d]).run P w = .ok (.slice (some ⟨g, 0, none⟩) (x + m) cap) (w.setRow g (l ++ r ++ ((q ++ r).drop r.length ++ sp)).toArray) := by
  obtain ⟨i, hi, hz, hs1, hs2⟩ := info_parts hi
  have hsplit : l ++ (q ++ r) ++ sp = l ++ (q ++ r).take r.length ++ ((q ++ r).drop r.length ++ sp) := by
    rw [List.append_assoc, List.append_assoc, List.append_assoc, ← List.append_assoc ((q ++ r).take r.length), List.take_append_drop, List.append_assoc]
  have hlen : ((q ++ r).take r.length).length = r.length := by simp
  have hcell : ∀ j, j < (l ++ (q ++ r) ++ sp).length → (w.cell? ⟨g, j, none⟩) = (l ++ (q ++ r) ++ sp)[j]? := fun j _ => by
    simp only [World.cell?, hg]
    simp
  have hrun := run_append_room_cells (P := P) w t ty E i ht hi g 0 x cap a m d r (by rw [hr, hs1]) (fun j u hj => by
      have hj' := (List.getElem?_eq_some_iff.1 hj).1
      rw [ha (by omega), addr_at, hcell _ (by simp; omega), List.append_assoc, List.getElem?_append_right (by omega), List.append_assoc, List.getElem?_append_right (by omega)]
      rw [List.getElem?_append_left (by omega), ← hj]
      congr 1
      omega) h1 hroom (fun j hj => by
      rw [Nat.zero_add, hs1, ← hl, hcell _ (by simp; omega)]
      simp
      omega) (fun j _ => frozen_of_row w g _ _ T hg)
  rw [hrun]
  congr 1
  rw [Nat.zero_add, hs1, ← hl]
  rw [hsplit] at hg
  exact setCells_row w P g T l _ _ r hg hlen h1
/-- clear(s[n:]) -/
theorem run_clearK (t E k : Nat) (z : Value) (ht : P.underlying t = some (.slice E)) (hv : ∀ w, (zeroValue E).run P w = .ok z w) (hz : z.cells.size = k) (h1 : ∀ v ∈ z.cells, v.oneCell' = true) (hk : 0 < k)
    (g T c n : Nat) (l q r : List Value) (hg : w.heap[g]? = some (.cells (l ++ q ++ r).toArray T (0, 0))) (hq : q.length = n * k) :
    ∃ zs : List Value, zs.length = n * k ∧ ∀ ty a, (0 < n → a = some (⟨g, l.length, none⟩ : Addr)) → (a = none → n = 0) → (Builtin.clear_ #[t] ty #[.slice a n c]).run P w = .ok (.tuple #[]) (w.setRow g (l ++ zs ++ r).toArray) := by
  refine ⟨(Builtin.zeroCells z.cells n).toList, by rw [Array.length_toList, size_zeroCells, hz], fun ty a ha hn => ?_⟩
  have hone : ∀ v ∈ (Builtin.zeroCells z.cells n).toList, v.oneCell' = true := by
    intro v hv'
    simp only [Builtin.zeroCells] at hv'
    simp at hv'
    obtain ⟨j, hj, rfl⟩ := hv'
    refine h1 _ ?_
    have hlt : j % z.cells.size < z.cells.size := Nat.mod_lt _ (by omega)
    rw [getElem!_pos z.cells _ hlt]
    exact Array.getElem_mem hlt
  cases a with
  | none =>
    obtain rfl := hn rfl
    have hq0 : q = [] := List.eq_nil_of_length_eq_zero (by omega)
    subst hq0
    have hz0 : (Builtin.zeroCells z.cells 0).toList = [] := List.eq_nil_of_length_eq_zero (by rw [Array.length_toList, size_zeroCells]; omega)
    rw [hz0]
    have := setCells_row w P g T l [] r [] hg rfl (by simp)
    rw [← this]
    simp [Builtin.clear_, run_underlying ht, World.setCells]
  | some a =>
    rcases Nat.eq_zero_or_pos n with rfl | hn0
    · have hq0 : q = [] := List.eq_nil_of_length_eq_zero (by omega)
      subst hq0
      have hz0 : (Builtin.zeroCells z.cells 0).toList = [] := List.eq_nil_of_length_eq_zero (by rw [Array.length_toList, size_zeroCells]; omega)
      have hz1 : Builtin.zeroCells z.cells 0 = #[] := by
        rw [← Array.toList_eq_nil_iff]
        exact hz0
      have := setCells_row w P g T l [] r [] hg rfl (by simp)
      rw [hz0, ← this]
      simp [Builtin.clear_, run_underlying ht, World.setCells]
    · have ha := ha hn0
      injection ha with ha
      subst ha
      have hst := run_storeCells_in (P := P) g T (Builtin.zeroCells z.cells n).toList l q r w hg (by rw [hq, Array.length_toList, size_zeroCells, hz]) hone
      have e3 : storeCells ⟨g, 0, none⟩ (Builtin.zeroCells z.cells n).toList l.length = storeCells ⟨g, l.length, none⟩ (Builtin.zeroCells z.cells n).toList 0 := by
        have := storeCells_add ⟨g, 0, none⟩ l.length (Builtin.zeroCells z.cells n).toList 0
        rw [addr_at] at this
        simpa using this.symm
      rw [e3] at hst
      obtain ⟨m, rfl⟩ : ∃ m, n = m + 1 := ⟨n - 1, by omega⟩
      simp [Builtin.clear_, run_underlying ht, hv, hst]
end
end Go.Coop
