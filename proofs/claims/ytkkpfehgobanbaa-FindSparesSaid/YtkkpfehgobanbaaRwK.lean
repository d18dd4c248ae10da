/- Rows that begin anywhere in a block of their own: an append, a part behind a place, copies, a cut. Nothing here speaks of one program. -/
import Derived.Test.YtkkpfehgobanbaaRowK
import Derived.Lib.AppendZerosOnto
import Derived.Lib.JoinLaws
import Derived.ArgAppend
namespace Go.Coop
open Go.RowKit
set_option maxRecDepth 100000
structure RowW (w : World) (B E k : Nat) (A : Option Addr) (n c : Nat) (vs : List Value) : Prop where
  len : vs.length = n * k
  at_ : (A = none ∧ n = 0 ∧ c = 0) ∨ ∃ (g : Nat) (pre sp : List Value), A = some ⟨g, pre.length, none⟩ ∧ B ≤ g ∧ w.heap[g]? = some (.cells (pre ++ vs ++ sp).toArray E (0, 0)) ∧ n ≤ c ∧ c ≤ maxLen ∧ c * k ≤ vs.length + sp.length
section
variable {w w' : World} {B E k n c : Nat} {A : Option Addr} {vs : List Value}
theorem RowW.nil (w : World) (B E k : Nat) : RowW w B E k none 0 0 [] := ⟨by simp, .inl ⟨rfl, rfl, rfl⟩⟩
theorem OwnK.row_w (h : OwnK w B E k A n c vs) : RowW w B E k A n c vs := by
  refine ⟨h.len, ?_⟩
  rcases h.row.2 with ⟨hv, h0⟩ | ⟨g, cap, cur, hv, hb, hg, h1, h2, h3, h4⟩
  · injection hv with hA _ hc
    exact .inl ⟨hA, h0, hc⟩
  · injection hv with hA _ hc
    subst hA hc
    have e : cur.toList = vs ++ cur.toList.drop (n * k) := by rw [← h4, List.take_append_drop]
    refine .inr ⟨g, [], cur.toList.drop (n * k), rfl, hb, ?_, h1, h2, ?_⟩
    · rw [List.nil_append, ← e]
      simpa using hg
    · have := congrArg List.length e
      rw [List.length_append, Array.length_toList, h3] at this
      omega
theorem RowW.block (h : RowW w B E k A n c vs) : ∀ j, A.map (·.block) = some j → B ≤ j ∧ j < w.heap.size := by
  intro j hj
  rcases h.at_ with ⟨rfl, _⟩ | ⟨g, pre, sp, rfl, hb, hg, _⟩
  · cases hj
  · injection hj with hj
    subst hj
    exact ⟨hb, (Array.getElem?_eq_some_iff.1 hg).1⟩
theorem RowW.typ (h : RowW w B E k A n c vs) {j : Nat} (hj : A.map (·.block) = some j) : ∃ cur, w.heap[j]? = some (.cells cur E (0, 0)) := by
  rcases h.at_ with ⟨rfl, _⟩ | ⟨g, pre, sp, rfl, hb, hg, _⟩
  · cases hj
  · injection hj with hj
    subst hj
    exact ⟨_, hg⟩
theorem RowW.cells (h : RowW w B E k A n c vs) {g o : Nat} (hA : A = some ⟨g, o, none⟩) {j : Nat} {v : Value} (hj : vs[j]? = some v) : w.cell? ⟨g, o + j, none⟩ = some v ∧ g < w.heap.size := by
  rcases h.at_ with ⟨rfl, _⟩ | ⟨g', pre, sp, rfl, hb, hg, _⟩
  · cases hA
  · injection hA with hA
    injection hA with h1 h2 _
    subst h1 h2
    refine ⟨?_, (Array.getElem?_eq_some_iff.1 hg).1⟩
    have hlt := (List.getElem?_eq_some_iff.1 hj).1
    simp only [World.cell?, hg]
    simp only [List.getElem?_toArray]
    rw [List.append_assoc, List.getElem?_append_right (by omega), List.getElem?_append_left (by omega), Nat.add_sub_cancel_left, hj]
    rfl
theorem RowW.rd (h : RowW w B E k A n c vs) : RdV w A (n * k) vs :=
  ⟨h.len, fun hn => by
    rcases h.at_ with ⟨_, h0, _⟩ | ⟨g, pre, sp, rfl, hb, hg, _⟩
    · subst h0; omega
    · exact ⟨_, rfl, (Array.getElem?_eq_some_iff.1 hg).1, fun j c' hj => by rw [addr_at]; exact (h.cells rfl hj).1⟩⟩
theorem RowW.but {gs : List Nat} (h : RowW w B E k A n c vs) (hb : But gs w w') (hn : ∀ j, A.map (·.block) = some j → j ∉ gs) : RowW w' B E k A n c vs := by
  refine ⟨h.len, ?_⟩
  rcases h.at_ with h0 | ⟨g, pre, sp, rfl, hbg, hg, r⟩
  · exact .inl h0
  · exact .inr ⟨g, pre, sp, rfl, hbg, hb.cells hg (hn g rfl), r⟩
theorem RowW.below (h : RowW w B E k A n c vs) (hb : Below w.heap.size w w') : RowW w' B E k A n c vs := h.but (gs := []) (But.of_below hb) (by simp)
theorem RowW.lower {B' : Nat} (h : RowW w B E k A n c vs) (hl : B' ≤ B) : RowW w B' E k A n c vs := by
  refine ⟨h.len, ?_⟩
  rcases h.at_ with h0 | ⟨g, pre, sp, rfl, hbg, hg, r⟩
  · exact .inl h0
  · exact .inr ⟨g, pre, sp, rfl, Nat.le_trans hl hbg, hg, r⟩
theorem RowW.nc (h : RowW w B E k A n c vs) : n ≤ c ∧ c ≤ maxLen := by
  rcases h.at_ with ⟨_, h1, h2⟩ | ⟨g, pre, sp, rfl, hbg, hg, h1, h2, _⟩
  · subst h1 h2; simp
  · exact ⟨h1, h2⟩
theorem RowW.addr (h : RowW w B E k A n c vs) : ∀ a, A = some a → a.add 0 = a := by
  intro a ha
  rcases h.at_ with ⟨rfl, _⟩ | ⟨g, pre, sp, rfl, _⟩
  · cases ha
  · injection ha with ha
    subst ha
    rw [addr_at]
    rfl
/-- what lies behind a place -/
theorem RowW.tail (h : RowW w B E k A n c vs) {m : Nat} (hm : m ≤ n) : RowW w B E k (if c = m then A else A.map (·.add (m * k))) (n - m) (c - m) (vs.drop (m * k)) := by
  have hl : (vs.drop (m * k)).length = (n - m) * k := by rw [List.length_drop, h.len, Nat.sub_mul]
  refine ⟨hl, ?_⟩
  rcases h.at_ with ⟨rfl, h1, h2⟩ | ⟨g, pre, sp, rfl, hbg, hg, h1, h2, h3⟩
  · subst h1 h2
    exact .inl ⟨by simp, by omega, by omega⟩
  · right
    have hmk : m * k ≤ vs.length := by rw [h.len]; exact Nat.mul_le_mul_right _ hm
    by_cases e : c = m
    · subst e
      obtain rfl : n = c := by omega
      refine ⟨g, pre, vs ++ sp, by simp, hbg, ?_, by omega, by omega, by simp⟩
      rw [hg]
      have : vs.drop (n * k) = [] := by rw [List.drop_eq_nil_iff]; have := h.len; omega
      rw [this]
      simp
    · refine ⟨g, pre ++ vs.take (m * k), sp, ?_, hbg, ?_, by omega, by omega, ?_⟩
      · rw [if_neg e, List.length_append, List.length_take]
        rw [Nat.min_eq_left hmk]
        simp [addr_at]
      · rw [List.append_assoc pre, List.take_append_drop]
        exact hg
      · rw [hl, Nat.sub_mul, Nat.sub_mul, ← h.len]
        omega
end
section
variable {P : Program} (w : World)
/-- append(s, x...) -/
theorem run_appW (B : Nat) (t ty E k : Nat) (z : Value) (bytes : Nat) (ht : P.underlying t = some (.slice E)) (hi : (P.info? E).map (fun i => (i.zero, i.size, i.bytes)) = some (some z, k, bytes)) (hz1 : z.cells.size = k) (hk : 0 < k)
    {A : Option Addr} {n c : Nat} {vs : List Value} (h : RowW w B E k A n c vs) {X : Option Addr} {m : Nat} {us : List Value} (d : Nat) (hr : RdV w X (m * k) us) (hm : 0 < m) (h1 : ∀ u ∈ us, u.oneCell' = true) (hsz : (n + m) * bytes ≤ 140737488355328) (hmax : n + m ≤ 140737488355328) (hbase : B ≤ w.heap.size) :
    ∃ A' c' w', (Builtin.append_ #[t, t] ty #[.slice A n c, .slice X m d]).run P w = .ok (.slice A' (n + m) c') w' ∧ RowW w' B E k A' (n + m) c' (vs ++ us) ∧ But (A.map (·.block)).toList w w' ∧ (A'.map (·.block) = A.map (·.block) ∨ ∃ j, w.heap.size ≤ j ∧ A'.map (·.block) = some j) := by
  rcases h.at_ with ⟨rfl, h1', h2⟩ | ⟨g, pre, sp, rfl, hbg, hg, hnc, hcm, hlen⟩
  · subst h1' h2
    have hvs : vs = [] := List.eq_nil_of_length_eq_zero (by simpa using h.len)
    subst hvs
    obtain ⟨A', c', w', hrun, hown, hgr, hA⟩ := run_appK w B t ty E k z bytes ht hi hz1 hk (OwnK.nil w B E k) d hr hm h1 hsz hmax hbase (0 + m) rfl
    refine ⟨A', c', w', hrun, by simpa using hown.row_w, ?_, hA.imp id fun e => ⟨_, Nat.le_refl _, e⟩⟩
    exact ⟨hgr.os, hgr.tape, hgr.output, hgr.size, fun j hj _ => hgr.block j hj (by simp)⟩
  · obtain ⟨i, hi, hz, hs1, hs2⟩ := info_parts hi
    obtain ⟨ad, rfl, _, hcells⟩ := hr.cells (Nat.mul_pos hm hk)
    have hmk : 0 < m * k := Nat.mul_pos hm hk
    by_cases hroom : n + m ≤ c
    · have hsp : us.length ≤ sp.length := by
        have : (n + m) * k ≤ c * k := Nat.mul_le_mul_right _ hroom
        rw [Nat.add_mul, ← h.len, ← hr.len] at this
        omega
      have hg' : w.heap[g]? = some (.cells (pre ++ vs ++ sp.take us.length ++ sp.drop us.length).toArray E (0, 0)) := by
        rw [List.append_assoc (pre ++ vs), List.take_append_drop]
        exact hg
      have hlp : (pre ++ vs).length = pre.length + n * k := by rw [List.length_append, h.len]
      have hrun := run_append_room_cells (P := P) w t ty E i ht hi g pre.length n c ad m d us (by rw [hr.len, hs1]) hcells h1 hroom (fun j hj => by
          simp only [World.cell?, hg, hs1]
          simp only [List.getElem?_toArray]
          rw [List.getElem?_append_right (by omega), List.getElem?_eq_getElem (by rw [hlp]; omega)]
          rfl) (fun j _ => frozen_of_row w g _ _ E hg)
      refine ⟨_, c, _, hrun, ?_, (But.refl _ w).trans' ?_ (hs := [g]) (by simp), .inl rfl⟩
      · rw [hs1, ← hlp, setCells_row w P g E (pre ++ vs) _ (sp.drop us.length) us hg' (by simp; omega) h1]
        refine ⟨by rw [List.length_append, h.len, hr.len, Nat.add_mul], .inr ⟨g, pre, sp.drop us.length, rfl, hbg, ?_, hroom, hcm, ?_⟩⟩
        · rw [setRow_heap w g _ _ E _ hg']
          simp
        · simp
          omega
      · rw [hs1, ← hlp, setCells_row w P g E (pre ++ vs) _ (sp.drop us.length) us hg' (by simp; omega) h1]
        exact (But.refl _ _).setRow (by simp) _
    · obtain ⟨v', w', hrun, hown, hgr⟩ := run_append_arg_grows (P := P) w t ty E i z k bytes ht hi hz hs1 hs2 hz1 hk ⟨g, pre.length, none⟩ n c vs h.len (fun j u hj => by rw [addr_at]; exact (h.cells rfl hj).1) ad m d us hr.len hcells (by omega) (by simp only [maxLen]; omega) hsz
      obtain ⟨A', c', rfl⟩ : ∃ A' c', v' = .slice A' (n + m) c' := by
        rcases hown.2 with ⟨rfl, h0⟩ | ⟨g, cap, cur, rfl, _⟩
        · exact ⟨none, 0, by rw [h0]⟩
        · exact ⟨_, _, rfl⟩
      have hK : OwnK w' w.heap.size E k A' (n + m) c' (vs ++ us) := ⟨hown⟩
      refine ⟨A', c', w', hrun, hK.row_w.lower hbase, ⟨hgr.os, hgr.tape, hgr.output, hgr.size, fun j hj _ => hgr.block j hj (by simp)⟩, ?_⟩
      right
      rcases hown.2 with ⟨_, h0⟩ | ⟨g', cap, cur, e, hb', hg', _⟩
      · omega
      · injection e with e _ _
        subst e
        exact ⟨g', hb', rfl⟩
/-- copy(d, s): elements of k cells -/
theorem run_copyK (dT sT ty E k : Nat) (b o dLen dCap : Nat) (a : Addr) (sLen sCap q : Nat) (cs : List Value) (hu : P.underlying dT = some (.slice E)) (hs : (P.info? E).map (·.size) = some k) (hq : Nat.min sLen dLen = q) (hn : cs.length = q * k)
    (hsrc : ∀ j v, cs[j]? = some v → w.cell? (a.add j) = some v) (T : TypeId) (l m r : List Value) (hg : w.heap[b]? = some (.cells (l ++ m ++ r).toArray T (0, 0))) (ho : l.length = o) (hm : m.length = cs.length) (h1 : ∀ v ∈ cs, v.oneCell' = true) :
    (Builtin.copy_ #[dT, sT] ty #[.slice (some ⟨b, o, none⟩) dLen dCap, .slice (some a) sLen sCap]).run P w = .ok (goInt q) (w.setRow b (l ++ cs ++ r).toArray) := by
  subst ho
  have hl := run_loadCells_list (P := P) w a cs hsrc
  have hst := run_storeCells_in (P := P) b T cs l m r w hg hm h1
  have e3 : storeCells ⟨b, 0, none⟩ cs l.length = storeCells ⟨b, l.length, none⟩ cs 0 := by
    have := storeCells_add ⟨b, 0, none⟩ l.length cs 0
    rw [addr_at] at this
    simpa using this.symm
  rw [e3] at hst
  cases hq' : P.info? E with
  | none => simp [hq'] at hs
  | some i =>
    have hi : i.size = k := by simpa [hq'] using hs
    simp [Builtin.copy_, run_underlying hu, Builtin.lenOf, Builtin.firstCells, sizeOf, typeInfo, hq', hi, hq, ← hn, hl, hst]
/-- slices of a slice whose elements have k cells -/
theorem slice_lhk {E k : Nat} (t : TypeId) (ht : P.underlying t = some (.slice E)) (hi : (P.info? E).map (·.size) = some k) (A : Option Addr) (n c x y : Nat) (hxy : x ≤ y) (hyc : y ≤ c) (w : World) :
    (Instr.slice t (.slice A n c) (some (.int .i64 (x : Int))) (some (.int .i64 (y : Int))) none).run P w = .ok (.slice (if c = x then A else A.map (·.add (x * k))) (y - x) (c - x)) w := by
  have he : P.elem t = E := by simp [Program.elem, ht]
  have hb : (Instr.sliceBounds true n c (some (.int .i64 (x : Int))) (some (.int .i64 (y : Int))) none).run P w = .ok (x, y, c) w := by
    simp [Instr.sliceBounds, run_sliceBound, *]
  obtain ⟨i, hi2, rfl⟩ : ∃ i, P.info? E = some i ∧ i.size = k := by
    cases hq : P.info? E with
    | none => simp [hq] at hi
    | some i => exact ⟨i, rfl, by simpa [hq] using hi⟩
  rw [run_slice_any w t A n c (by rw [he]; exact ht), hb, he]
  simp [sizeOf, typeInfo, hi2, sliced, Result.andThen]
theorem slice_lhmk {E k : Nat} (t : TypeId) (ht : P.underlying t = some (.slice E)) (hi : (P.info? E).map (·.size) = some k) (A : Option Addr) (n c x y z : Nat) (hxy : x ≤ y) (hyz : y ≤ z) (hzc : z ≤ c) (w : World) :
    (Instr.slice t (.slice A n c) (some (.int .i64 (x : Int))) (some (.int .i64 (y : Int))) (some (.int .i64 (z : Int)))).run P w = .ok (.slice (if z = x then A else A.map (·.add (x * k))) (y - x) (z - x)) w := by
  have he : P.elem t = E := by simp [Program.elem, ht]
  have hb : (Instr.sliceBounds true n c (some (.int .i64 (x : Int))) (some (.int .i64 (y : Int))) (some (.int .i64 (z : Int)))).run P w = .ok (x, y, z) w := by
    simp [Instr.sliceBounds, run_sliceBound, *]
  obtain ⟨i, hi2, rfl⟩ : ∃ i, P.info? E = some i ∧ i.size = k := by
    cases hq : P.info? E with
    | none => simp [hq] at hi
    | some i => exact ⟨i, rfl, by simpa [hq] using hi⟩
  rw [run_slice_any w t A n c (by rw [he]; exact ht), hb, he]
  simp [sizeOf, typeInfo, hi2, sliced, Result.andThen]
theorem slice_lk {E k : Nat} (t : TypeId) (ht : P.underlying t = some (.slice E)) (hi : (P.info? E).map (·.size) = some k) (A : Option Addr) (n c x : Nat) (hx : x ≤ n) (w : World) :
    (Instr.slice t (.slice A n c) (some (.int .i64 (x : Int))) none none).run P w = .ok (.slice (if c = x then A else A.map (·.add (x * k))) (n - x) (c - x)) w := by
  have he : P.elem t = E := by simp [Program.elem, ht]
  have hb : (Instr.sliceBounds true n c (some (.int .i64 (x : Int))) none none).run P w = .ok (x, n, c) w := by
    simp [Instr.sliceBounds, run_sliceBound, *]
  obtain ⟨i, hi2, rfl⟩ : ∃ i, P.info? E = some i ∧ i.size = k := by
    cases hq : P.info? E with
    | none => simp [hq] at hi
    | some i => exact ⟨i, rfl, by simpa [hq] using hi⟩
  rw [run_slice_any w t A n c (by rw [he]; exact ht), hb, he]
  simp [sizeOf, typeInfo, hi2, sliced, Result.andThen]
theorem slice_hk {E k : Nat} (t : TypeId) (ht : P.underlying t = some (.slice E)) (hi : (P.info? E).map (·.size) = some k) (A : Option Addr) (hA : ∀ a, A = some a → a.add 0 = a) (n c y : Nat) (hyc : y ≤ c) (w : World) :
    (Instr.slice t (.slice A n c) none (some (.int .i64 (y : Int))) none).run P w = .ok (.slice A y c) w := by
  have he : P.elem t = E := by simp [Program.elem, ht]
  have hb : (Instr.sliceBounds true n c none (some (.int .i64 (y : Int))) none).run P w = .ok (0, y, c) w := by
    simp [Instr.sliceBounds, run_sliceBound, *]
  obtain ⟨i, hi2, rfl⟩ : ∃ i, P.info? E = some i ∧ i.size = k := by
    cases hq : P.info? E with
    | none => simp [hq] at hi
    | some i => exact ⟨i, rfl, by simpa [hq] using hi⟩
  rw [run_slice_any w t _ n c (by rw [he]; exact ht), hb, he]
  cases A with
  | none => simp [sizeOf, typeInfo, hi2, sliced, Result.andThen]
  | some a => simp [sizeOf, typeInfo, hi2, sliced, Result.andThen, hA a rfl]
theorem step_app_run {ops : Array Oper} {o : Oper} {a : Act} {w w' : World} {K : Act → World → Prop} {Q : Exit → Act → World → Prop} {Z : Prop} (hgd : o.guard = none) (s x : Operand) (t : TypeId)
    (ho : o.op = .call { callee := .builtin .append, args := #[s, x], argTypes := #[t, t] }) {vs vx v : Value} (hs : a.eval s = vs) (hx : a.eval x = vx) (hrun : (Builtin.append_ #[t, t] o.type #[vs, vx]).run P w = .ok v w')
    (h : K (a.put o.dst v) w') : if Region.wanted o (yielded ops a.tmps) = true then Oper.wp P o a w K Q else Z := by
  have hw : Region.wanted o (yielded ops a.tmps) = true := by simp [Region.wanted, hgd]
  rw [if_pos hw]
  unfold Oper.wp execOp
  simp only [ho, resolve, invoke, builtin, Sem.run_bind, Sem.run_pure, Result.andThen_ok, List.map_toArray, List.map_cons, List.map_nil, hs, hx, hrun]
  exact h
end
end Go.Coop
