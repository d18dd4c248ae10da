/- A region whose operations come up in any order, by a condition on what has come up: each operation is shown once, not once an order. -/
import Derived.Test.YtmiapegecoaccaaLawA
namespace Go.Proofs.Ytmiapegecoaccaa
open Go.RowKit Go.Coop
theorem ready_listed {md : Region.Mode} {ops : Array Oper} {listed : Array Bool} {i : Nat} (h : i ∈ Region.ready md ops listed) :
    i < ops.size ∧ listed.getD i true = false ∧ ∀ o, ops[i]? = some o → ∀ e ∈ o.after, Region.binds md e = true → listed.getD e.on false = true := by
  unfold Region.ready at h
  obtain ⟨h1, h2⟩ := List.mem_filter.1 h
  have hi : i < ops.size := by simpa using h1
  simp only [Bool.and_eq_true, Bool.not_eq_true'] at h2
  refine ⟨hi, h2.1, fun o ho e he hb => ?_⟩
  have h3 := h2.2
  rw [ho] at h3
  simp only [Option.map_some, Option.getD_some, Array.all_eq_true'] at h3
  have := h3 e he
  simpa [hb] using this
/-- how many have not come up -/
def still (l : Array Bool) : Nat := l.toList.countP (fun b => !b)
theorem still_set {l : Array Bool} {i : Nat} (h : l.getD i true = false) : still (l.setIfInBounds i true) + 1 = still l := by
  obtain ⟨xs⟩ := l
  unfold still
  simp only [List.setIfInBounds_toArray]
  have hi : xs[i]? = some false := by
    simp only [Array.getD_eq_getD_getElem?, List.getElem?_toArray] at h
    cases hx : xs[i]? with
    | none => rw [hx] at h; cases h
    | some b => rw [hx] at h; simp at h; rw [h]
  clear h
  induction xs generalizing i with
  | nil => simp at hi
  | cons x xs ih =>
    cases i with
    | zero =>
      simp at hi
      subst hi
      simp
    | succ i =>
      have := ih (i := i) (by simpa using hi)
      simp only [List.set_cons_succ, List.countP_cons] at this ⊢
      omega
theorem wpAny_by {P : Program} {md : Region.Mode} {ops : Array Oper} {Q : Exit → Act → World → Prop} (I : Array Bool → Act → World → Prop)
    (hs : ∀ (listed : Array Bool) (a : Act) (w : World) (i : Nat), I listed a w → i ∈ Region.ready md ops listed → wpOp P ops Q i (I (listed.setIfInBounds i true)) a w)
    (hd : ∀ (listed : Array Bool) (a : Act) (w : World), I listed a w → Region.ready md ops listed = [] → Q .normal a w) :
    ∀ (fuel : Nat) (listed : Array Bool) (a : Act) (w : World), I listed a w → still listed ≤ fuel → wpAny P md ops Q fuel listed a w
  | 0, listed, a, w, hI, hn => by
    have hr : Region.ready md ops listed = [] := by
      rw [List.eq_nil_iff_forall_not_mem]
      intro i hi
      have := still_set (ready_listed hi).2.1
      omega
    exact ⟨hr, hd _ _ _ hI hr⟩
  | fuel + 1, listed, a, w, hI, hn => by
    refine ⟨fun hr => hd _ _ _ hI hr, fun i hi => ?_⟩
    have hst := still_set (ready_listed hi).2.1
    exact wpOp_mono (fun a' w' h' => wpAny_by I hs hd fuel _ a' w' h' (by omega)) (hs listed a w i hI hi)
theorem region_by {P : Program} {ops : Array Oper} {Q : Exit → Act → World → Prop} {id : Nat} {a : Act} {w : World} (hm : P.follows .mixedOrders = true) (I : Array Bool → Act → World → Prop)
    (h0 : I (Array.replicate ops.size false) a w.drew)
    (hs : ∀ (listed : Array Bool) (a : Act) (w : World) (i : Nat), I listed a w → i ∈ Region.ready .any ops listed → wpOp P ops Q i (I (listed.setIfInBounds i true)) a w)
    (hd : ∀ (listed : Array Bool) (a : Act) (w : World), I listed a w → Region.ready .any ops listed = [] → Q .normal a w) : (Code.region id ops true).wp P Q a w :=
  wp_region_any hm (wpAny_by I hs hd _ _ _ _ h0 (by unfold still; refine Nat.le_trans List.countP_le_length ?_; simp))
/-- a frame that is as at first but for the slots from 'b' on, 'n' of them -/
structure FrAt (a0 a : Act) (b n : Nat) : Prop where
  size : a.tmps.size = a0.tmps.size
  defs : a.defers = a0.defers
  out : ∀ k, k < b ∨ b + n ≤ k → a.tmps[k]? = a0.tmps[k]?
theorem put_at {a : Act} {d : Nat} {v : Value} (h : d < a.tmps.size) : (a.put (some d) v).tmps[d]? = some v := by
  simp only [Act.put]
  rw [Array.getElem?_setIfInBounds, if_pos rfl, if_pos h]
theorem put_ne {a : Act} {d k : Nat} {v : Value} (h : d ≠ k) : (a.put (some d) v).tmps[k]? = a.tmps[k]? := by
  simp only [Act.put]
  rw [Array.getElem?_setIfInBounds, if_neg h]
theorem FrAt.put {a0 a : Act} {b n j : Nat} (h : FrAt a0 a b n) (hj : j < n) (v : Value) : FrAt a0 (a.put (some (b + j)) v) b n :=
  ⟨by simp only [Act.put]; rw [Array.size_setIfInBounds]; exact h.size, by simp only [Act.put]; exact h.defs, fun k hk => by
    rw [put_ne (by omega)]
    exact h.out k hk⟩
/-- A region whose operations stand in the slots from 'b' on, one behind another: 'H j v w': the j-th yields v, in w, whatever came up ahead of it. -/
theorem region_seq {P : Program} {ops : Array Oper} {Q : Exit → Act → World → Prop} {id : Nat} {a0 : Act} {w0 : World} (hm : P.follows .mixedOrders = true) (b n : Nat) (hsz : ops.size = n) (hbn : b + n ≤ a0.tmps.size)
    (S : World → Prop) (H : Nat → Value → World → Prop) (hS0 : S w0.drew) (hH : ∀ j v w w', H j v w → Below w.heap.size w w' → H j v w')
    (hs : ∀ (a : Act) (w : World) (j : Nat), FrAt a0 a b n → S w → j < n → (∀ o, ops[j]? = some o → ∀ e ∈ o.after, Region.binds .any e = true → ∃ v, a.tmps[b + e.on]? = some v ∧ H e.on v w) →
      wpOp P ops Q j (fun a' w' => ∃ v, a' = a.put (some (b + j)) v ∧ Below w.heap.size w w' ∧ S w' ∧ H j v w') a w)
    (hd : ∀ (a : Act) (w : World), FrAt a0 a b n → S w → (∀ j, j < n → ∃ v, a.tmps[b + j]? = some v ∧ H j v w) → Q .normal a w)
    (hon : ∀ o ∈ ops, ∀ e ∈ o.after, e.on < n) (hup : ∀ (l : Array Bool), l.size = n → Region.ready .any ops l = [] → ∀ j, j < n → l.getD j false = true) :
    (Code.region id ops true).wp P Q a0 w0 := by
  refine region_by hm (fun l a w => l.size = n ∧ FrAt a0 a b n ∧ S w ∧ ∀ j, j < n → l.getD j false = true → ∃ v, a.tmps[b + j]? = some v ∧ H j v w) ?_ ?_ ?_
  · refine ⟨by simpa using hsz, ⟨rfl, rfl, fun _ _ => rfl⟩, hS0, fun j hj h => ?_⟩
    exfalso
    simp [Array.getD_eq_getD_getElem?, Array.getElem?_replicate] at h
    split at h <;> simp at h
  · rintro l a w i ⟨hl, hf, hS, hA⟩ hi
    obtain ⟨h1, h2, h3⟩ := ready_listed hi
    rw [hsz] at h1
    refine wpOp_mono ?_ (hs a w i hf hS h1 (fun o ho e he hb => hA e.on (hon o (by obtain ⟨_, h⟩ := Array.getElem?_eq_some_iff.1 ho; rw [← h]; exact Array.getElem_mem _) e he) (h3 o ho e he hb)))
    rintro a' w' ⟨v, rfl, hb, hS', hv⟩
    refine ⟨by rw [Array.size_setIfInBounds]; exact hl, hf.put h1 v, hS', fun j hj hlj => ?_⟩
    by_cases hji : j = i
    · subst hji
      exact ⟨v, put_at (by rw [hf.size]; omega), hv⟩
    · have hlj2 : l.getD j false = true := by
        rw [Array.getD_eq_getD_getElem?, Array.getElem?_setIfInBounds, if_neg (fun e => hji e.symm)] at hlj
        rw [Array.getD_eq_getD_getElem?]
        exact hlj
      obtain ⟨u, hu, hHu⟩ := hA j hj hlj2
      exact ⟨u, by rw [put_ne (by omega)]; exact hu, hH j u w w' hHu hb⟩
  · rintro l a w ⟨hl, hf, hS, hA⟩ hr
    exact hd a w hf hS fun j hj => hA j hj (hup l hl hr j hj)
/-- where each operation waits for earlier ones only, all have come up when none is ready -/
theorem edges_back {ops : Array Oper} {n : Nat} (hsz : ops.size = n) (h : ((List.range n).all fun i => ((ops[i]?).map fun o => o.after.all fun e => decide (e.on < i)).getD true) = true) : ∀ (i : Nat) (o : Oper), ops[i]? = some o → ∀ e ∈ o.after, e.on < i := by
  intro i o ho e he
  have hi : i < n := by
    have := (Array.getElem?_eq_some_iff.1 ho).1
    omega
  have h1 := List.all_eq_true.1 h i (List.mem_range.2 hi)
  rw [ho] at h1
  simp only [Option.map_some, Option.getD_some, Array.all_eq_true'] at h1
  simpa using h1 e he
theorem all_up {md : Region.Mode} {ops : Array Oper} {n : Nat} (hsz : ops.size = n) (hb : ∀ (i : Nat) (o : Oper), ops[i]? = some o → ∀ e ∈ o.after, e.on < i) (l : Array Bool) (hl : l.size = n) (hr : Region.ready md ops l = []) : ∀ j, j < n → l.getD j false = true := by
  intro j
  induction j using Nat.strongRecOn with
  | ind j ih =>
    intro hj
    have hlj : j < l.size := by omega
    cases hx : l[j] with
    | true => rw [Array.getD_eq_getD_getElem?, Array.getElem?_eq_getElem hlj, hx]; rfl
    | false =>
      exfalso
      have hoj : ops[j]? = some ops[j] := Array.getElem?_eq_getElem (by omega)
      have : j ∈ Region.ready md ops l := by
        unfold Region.ready
        refine List.mem_filter.2 ⟨by simp; omega, ?_⟩
        rw [hoj]
        simp only [Option.map_some, Option.getD_some, Bool.and_eq_true, Bool.not_eq_true', Array.all_eq_true']
        refine ⟨by rw [Array.getD_eq_getD_getElem?, Array.getElem?_eq_getElem hlj, hx]; rfl, fun e he => ?_⟩
        have := ih e.on (hb j _ hoj e he) (by have := hb j _ hoj e he; omega)
        rw [this]
        simp
      rw [hr] at this
      cases this
def putAll (a : Act) : Nat → List Value → Act
  | _, [] => a
  | b, v :: vs => putAll (a.put (some b) v) (b + 1) vs
theorem putAll_at : ∀ (vs : List Value) (a : Act) (b k : Nat), b + vs.length ≤ a.tmps.size → (putAll a b vs).tmps[k]? = if b ≤ k ∧ k < b + vs.length then vs[k - b]? else a.tmps[k]?
  | [], a, b, k, h => by
    rw [if_neg (by simp only [List.length_nil]; omega)]
    rfl
  | v :: vs, a, b, k, h => by
    have hl : (v :: vs).length = vs.length + 1 := rfl
    rw [hl] at h ⊢
    unfold putAll
    rw [putAll_at vs _ (b + 1) k (by simp only [Act.put]; rw [Array.size_setIfInBounds]; omega)]
    by_cases hk : k = b
    · subst hk
      rw [if_neg (by omega), if_pos (by omega), Nat.sub_self, put_at (by omega)]
      rfl
    · by_cases h2 : b + 1 ≤ k ∧ k < b + 1 + vs.length
      · rw [if_pos h2, if_pos (by omega), show k - b = (k - (b + 1)) + 1 by omega, List.getElem?_cons_succ]
      · rw [if_neg h2, if_neg (by omega), put_ne (fun e => hk e.symm)]
theorem putAll_defs : ∀ (vs : List Value) (a : Act) (b : Nat), (putAll a b vs).defers = a.defers
  | [], _, _ => rfl
  | v :: vs, a, b => by unfold putAll; rw [putAll_defs vs]; rfl
/-- the frame behind the region, slot by slot -/
theorem FrAt.eq {a0 a : Act} {b n : Nat} (h : FrAt a0 a b n) (hbn : b + n ≤ a0.tmps.size) (vs : List Value) (hl : vs.length = n) (hv : ∀ j, j < n → a.tmps[b + j]? = vs[j]?) : a = putAll a0 b vs := by
  obtain ⟨T, D⟩ := a
  have h1 : T = (putAll a0 b vs).tmps := by
    apply Array.ext_getElem?
    intro k
    rw [putAll_at vs a0 b k (by omega)]
    split
    · rename_i hk
      have := hv (k - b) (by omega)
      rwa [show b + (k - b) = k by omega] at this
    · exact h.out k (by omega)
  have h2 : D = (putAll a0 b vs).defers := by rw [putAll_defs]; exact h.defs
  rw [h1, h2]
/-- a tell's seven cells -/
structure TE where
  l : Int
  s : Int
  o : Int
  er : Int
  I : Option Addr
  m : Nat
  B : Option Addr
  n : Nat
  room : Int
def TE.cells (e : TE) : List Value := [.int .i64 e.l, .int .i64 e.s, .int .u8 e.o, .int .i64 e.er, .slice e.I e.m e.m, .slice e.B e.n e.n, .int .i64 e.room]
abbrev TE.v (e : TE) : Value := .agg #[.int .i64 e.l, .int .i64 e.s, .int .u8 e.o, .int .i64 e.er, .slice e.I e.m e.m, .slice e.B e.n e.n, .int .i64 e.room]
/-- whether it is right -/
def TE.Is (q : Bool) (w : World) (e : TE) : Prop := ∃ L, IL w e.I e.m L ∧ e.m ≤ 1000000 ∧ ∀ bs : List UInt8, bs.length = e.n → decide (RightT ⟨e.l, e.s, e.o, e.er, L, bs, e.room⟩) = q
theorem TE.Is.below {q : Bool} {w w' : World} {e : TE} (h : e.Is q w) (hb : Below w.heap.size w w') : e.Is q w' := by
  obtain ⟨L, h1, h2, h3⟩ := h
  exact ⟨L, h1.below hb (Nat.le_refl _), h2, h3⟩
theorem te_is (w : World) (e : TE) {q : Bool} (h : e.Is q w) : Calls Try.prog 11 #[.agg #[.int .i64 e.l, .int .i64 e.s, .int .u8 e.o, .int .i64 e.er, .slice e.I e.m e.m, .slice e.B e.n e.n, .int .i64 e.room]] w (Told w q) := by
  obtain ⟨L, h1, h2, h3⟩ := h
  exact rightT_is w e.l e.s e.o e.er e.room h1 h2 e.B e.n e.n (List.replicate e.n 0) (by simp) (h3 _ (by simp))
/-- a row of tells all of which are right, or all of which are not -/
def RowT (q : Bool) (w : World) (z n : Nat) : Prop := ∀ i, i < n → ∃ e : TE, e.Is q w ∧ z < w.heap.size ∧ ∀ j v, e.cells[j]? = some v → w.cell? ⟨z, i * 7 + j, none⟩ = some v
theorem RowT.below {q : Bool} {w w' : World} {z n : Nat} (h : RowT q w z n) (hb : Below w.heap.size w w') : RowT q w' z n := fun i hi => by
  obtain ⟨e, h1, h2, h3⟩ := h i hi
  exact ⟨e, h1.below hb, Nat.lt_of_lt_of_le h2 hb.size, fun j v hj => (hb.cell (p := ⟨z, i * 7 + j, none⟩) h2).trans (h3 j v hj)⟩
theorem te_get : ∀ {L : List TE} {i : Nat} {x : TE} {j : Nat} {v : Value}, L[i]? = some x → x.cells[j]? = some v → (L.flatMap TE.cells)[i * 7 + j]? = some v
  | [], i, p, j, v, h, _ => by simp at h
  | q :: ps, 0, p, j, v, h, hj => by
    simp at h
    subst h
    have : j < q.cells.length := (List.getElem?_eq_some_iff.1 hj).1
    simp only [List.flatMap_cons]
    rw [Nat.zero_mul, Nat.zero_add, List.getElem?_append_left this, hj]
  | q :: ps, i + 1, p, j, v, h, hj => by
    have := te_get (L := ps) (i := i) (by simpa using h) hj
    simp only [List.flatMap_cons] at this ⊢
    have hl : q.cells.length = 7 := rfl
    rw [List.getElem?_append_right (by rw [hl]; omega), hl, show (i + 1) * 7 + j - 7 = i * 7 + j by omega, this]
theorem RowT.mk' {q : Bool} {w : World} {L : List TE} (h : ∀ e ∈ L, e.Is q w) : RowT q (w.alloc (.cells (L.flatMap TE.cells).toArray 34)) w.heap.size L.length := fun i hi => by
  refine ⟨L[i], (h _ (List.getElem_mem hi)).below ((Below.refl _ _).alloc (Nat.le_refl _) _), by rw [size_alloc]; omega, fun j v hj => ?_⟩
  rw [cell_of_row _ w.heap.size _ _ 34 (0, 0) (heap_alloc_new w _), List.getElem?_toArray]
  exact te_get (List.getElem?_eq_getElem hi) hj
theorem InfP.one_il {w : World} (p : InfP) : IL (w.alloc (.cells #[.int .i64 p.stripe, .int .i64 p.index, .int .i64 p.version, .int .u8 p.state] 30)) (some ⟨w.heap.size, 0, none⟩) 1 [p] :=
  il_of_rd rfl (RdV.new w [.int .i64 p.stripe, .int .i64 p.index, .int .i64 p.version, .int .u8 p.state] 30 (0, 0))
theorem InfP.two_il {w : World} (p r : InfP) : IL (w.alloc (.cells #[.int .i64 p.stripe, .int .i64 p.index, .int .i64 p.version, .int .u8 p.state, .int .i64 r.stripe, .int .i64 r.index, .int .i64 r.version, .int .u8 r.state] 30)) (some ⟨w.heap.size, 0, none⟩) 2 [p, r] :=
  il_of_rd rfl (RdV.new w [.int .i64 p.stripe, .int .i64 p.index, .int .i64 p.version, .int .u8 p.state, .int .i64 r.stripe, .int .i64 r.index, .int .i64 r.version, .int .u8 r.state] 30 (0, 0))
end Go.Proofs.Ytmiapegecoaccaa
