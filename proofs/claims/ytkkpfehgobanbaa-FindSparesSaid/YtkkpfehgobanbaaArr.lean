/- Words for memory: an array by value that lies at any place of a block; all but some blocks stay as they were. Nothing here speaks of one program. -/
import Derived.Test.YtkkpfehgobanbaaVals
import Derived.Laws.Rows
import Derived.Laws.Tables
namespace Go.Coop
open Go.RowKit
set_option maxRecDepth 100000

/-- but for these blocks the world is as it was -/
structure But (gs : List Nat) (w w' : World) : Prop where
  os : w'.os = w.os
  tape : w'.tape = w.tape
  output : w'.output = w.output
  size : w.heap.size ≤ w'.heap.size
  block : ∀ k, k < w.heap.size → k ∉ gs → w'.heap[k]? = w.heap[k]?
theorem But.refl (gs : List Nat) (w : World) : But gs w w := ⟨rfl, rfl, rfl, Nat.le_refl _, fun _ _ _ => rfl⟩
theorem But.trans {gs : List Nat} {a b c : World} (h : But gs a b) (k : But gs b c) : But gs a c :=
  ⟨k.os.trans h.os, k.tape.trans h.tape, k.output.trans h.output, Nat.le_trans h.size k.size, fun i hi hg => (k.block i (by have := h.size; omega) hg).trans (h.block i hi hg)⟩
/-- what the second step writes was among the first one's blocks, or is new -/
theorem But.trans' {gs hs : List Nat} {a b c : World} (h : But gs a b) (k : But hs b c) (hn : ∀ i, i ∈ hs → i ∈ gs ∨ a.heap.size ≤ i) : But gs a c :=
  ⟨k.os.trans h.os, k.tape.trans h.tape, k.output.trans h.output, Nat.le_trans h.size k.size, fun i hi hg => (k.block i (by have := h.size; omega) (fun hm => by rcases hn i hm with e | e; exact hg e; omega)).trans (h.block i hi hg)⟩
theorem But.mono {gs hs : List Nat} {a b : World} (h : But gs a b) (e : ∀ k, k ∈ gs → k ∈ hs) : But hs a b := ⟨h.os, h.tape, h.output, h.size, fun k hk hg => h.block k hk fun hh => hg (e k hh)⟩
theorem But.drew {gs : List Nat} {a w : World} (h : But gs a w) : But gs a w.drew := ⟨h.os, h.tape, h.output, h.size, h.block⟩
theorem But.drewN {gs : List Nat} {a w : World} (h : But gs a w) (n : Nat) : But gs a (w.drewN n) := ⟨h.os, h.tape, h.output, h.size, h.block⟩
theorem But.of_below {gs : List Nat} {a b : World} (h : Below a.heap.size a b) : But gs a b := ⟨h.os, h.tape, h.output, h.size, fun k hk _ => h.block k hk⟩
theorem But.alloc {gs : List Nat} {a w : World} (h : But gs a w) (o : Obj) : But gs a (w.alloc o) := h.trans (But.of_below ((Below.refl _ _).alloc (Nat.le_refl _) o))
theorem But.setCell {gs : List Nat} {a w : World} (h : But gs a w) {p : Addr} (hp : p.block ∈ gs) (u : Value) : But gs a (w.setCell p u) :=
  ⟨h.os, h.tape, h.output, by have := h.size; simpa using this, fun k hk hg => (Below.heap_setCell _ _ _ _ (by rintro rfl; exact hg hp)).trans (h.block k hk hg)⟩
theorem But.setRow {gs : List Nat} {a w : World} (h : But gs a w) {g : Nat} (hp : g ∈ gs) (cs : Array Value) : But gs a (w.setRow g cs) :=
  ⟨h.os, h.tape, h.output, by have := h.size; simpa using this, fun k hk hg => (setRow_other _ _ _ _ (by rintro rfl; exact hg hp)).trans (h.block k hk hg)⟩
theorem But.grown {gs : List Nat} {a w w' : World} {row : Option Nat} (h : But gs a w) (hg : w.grownBy w' row) (hr : ∀ k, row = some k → k ∈ gs) : But gs a w' :=
  ⟨hg.os.trans h.os, hg.tape.trans h.tape, hg.output.trans h.output, Nat.le_trans h.size hg.size, fun k hk hm => (hg.block k (by have := h.size; omega) (fun e => hm (hr k e.symm))).trans (h.block k hk hm)⟩
theorem But.cells {gs : List Nat} {w w' : World} (h : But gs w w') {g : Nat} {o : Obj} (hg : w.heap[g]? = some o) (hn : g ∉ gs) : w'.heap[g]? = some o :=
  (h.block g (Array.getElem?_eq_some_iff.1 hg).1 hn).trans hg
/-- seen from below all of the blocks -/
theorem But.below {gs : List Nat} {w w' : World} {B : Nat} (h : But gs w w') (hB : B ≤ w.heap.size) (hg : ∀ g, g ∈ gs → B ≤ g) : Below B w w' :=
  ⟨h.os, h.tape, h.output, h.size, fun k hk => h.block k (by omega) fun hm => by have := hg k hm; omega⟩
theorem But.none {w w' : World} (h : But [] w w') : Below w.heap.size w w' := h.below (Nat.le_refl _) (by simp)

theorem addr_at (g k j : Nat) : (⟨g, k, none⟩ : Addr).add j = ⟨g, k + j, none⟩ := by unfold Addr.add; split <;> simp_all

section
variable {P : Program}
/-- an array, by value, out of the place a -/
theorem run_loadVar_at (w : World) (a : Addr) (ty : TypeId) (vs : List Value) (d : TypeDesc) (hc : ∀ j v, vs[j]? = some v → w.cell? (a.add j) = some v)
    (hu : P.underlying ty = some d) (hd : (match d with | .struct _ | .array _ _ => true | _ => false) = true) (hi : (P.info? ty).map (·.size) = some vs.length) :
    (loadVar ty a).run P w = .ok (.agg vs.toArray) w := by
  have hl : (loadCells a vs.length).run P w = .ok vs.toArray w := run_loadCells_list (P := P) w a vs hc
  cases hq : P.info? ty with
  | none => simp [hq] at hi
  | some i =>
    have hs : i.size = vs.length := by simpa [hq] using hi
    have hagg : (isAgg ty).run P w = .ok true w := by
      unfold isAgg
      rw [Sem.run_bind, run_underlying hu w]
      cases d <;> simp_all
    simp [loadVar, Sem.run_bind, hagg, sizeOf, typeInfo, hq, hs, hl]
theorem run_loadAt_at (w : World) (a : Addr) (ty : TypeId) (vs : List Value) (d : TypeDesc) (hc : ∀ j v, vs[j]? = some v → w.cell? (a.add j) = some v)
    (hu : P.underlying ty = some d) (hd : (match d with | .struct _ | .array _ _ => true | _ => false) = true) (hi : (P.info? ty).map (·.size) = some vs.length) :
    (Instr.loadAt ty (.pointer (some a))).run P w = .ok (.agg vs.toArray) w := by
  simp only [Instr.loadAt, Instr.sureAddr, Sem.run_bind, Sem.run_pure, Result.andThen_ok, run_loadVar_at w a ty vs d hc hu hd hi]
theorem wp_load_at {o : Oper} {a : Act} {w : World} {K : Act → World → Prop} {Q : Exit → Act → World → Prop} (ty : TypeId) (x : Operand) (ho : o.op = .load ty x)
    (ad : Addr) (hx : a.eval x = .pointer (some ad)) (vs : List Value) (d : TypeDesc) (hc : ∀ j v, vs[j]? = some v → w.cell? (ad.add j) = some v)
    (hu : P.underlying ty = some d) (hd : (match d with | .struct _ | .array _ _ => true | _ => false) = true) (hi : (P.info? ty).map (·.size) = some vs.length)
    (h : K (a.put o.dst (.agg vs.toArray)) w) : o.wp P a w K Q := by
  unfold Oper.wp execOp
  simp only [ho, hx, Sem.run_bind, run_loadAt_at w ad ty vs d hc hu hd hi, Result.andThen_ok]
  exact h
theorem wpList_load_at {ops : Array Oper} {rest : List Oper} {o : Oper} {a : Act} {w : World} {Q : Exit → Act → World → Prop} (hgd : o.guard = none) (ty : TypeId) (x : Operand) (ho : o.op = .load ty x)
    (ad : Addr) (hx : a.eval x = .pointer (some ad)) (vs : List Value) (d : TypeDesc) (hc : ∀ j v, vs[j]? = some v → w.cell? (ad.add j) = some v)
    (hu : P.underlying ty = some d) (hd : (match d with | .struct _ | .array _ _ => true | _ => false) = true) (hi : (P.info? ty).map (·.size) = some vs.length)
    (h : wpList P ops Q rest (a.put o.dst (.agg vs.toArray)) w) : wpList P ops Q (o :: rest) a w :=
  wpList_plain hgd fun _ hK => wp_load_at ty x ho ad hx vs d hc hu hd hi (hK _ _ h)

theorem storeCells_add (a : Addr) (k : Nat) : ∀ (vs : List Value) (i : Nat), storeCells (a.add k) vs i = storeCells a vs (k + i)
  | [], _ => rfl
  | v :: r, i => by
    simp only [storeCells]
    rw [addr_add_add, storeCells_add a k r (i + 1)]
    rfl

/-- an array, by value, into a place of a block: what lies before and behind it stays -/
theorem run_storeCells_in (g T : Nat) : ∀ (vs l m r : List Value) (w : World), w.heap[g]? = some (.cells (l ++ m ++ r).toArray T (0, 0)) → m.length = vs.length → (∀ v ∈ vs, v.oneCell' = true) →
    (storeCells ⟨g, 0, none⟩ vs l.length).run P w = .ok () (w.setRow g (l ++ vs ++ r).toArray)
  | [], l, m, r, w, hg, hl, _ => by
    obtain rfl : m = [] := List.eq_nil_of_length_eq_zero hl
    have hlt : g < w.heap.size := (Array.getElem?_eq_some_iff.1 hg).1
    have hv : w.heap[g] = .cells (l ++ [] ++ r).toArray T (0, 0) := (Array.getElem?_eq_some_iff.1 hg).2
    simp only [storeCells]
    show Result.ok () w = _
    congr 1
    unfold World.setRow
    cases w with
    | mk heap tape drawn os output =>
      congr 1
      apply Array.ext
      · simp
      · intro k h1 h2
        simp only [Array.getElem_modify]
        split
        · rename_i hk; subst hk; simp at hv; simp [hv]
        · rfl
  | v :: rest, l, m, r, w, hg, hl, h1 => by
    obtain ⟨u, m', rfl⟩ : ∃ u m', m = u :: m' := by
      cases m with
      | nil => simp at hl
      | cons u m' => exact ⟨u, m', rfl⟩
    have hcell : w.cell? ⟨g, l.length, none⟩ = some u := by simp [World.cell?, hg]
    have hfro : w.frozen? ⟨g, l.length, none⟩ = false := by simp [World.frozen?, hg]
    have hset : (l ++ u :: m' ++ r).toArray.setIfInBounds l.length v = (l ++ [v] ++ m' ++ r).toArray := by
      simp [List.set_append]
    have hst : (store ((⟨g, 0, none⟩ : Addr).add l.length) v).run P w = .ok () (w.setRow g (l ++ [v] ++ m' ++ r).toArray) := by
      rw [addr_at, Nat.zero_add, run_store P w _ v _ (h1 v (by simp)), hcell]
      simp only [hfro, setCell_eq_setRow w g l.length _ T (0, 0) v hg, hset]
      rfl
    have ih := run_storeCells_in g T rest (l ++ [v]) m' r (w.setRow g (l ++ [v] ++ m' ++ r).toArray) (setRow_heap w g _ _ T _ hg) (by simpa using hl) (fun x hx => h1 x (by simp [hx]))
    simp only [List.length_append, List.length_cons, List.length_nil, Nat.zero_add] at ih
    simp only [storeCells, Sem.run_bind, hst, Result.andThen_ok, ih, setRow_setRow]
    congr 3
    simp

theorem run_storeAt_in (w : World) (g k T ty : Nat) (l m r vs : List Value) (hg : w.heap[g]? = some (.cells (l ++ m ++ r).toArray T (0, 0))) (hk : l.length = k) (hm : m.length = vs.length)
    (hi : (P.info? ty).map (·.size) = some vs.length) (h1 : ∀ v ∈ vs, v.oneCell' = true) :
    (Instr.storeAt ty (.pointer (some ⟨g, k, none⟩)) (.agg vs.toArray)).run P w = .ok () (w.setRow g (l ++ vs ++ r).toArray) := by
  subst hk
  have := run_storeCells_in (P := P) g T vs l m r w hg hm h1
  have e : storeCells ⟨g, l.length, none⟩ vs 0 = storeCells ⟨g, 0, none⟩ vs l.length := by
    have := storeCells_add ⟨g, 0, none⟩ l.length vs 0
    rw [addr_at] at this
    simpa using this
  cases hq : P.info? ty with
  | none => simp [hq] at hi
  | some i =>
    have hs : vs.length = i.size := by simp [hq] at hi; omega
    simp [Instr.storeAt, Instr.sureAddr, storeVar, sizeOf, typeInfo, hq, Value.cells, hs, e, this]
theorem wp_store_in {o : Oper} {a : Act} {w : World} {K : Act → World → Prop} {Q : Exit → Act → World → Prop} (ty : TypeId) (x y : Operand) (ho : o.op = .store ty x y)
    (g k T : Nat) (l m r vs : List Value) (hx : a.eval x = .pointer (some ⟨g, k, none⟩)) (hy : a.eval y = .agg vs.toArray)
    (hg : w.heap[g]? = some (.cells (l ++ m ++ r).toArray T (0, 0))) (hk : l.length = k) (hm : m.length = vs.length)
    (hi : (P.info? ty).map (·.size) = some vs.length) (h1 : ∀ v ∈ vs, v.oneCell' = true)
    (h : K (a.put o.dst undef) (w.setRow g (l ++ vs ++ r).toArray)) : o.wp P a w K Q := by
  unfold Oper.wp execOp
  simp only [ho, hx, hy, Sem.run_bind, run_storeAt_in w g k T ty l m r vs hg hk hm hi h1, Result.andThen_ok]
  exact h
theorem wpList_store_in {ops : Array Oper} {rest : List Oper} {o : Oper} {a : Act} {w : World} {Q : Exit → Act → World → Prop} (hgd : o.guard = none) (ty : TypeId) (x y : Operand) (ho : o.op = .store ty x y)
    (g k T : Nat) (l m r vs : List Value) (hx : a.eval x = .pointer (some ⟨g, k, none⟩)) (hy : a.eval y = .agg vs.toArray)
    (hg : w.heap[g]? = some (.cells (l ++ m ++ r).toArray T (0, 0))) (hk : l.length = k) (hm : m.length = vs.length)
    (hi : (P.info? ty).map (·.size) = some vs.length) (h1 : ∀ v ∈ vs, v.oneCell' = true)
    (h : wpList P ops Q rest (a.put o.dst undef) (w.setRow g (l ++ vs ++ r).toArray)) : wpList P ops Q (o :: rest) a w :=
  wpList_plain hgd fun _ hK => wp_store_in ty x y ho g k T l m r vs hx hy hg hk hm hi h1 (hK _ _ h)
end
end Go.Coop
