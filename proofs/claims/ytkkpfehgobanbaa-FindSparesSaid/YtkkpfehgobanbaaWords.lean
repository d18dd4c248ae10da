/- Words for memory that the proofs of this seat share: a slice that reads as bytes, a row of the call's own that holds bytes, an append of one onto the other. Nothing here speaks of one program. -/
import Derived.WalkKit
import Derived.Below
import Derived.Laws.OwnMore
import Derived.Maps.AppendAt
import Derived.Deep.Draws
import Derived.Lib.Hide
import Derived.OwnWalk
import Derived.Deep.RegionLaw
import Derived.Laws.BytesArg
import Derived.Lib.ConvBytes
namespace Go.Coop
open Go.RowKit
set_option maxRecDepth 100000

/-- A byte, as the model's value. -/
def BV (c : UInt8) : Value := .int .u8 (c.toNat : Int)
def bvs (l : List UInt8) : List Value := l.map BV

theorem bv_of (x : Int) (h0 : 0 ≤ x) (h1 : x < 256) : Value.int .u8 x = BV (UInt8.ofNat x.toNat) := by
  unfold BV
  rw [UInt8.toNat_ofNat']
  congr 1
  omega
theorem bvs_length (l : List UInt8) : (bvs l).length = l.length := by simp [bvs]
theorem bvs_append (a b : List UInt8) : bvs (a ++ b) = bvs a ++ bvs b := by simp [bvs]
theorem bvs_at {l : List UInt8} {j : Nat} {u : Value} (h : (bvs l)[j]? = some u) : ∃ c, l[j]? = some c ∧ u = BV c := by
  simp only [bvs, List.getElem?_map, Option.map_eq_some_iff] at h
  obtain ⟨c, hc, e⟩ := h
  exact ⟨c, hc, e.symm⟩
theorem bvs_at' {l : List UInt8} {j : Nat} {c : UInt8} (h : l[j]? = some c) : (bvs l)[j]? = some (BV c) := by
  simp [bvs, List.getElem?_map, h]
theorem bvs_one (l : List UInt8) : ∀ u ∈ bvs l, u.oneCell' = true := by
  intro u hu
  simp only [bvs, List.mem_map] at hu
  obtain ⟨c, _, rfl⟩ := hu
  rfl

theorem addr_add_block (a : Addr) (n : Nat) : (a.add n).block = a.block := by unfold Addr.add; split <;> rfl
theorem addr_add_add (a : Addr) (i j : Nat) : (a.add i).add j = a.add (i + j) := by
  unfold Addr.add
  by_cases hi : i = 0 <;> by_cases hj : j = 0 <;> simp [hi, hj, Nat.add_assoc]

/-- Where a slice's piece from k on lies (one byte an element): the model keeps the address at the capacity's end. -/
def cutA (A : Option Addr) (cap k : Nat) : Option Addr := if cap = k then A else A.map (·.add k)

/-- The slice at A of n elements reads, in w, as the bytes l. (Where there are none nothing is asked of A.) -/
structure Rd (w : World) (A : Option Addr) (n : Nat) (l : List UInt8) : Prop where
  len : l.length = n
  cells : 0 < n → ∃ ad, A = some ad ∧ ad.block < w.heap.size ∧ ∀ j c, l[j]? = some c → w.cell? (ad.add j) = some (BV c)

/-- The slice at A of n elements, capacity c, is a row among the blocks from base on that holds the bytes l (or it is nil, and l is empty). -/
structure Own (w : World) (base E : Nat) (A : Option Addr) (n c : Nat) (l : List UInt8) : Prop where
  len : l.length = n
  row : w.ownsRow base E 1 (.slice A n c) n (bvs l)

section
variable {w w' : World} {A : Option Addr} {n : Nat} {l : List UInt8}

theorem Rd.nil (w : World) (A : Option Addr) : Rd w A 0 [] := ⟨rfl, fun h => absurd h (by omega)⟩

theorem Rd.keep (h : Rd w A n l) (hs : w.heap.size ≤ w'.heap.size) (hk : ∀ p : Addr, p.block < w.heap.size → w'.cell? p = w.cell? p) : Rd w' A n l :=
  ⟨h.len, fun hn => by
    obtain ⟨ad, e, hb, hc⟩ := h.cells hn
    exact ⟨ad, e, by omega, fun j c hj => (hk _ (by rw [addr_add_block]; exact hb)).trans (hc j c hj)⟩⟩
theorem Rd.below {B : Nat} (h : Rd w A n l) (hb : Below B w w') (hB : w.heap.size ≤ B) : Rd w' A n l := h.keep hb.size fun _ hp => hb.cell (by omega)
theorem Rd.drew (h : Rd w A n l) : Rd w.drew A n l := ⟨h.len, h.cells⟩
theorem Rd.drewN (h : Rd w A n l) (k : Nat) : Rd (w.drewN k) A n l := ⟨h.len, h.cells⟩
theorem Rd.alloc (h : Rd w A n l) (o : Obj) : Rd (w.alloc o) A n l := h.below ((Below.refl w.heap.size w).alloc (Nat.le_refl _) o) (Nat.le_refl _)

/-- a cell of it -/
theorem Rd.at_ {k : Nat} (h : Rd w A n l) (hk : k < n) : ∃ ad c, A = some ad ∧ ad.block < w.heap.size ∧ l[k]? = some c ∧ w.cell? (ad.add k) = some (BV c) := by
  obtain ⟨ad, e, hb, hc⟩ := h.cells (by omega)
  have hl : k < l.length := by have := h.len; omega
  exact ⟨ad, l[k], e, hb, List.getElem?_eq_getElem hl, hc k _ (List.getElem?_eq_getElem hl)⟩

/-- the first k of it -/
theorem Rd.take {k : Nat} (h : Rd w A n l) (hk : k ≤ n) : Rd w A k (l.take k) :=
  ⟨by have := h.len; simp; omega, fun h0 => by
    obtain ⟨ad, e, hb, hc⟩ := h.cells (by omega)
    refine ⟨ad, e, hb, fun j c hj => hc j c ?_⟩
    rw [List.getElem?_take] at hj
    split at hj
    · exact hj
    · cases hj⟩
/-- from k on, at the address that the model makes -/
theorem Rd.drop {k cap : Nat} (h : Rd w A n l) (hk : k ≤ n) (hc : n ≤ cap) : Rd w (cutA A cap k) (n - k) (l.drop k) :=
  ⟨by have := h.len; simp; omega, fun h0 => by
    obtain ⟨ad, rfl, hb, hcell⟩ := h.cells (by omega)
    unfold cutA
    rw [if_neg (by omega)]
    refine ⟨ad.add k, rfl, by rw [addr_add_block]; exact hb, fun j c hj => ?_⟩
    rw [addr_add_add]
    exact hcell _ _ (by rwa [List.getElem?_drop] at hj)⟩

/-- a block that was just made and holds these bytes -/
theorem Rd.new (w : World) (l : List UInt8) (cs : Array Value) (E : TypeId) (fr : Nat × Nat) (h : ∀ (j : Nat) (c : UInt8), l[j]? = some c → cs[j]? = some (BV c)) : Rd (w.alloc (.cells cs E fr)) (some ⟨w.heap.size, 0, none⟩) l.length l :=
  ⟨rfl, fun _ => ⟨_, rfl, by simp, fun j c hj => by
    have hadd : (⟨w.heap.size, 0, none⟩ : Addr).add j = ⟨w.heap.size, j, none⟩ := by unfold Addr.add; split <;> simp_all
    rw [hadd, cell_of_row _ w.heap.size j cs E fr (heap_alloc_new w _)]
    exact h j c hj⟩⟩

theorem Rd.one (w : World) (x : Int) (h0 : 0 ≤ x) (h1 : x < 256) (E : TypeId) (fr : Nat × Nat) : Rd (w.alloc (.cells #[.int .u8 x] E fr)) (some ⟨w.heap.size, 0, none⟩) 1 [UInt8.ofNat x.toNat] :=
  Rd.new w [UInt8.ofNat x.toNat] _ E fr fun j c hj => by
    match j, hj with
    | 0, hj => simp at hj; subst hj; simp [bv_of x h0 h1]

theorem Own.rd {base E c : Nat} (h : Own w base E A n c l) : Rd w A n l :=
  ⟨h.len, fun hn => by
    rcases h.row.2 with ⟨hv, h0⟩ | ⟨g, cap, cur, hv, hb, hg, _⟩
    · omega
    · injection hv with hA _ _
      subst hA
      exact ⟨_, rfl, (Array.getElem?_eq_some_iff.1 hg).1, fun j c hj => h.row.cells (g := g) rfl j _ (bvs_at' hj)⟩⟩
theorem Own.nil (w : World) (base E : Nat) : Own w base E none 0 0 [] := ⟨rfl, World.ownsRow_nil w base E 1⟩
theorem Own.block {base E c : Nat} (h : Own w base E A n c l) : ∀ k, A.map (·.block) = some k → base ≤ k ∧ k < w.heap.size := by
  intro k hk
  refine h.row.lt k ?_
  cases A with
  | none => cases hk
  | some a => simpa [Value.ownBlock] using hk
theorem Own.cap {base E c : Nat} (h : Own w base E A n c l) : n ≤ c := by
  rcases h.row.2 with ⟨hv, h0⟩ | ⟨g, cap, cur, hv, _, _, hc, _⟩
  · omega
  · injection hv with _ _ h3; omega
theorem Own.kept {base E c : Nat} {row : Option Nat} (h : Own w base E A n c l) (hg : w.grownBy w' row) (hne : A.map (·.block) = none ∨ A.map (·.block) ≠ row) : Own w' base E A n c l :=
  ⟨h.len, h.row.kept hg (by cases A with
    | none => exact .inl rfl
    | some a => rcases hne with e | e
                · cases e
                · exact .inr (by simpa [Value.ownBlock] using e))⟩
theorem Own.below {base E c B : Nat} (h : Own w base E A n c l) (hb : Below B w w') (hB : w.heap.size ≤ B) : Own w' base E A n c l :=
  h.kept (row := none) ⟨hb.os, hb.tape, hb.output, hb.size, fun k hk _ => hb.block k (by omega)⟩ (by cases A <;> simp)
theorem Own.drew {base E c : Nat} (h : Own w base E A n c l) : Own w.drew base E A n c l := ⟨h.len, h.row⟩
theorem Own.drewN {base E c : Nat} (h : Own w base E A n c l) (k : Nat) : Own (w.drewN k) base E A n c l := ⟨h.len, h.row⟩
theorem Own.alloc {base E c : Nat} (h : Own w base E A n c l) (o : Obj) : Own (w.alloc o) base E A n c l := ⟨h.len, h.row.alloc o⟩
theorem Own.lower {base base' E c : Nat} (h : Own w base E A n c l) (hb : base' ≤ base) : Own w base' E A n c l := by
  refine ⟨h.len, h.row.1, ?_⟩
  rcases h.row.2 with hn | ⟨g, cap, cur, hv, hg, r⟩
  · exact .inl hn
  · exact .inr ⟨g, cap, cur, hv, by omega, r⟩
end

section
variable {P : Program} (w : World)

/-- 'string(b)' -/
theorem conv_str {src E dst : TypeId} (hs : P.underlying src = some (.slice E)) (he : P.underlying E = some (.int .u8)) (hd : P.underlying dst = some .string) {w : World} {A : Option Addr} {n : Nat} {l : List UInt8} (hr : Rd w A n l) (c : Nat) :
    (convert src dst (.slice A n c)).run P w = .ok (.string ⟨l.toArray⟩) w := by
  rw [run_convert_bytes_string w src dst E A n c hs he hd]
  cases A with
  | none =>
    have h0 : n = 0 := by
      rcases Nat.eq_zero_or_pos n with h0 | h0
      · exact h0
      · obtain ⟨ad, h, _⟩ := hr.cells h0
        cases h
    have hl : l = [] := List.eq_nil_of_length_eq_zero (by rw [hr.len]; exact h0)
    subst hl
    simp [Conv.bytesToString]
    rfl
  | some ad =>
    have hl : (loadCells ad n).run P w = .ok ((l.map fun c => (c.toNat : Int)).map (Value.int .u8)).toArray w := by
      have := run_loadCells_list (P := P) w ad (bvs l) (fun j v hj => by
        obtain ⟨c', hc', rfl⟩ := bvs_at hj
        obtain ⟨ad', h, _, hc⟩ := hr.cells (by have := hr.len; have := (List.getElem?_eq_some_iff.1 hc').1; omega)
        injection h with h
        subst h
        exact hc j c' hc')
      rw [bvs_length, hr.len] at this
      rw [this]
      simp [bvs, BV]
    rw [run_bytesToString w ad n c _ hl, foldl_push_bytes]
    have e : (List.map (fun c : UInt8 => (c.toNat : Int)) l).map (fun n => UInt8.ofNat n.toNat) = l := by
      rw [List.map_map]
      have : ((fun n : Int => UInt8.ofNat n.toNat) ∘ fun c : UInt8 => (c.toNat : Int)) = id := by funext c; simp
      rw [this, List.map_id]
    rw [e]
    congr 2
    show ByteArray.mk (#[] ++ l.toArray) = ByteArray.mk l.toArray
    rw [Array.empty_append]
theorem rd_bytes (w : World) (E : TypeId) (s : ByteArray) : Rd (Lib.bytesWorld w E s) (some ⟨w.heap.size, 0, none⟩) s.size s.data.toList :=
  ⟨Array.length_toList, fun _ => ⟨_, rfl, by rw [Lib.bytesWorld_size]; exact Nat.lt_succ_self _, fun j c hj => by
    have hj' : j < s.size := by have := (List.getElem?_eq_some_iff.1 hj).1; rwa [Array.length_toList] at this
    have hadd : (⟨w.heap.size, 0, none⟩ : Addr).add j = ⟨w.heap.size, j, none⟩ := by unfold Addr.add; split <;> simp_all
    rw [hadd, Lib.bytesWorld_cell w E s j hj', List.getD_eq_getElem?_getD, hj]
    rfl⟩⟩
theorem below_bytes (w : World) (E : TypeId) (s : ByteArray) : Below w.heap.size w (Lib.bytesWorld w E s) :=
  ⟨rfl, rfl, rfl, by rw [Lib.bytesWorld_size]; omega, fun k hk => Lib.bytesWorld_at_old w E s k hk⟩

/-- 'b[lo:hi]' of a slice of bytes; 'b[lo:]' -/
theorem slice_lh {E : TypeId} (t : TypeId) (ht : P.underlying t = some (.slice E)) (hi : (P.info? E).map (fun i => (i.zero, i.size, i.bytes)) = some (some (.int .u8 0), 1, 1)) (A : Option Addr) (n c x y : Nat) (hxy : x ≤ y) (hyc : y ≤ c) (w : World) :
    (Instr.slice t (.slice A n c) (some (.int .i64 (x : Int))) (some (.int .i64 (y : Int))) none).run P w = .ok (.slice (cutA A c x) (y - x) (c - x)) w := by
  obtain ⟨i, hi, hz, h1, h2⟩ := info_parts hi
  have he : P.elem t = E := by simp [Program.elem, ht]
  have hb : (Instr.sliceBounds true n c (some (.int .i64 (x : Int))) (some (.int .i64 (y : Int))) none).run P w = .ok (x, y, c) w := by
    simp [Instr.sliceBounds, run_sliceBound, *]
  rw [run_slice_any w t A n c (by rw [he]; exact ht), hb, he]
  simp [sizeOf, typeInfo, hi, h1, sliced, cutA, Result.andThen]
theorem slice_l {E : TypeId} (t : TypeId) (ht : P.underlying t = some (.slice E)) (hi : (P.info? E).map (fun i => (i.zero, i.size, i.bytes)) = some (some (.int .u8 0), 1, 1)) (A : Option Addr) (n c x : Nat) (hx : x ≤ n) (w : World) :
    (Instr.slice t (.slice A n c) (some (.int .i64 (x : Int))) none none).run P w = .ok (.slice (cutA A c x) (n - x) (c - x)) w := by
  obtain ⟨i, hi, hz, h1, h2⟩ := info_parts hi
  have he : P.elem t = E := by simp [Program.elem, ht]
  have hb : (Instr.sliceBounds true n c (some (.int .i64 (x : Int))) none none).run P w = .ok (x, n, c) w := by
    simp [Instr.sliceBounds, run_sliceBound, *]
  rw [run_slice_any w t A n c (by rw [he]; exact ht), hb, he]
  simp [sizeOf, typeInfo, hi, h1, sliced, cutA, Result.andThen]

theorem run_app (base : Nat) (t ty E : TypeId) (ht : P.underlying t = some (.slice E)) (hi : (P.info? E).map (fun i => (i.zero, i.size, i.bytes)) = some (some (.int .u8 0), 1, 1))
    {A : Option Addr} {n c : Nat} {l : List UInt8} (hown : Own w base E A n c l) {B : Option Addr} {m : Nat} {k : List UInt8} (d : Nat) (hr : Rd w B m k) (hsz : n + m ≤ 140737488355328) (hbase : base ≤ w.heap.size) (N : Nat) (hN : N = n + m) :
    ∃ A' c' w', (Builtin.append_ #[t, t] ty #[.slice A n c, .slice B m d]).run P w = .ok (.slice A' N c') w' ∧ Own w' base E A' N c' (l ++ k) ∧ w.grownBy w' (A.map (·.block)) ∧
      (A'.map (·.block) = A.map (·.block) ∨ A'.map (·.block) = some w.heap.size) := by
  subst hN
  obtain ⟨i, hi, hz, h1, h2⟩ := info_parts hi
  have ob : ∀ (X : Option Addr) (p q : Nat), (Value.slice X p q).ownBlock = X.map (·.block) := by intro X p q; cases X <;> rfl
  rcases B with _ | ad
  · have hm : m = 0 := by
      rcases Nat.eq_zero_or_pos m with h0 | h0
      · exact h0
      · obtain ⟨ad, h, _⟩ := hr.cells h0
        cases h
    subst hm
    have hk : k = [] := List.eq_nil_of_length_eq_zero hr.len
    subst hk
    refine ⟨A, c, w, ?_, by simpa using hown, World.grownBy.refl w _, .inl rfl⟩
    rcases hown.row.2 with ⟨hv, rfl⟩ | ⟨g, cap, cur, hv, _, _, hnc, _⟩
    · rw [hv]; simp [Builtin.append_, run_underlying ht, sizeOf, typeInfo, hi, Builtin.lenOf, Builtin.firstCells]
    · injection hv with a b c
      subst a c
      simp [Builtin.append_, run_underlying ht, sizeOf, typeInfo, hi, Builtin.lenOf, Builtin.firstCells, hnc, storeCells]
  · have hcells : ∀ j u, (bvs k)[j]? = some u → w.cell? (ad.add j) = some u := by
      intro j u hu
      obtain ⟨c', hc', rfl⟩ := bvs_at hu
      rcases Nat.eq_zero_or_pos m with h0 | h0
      · subst h0
        have hk : k = [] := List.eq_nil_of_length_eq_zero hr.len
        subst hk
        simp at hc'
      · obtain ⟨ad', h, _, hc⟩ := hr.cells h0
        injection h with h
        subst h
        exact hc j c' hc'
    obtain ⟨v', w', hrun, h2', h3, _, h5⟩ := run_append_own_at (P := P) w base t ty E i (.int .u8 0) 1 1 ht hi hz h1 h2 rfl (by omega) (.slice A n c) n (bvs l) hown.row ad m d (bvs k) (by rw [bvs_length, hr.len]; omega) hcells (bvs_one k) (by simp only [maxLen]; omega) (by omega) hbase
    obtain ⟨A', c', rfl⟩ : ∃ A' c', v' = .slice A' (n + m) c' := by
      rcases h2'.2 with ⟨rfl, h0⟩ | ⟨g, cap, cur, rfl, _⟩
      · exact ⟨none, 0, by rw [h0]⟩
      · exact ⟨_, _, rfl⟩
    refine ⟨A', c', w', hrun, ⟨by rw [List.length_append, hown.len, hr.len], by rw [bvs_append]; exact h2'⟩, ?_, ?_⟩
    · rwa [ob] at h3
    · rwa [ob, ob] at h5

theorem wp_app {o : Oper} {a : Act} {K : Act → World → Prop} {Q : Exit → Act → World → Prop} (s x : Operand) (t : TypeId)
    (ho : o.op = .call { callee := .builtin .append, args := #[s, x], argTypes := #[t, t] })
    (base : Nat) (E : TypeId) (ht : P.underlying t = some (.slice E)) (hi : (P.info? E).map (fun i => (i.zero, i.size, i.bytes)) = some (some (.int .u8 0), 1, 1))
    {A : Option Addr} {n c : Nat} {l : List UInt8} (hs : a.eval s = .slice A n c) (hown : Own w base E A n c l) {B : Option Addr} {m d : Nat} {k : List UInt8} (hx : a.eval x = .slice B m d) (hr : Rd w B m k)
    (hsz : n + m ≤ 140737488355328) (hbase : base ≤ w.heap.size) (N : Nat) (hN : N = n + m)
    (h : ∀ A' c' w', Own w' base E A' N c' (l ++ k) → w.grownBy w' (A.map (·.block)) → (A'.map (·.block) = A.map (·.block) ∨ A'.map (·.block) = some w.heap.size) → K (a.put o.dst (.slice A' N c')) w') : o.wp P a w K Q := by
  obtain ⟨A', c', w', hrun, h2, h3, h4⟩ := run_app (P := P) w base t o.type E ht hi hown d hr hsz hbase N hN
  unfold Oper.wp execOp
  simp only [ho, resolve, invoke, builtin, Sem.run_bind, Sem.run_pure, Result.andThen_ok, List.map_toArray, List.map_cons, List.map_nil, hs, hx, hrun]
  exact h A' c' w' h2 h3 h4

theorem wpList_app {ops : Array Oper} {rest : List Oper} {o : Oper} {a : Act} {Q : Exit → Act → World → Prop} (hgd : o.guard = none) (s x : Operand) (t : TypeId)
    (ho : o.op = .call { callee := .builtin .append, args := #[s, x], argTypes := #[t, t] })
    (base : Nat) (E : TypeId) (ht : P.underlying t = some (.slice E)) (hi : (P.info? E).map (fun i => (i.zero, i.size, i.bytes)) = some (some (.int .u8 0), 1, 1))
    {A : Option Addr} {n c : Nat} {l : List UInt8} (hs : a.eval s = .slice A n c) (hown : Own w base E A n c l) {B : Option Addr} {m d : Nat} {k : List UInt8} (hx : a.eval x = .slice B m d) (hr : Rd w B m k)
    (hsz : n + m ≤ 140737488355328) (hbase : base ≤ w.heap.size) (N : Nat) (hN : N = n + m)
    (h : ∀ A' c' w', Own w' base E A' N c' (l ++ k) → w.grownBy w' (A.map (·.block)) → (A'.map (·.block) = A.map (·.block) ∨ A'.map (·.block) = some w.heap.size) → wpList P ops Q rest (a.put o.dst (.slice A' N c')) w') : wpList P ops Q (o :: rest) a w :=
  wpList_plain hgd fun _ hK => wp_app w s x t ho base E ht hi hs hown hx hr hsz hbase N hN fun A' c' w' h2 h3 h4 => hK _ _ (h A' c' w' h2 h3 h4)

theorem step_app {ops : Array Oper} {o : Oper} {a : Act} {K : Act → World → Prop} {Q : Exit → Act → World → Prop} {Z : Prop} (hgd : o.guard = none) (s x : Operand) (t : TypeId)
    (ho : o.op = .call { callee := .builtin .append, args := #[s, x], argTypes := #[t, t] })
    (base : Nat) (E : TypeId) (ht : P.underlying t = some (.slice E)) (hi : (P.info? E).map (fun i => (i.zero, i.size, i.bytes)) = some (some (.int .u8 0), 1, 1))
    {A : Option Addr} {n c : Nat} {l : List UInt8} (hs : a.eval s = .slice A n c) (hown : Own w base E A n c l) {B : Option Addr} {m d : Nat} {k : List UInt8} (hx : a.eval x = .slice B m d) (hr : Rd w B m k)
    (hsz : n + m ≤ 140737488355328) (hbase : base ≤ w.heap.size) (N : Nat) (hN : N = n + m)
    (h : ∀ A' c' w', Own w' base E A' N c' (l ++ k) → w.grownBy w' (A.map (·.block)) → (A'.map (·.block) = A.map (·.block) ∨ A'.map (·.block) = some w.heap.size) → K (a.put o.dst (.slice A' N c')) w') :
    if Region.wanted o (yielded ops a.tmps) = true then Oper.wp P o a w K Q else Z := by
  have hw : Region.wanted o (yielded ops a.tmps) = true := by simp [Region.wanted, hgd]
  rw [if_pos hw]
  exact wp_app w s x t ho base E ht hi hs hown hx hr hsz hbase N hN h
end

/-- Slices of bytes that stand beside each other in memory: each with its address, length, capacity and bytes. -/
abbrev Part := Option Addr × Nat × Nat × List UInt8
def tot (ps : List Part) : Nat := (ps.map (·.2.1)).sum
def cat (ps : List Part) : List UInt8 := (ps.map (·.2.2.2)).flatten
structure Parts (w : World) (ad : Addr) (ps : List Part) : Prop where
  lt : ad.block < w.heap.size
  at_ : ∀ (i : Nat) (p : Part), ps[i]? = some p → w.cell? (ad.add i) = some (.slice p.1 p.2.1 p.2.2.1) ∧ Rd w p.1 p.2.1 p.2.2.2
theorem Parts.below {w w' : World} {ad : Addr} {ps : List Part} {B : Nat} (h : Parts w ad ps) (hb : Below B w w') (hB : w.heap.size ≤ B) : Parts w' ad ps :=
  ⟨Nat.lt_of_lt_of_le h.lt hb.size, fun i p hp => ⟨(hb.cell (by rw [addr_add_block]; have := h.lt; omega)).trans (h.at_ i p hp).1, (h.at_ i p hp).2.below hb hB⟩⟩
theorem tot_take_le (ps : List Part) (k : Nat) : tot (ps.take k) ≤ tot ps := by
  have : tot ps = tot (ps.take k) + tot (ps.drop k) := by
    unfold tot
    rw [← List.sum_append_nat, ← List.map_append, List.take_append_drop]
  omega
theorem tot_snoc {ps : List Part} {k : Nat} {p : Part} (h : ps[k]? = some p) : tot (ps.take (k + 1)) = tot (ps.take k) + p.2.1 := by
  rw [List.take_add_one, h]
  simp [tot]
theorem cat_snoc {ps : List Part} {k : Nat} {p : Part} (h : ps[k]? = some p) : cat (ps.take (k + 1)) = cat (ps.take k) ++ p.2.2.2 := by
  rw [List.take_add_one, h]
  simp [cat]
end Go.Coop
