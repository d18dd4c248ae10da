/- A clock in memory: its five cells, its map of when each timer is due, its row of timers in order. -/
import Derived.Test.YtncjbohpaanpaaaClkB
import Derived.Lib.SlKeysI
import Derived.Maps.OwnOps
import Derived.Deep.WholeRow
import Derived.Maps.OwnSet
import Derived.Maps.RangeWalk
import Derived.WalkSpells
import Derived.WalkLawsBesides
namespace Go.Proofs.Ytncjbohpaanpaaa
open Go.RowKit Go.Coop Go.Maps
set_option maxRecDepth 100000
theorem i64_wf {k : Int} (h1 : -9223372036854775808 ≤ k) (h2 : k ≤ 9223372036854775807) : (Lit.int .i64 k).wf = true := by
  simp [Lit.wf, IntKind.min, IntKind.max, IntKind.signed, IntKind.bits]
  omega
theorem key3 {k : Int} (h1 : -9223372036854775808 ≤ k) (h2 : k ≤ 9223372036854775807) : keyOf Try.prog 3 (.int .i64 k) = some (.int .i64 k) := Maps.keyOf_int_mk Try.underlying3 (i64_wf h1 h2)
theorem keylit (k : Int) : WideAt.IsKeyLit (.int .i64 k) := by simp [WideAt.IsKeyLit]
theorem pe2 {k : Int} (h1 : -9223372036854775808 ≤ k) (h2 : k ≤ 9223372036854775807) : plainElem Try.prog 2 (.int .i64 k) = some ((.lit (.int .i64 k) : DataW Value), []) := plainElem_int Try.underlying2 (i64_wf h1 h2)
theorem length_le_of {l m : List Int} (hn : l.Nodup) (h : ∀ x ∈ l, x ∈ m) : l.length ≤ m.length := by
  induction l generalizing m with
  | nil => simp
  | cons a l ih =>
    obtain ⟨ha, hl⟩ := List.nodup_cons.1 hn
    have hm := h a (by simp)
    have := ih (m := m.erase a) hl fun x hx => (List.mem_erase_of_ne (by rintro rfl; exact ha hx)).2 (h x (by simp [hx]))
    rw [List.length_erase_of_mem hm] at this
    have hp := List.length_pos_of_mem hm
    simp only [List.length_cons]
    omega
theorem owns_intKeys {w : World} {c nn : Nat} {D : DataW Value} (h : w.ownsMap Try.prog 3 (plainElem Try.prog 2) c nn D) : ∃ es, D = .map es ∧ (intKeys D).Nodup ∧ (intKeys D).length = Maps.size D ∧ ∀ x, x ∈ intKeys D ↔ has D (.int .i64 x) = true := by
  obtain ⟨es, rfl, hpw, hk⟩ := h.entries (int_keyed Try.underlying3)
  obtain ⟨es', hD', hko⟩ := h.keysOf
  obtain rfl : es = es' := by simpa using hD'
  have hint : ∀ p ∈ es, ∃ x, p.1 = .int .i64 x := fun p hp => by obtain ⟨v, hv⟩ := hko p hp; obtain ⟨x, _, hx, _⟩ := Maps.keyOf_i64 Try.underlying3 hv; exact ⟨x, hx⟩
  refine ⟨es, rfl, ?_, by simp [intKeys, Maps.size], fun x => ?_⟩
  · show (es.map fun p => Go.intOf p.1).Nodup
    refine List.pairwise_map.2 (hpw.imp_of_mem fun {p q} hp' hq' hne e => hne ?_)
    obtain ⟨a, ha⟩ := hint p hp'
    obtain ⟨b, hb⟩ := hint q hq'
    rw [ha, hb] at e ⊢
    exact congrArg _ e
  · rw [has_eq, List.any_eq_true]
    show x ∈ es.map (fun p => Go.intOf p.1) ↔ _
    rw [List.mem_map]
    constructor
    · rintro ⟨p, hp', rfl⟩
      obtain ⟨a, ha⟩ := hint p hp'
      exact ⟨p, hp', by rw [ha]; simp [Lit.sameKey, Go.intOf]⟩
    · rintro ⟨p, hp', hs⟩
      obtain ⟨a, ha⟩ := hint p hp'
      rw [ha] at hs
      exact ⟨p, hp', by rw [ha]; simpa [Lit.sameKey, Go.intOf] using hs⟩
/-- a map[int]int64 that says f -/
structure DueIs (D : DataW Value) (f : Int → Option Int) : Prop where
  has_ : ∀ k : Int, has D (.int .i64 k) = (f k).isSome
  at_ : ∀ k : Int, D.atKey (.int .i64 k) (.lit (.int .i64 0)) = .lit (.int .i64 ((f k).getD 0))
theorem due_empty : DueIs (.map []) (fun _ => none) := ⟨fun k => by simp [has], fun k => rfl⟩
theorem DueIs.congr {D : DataW Value} {f g : Int → Option Int} (h : DueIs D f) (e : ∀ k, f k = g k) : DueIs D g := ⟨fun k => by rw [← e k]; exact h.has_ k, fun k => by rw [← e k]; exact h.at_ k⟩
theorem DueIs.put {D : DataW Value} {f g : Int → Option Int} (h : DueIs D f) (hD : IsMap D) {k x : Int} (hx : g k = some x) (he : ∀ j, j ≠ k → f j = g j) : DueIs (D.put (.int .i64 k) (.lit (.int .i64 x))) g := by
  refine ⟨fun j => ?_, fun j => ?_⟩
  · by_cases e : j = k
    · subst e
      rw [hx, has_put_same hD (keylit _)]
      rfl
    · rw [has_put_other (fun h => e (by injection h)), h.has_ j, he j e]
  · by_cases e : j = k
    · subst e
      rw [atKey_put_same hD (keylit _), hx]
      rfl
    · rw [atKey_put_other (fun h => e (by injection h)), h.at_ j, he j e]
theorem DueIs.del {D : DataW Value} {f g : Int → Option Int} (h : DueIs D f) {k : Int} (hx : g k = none) (he : ∀ j, j ≠ k → f j = g j) : DueIs (D.del (.int .i64 k)) g := by
  refine ⟨fun j => ?_, fun j => ?_⟩
  · by_cases e : j = k
    · subst e
      rw [hx, has_del_same]
      rfl
    · rw [has_del_other (fun h => e (by injection h)), h.has_ j, he j e]
  · by_cases e : j = k
    · subst e
      rw [atKey_del_same, hx]
      rfl
    · rw [atKey_del_other (fun h => e (by injection h)), h.at_ j, he j e]
/-- how many keys there are -/
theorem owns_size {w : World} {c nn : Nat} {D : DataW Value} {L : List Tm} (h : w.ownsMap Try.prog 3 (plainElem Try.prog 2) c nn D) (hD : DueIs D (fun i => findD i L)) (hn : Nod L) : Maps.size D = L.length := by
  obtain ⟨es, _, h1, h2, h3⟩ := owns_intKeys h
  have hmem : ∀ x, x ∈ intKeys D ↔ x ∈ L.map Tm.id := fun x => by
    rw [h3, hD.has_]
    constructor
    · intro hs
      obtain ⟨d, hd⟩ := Option.isSome_iff_exists.1 hs
      exact List.mem_map.2 ⟨_, findD_some hd, rfl⟩
    · intro hs
      obtain ⟨t, ht, e⟩ := List.mem_map.1 hs
      rw [← e, findD_mem hn ht]
      rfl
  have a1 := length_le_of h1 (fun x hx => (hmem x).1 hx)
  have a2 := length_le_of hn (fun x hx => (hmem x).2 hx)
  rw [List.length_map] at a1 a2
  omega
/-- the bound of a map's entries is theirs -/
theorem owns_exact {w : World} {c nn n : Nat} {D : DataW Value} (h : w.ownsMap Try.prog 3 (plainElem Try.prog 2) c nn D) (hn : Maps.size D ≤ n) : w.ownsMap Try.prog 3 (plainElem Try.prog 2) c n D := by
  obtain ⟨es, clock, hb, F, hs, rfl⟩ := h
  refine ⟨es, clock, hb, F, ?_, rfl⟩
  simpa [Maps.size, length_sorted] using hn
theorem owns_but {w w' : World} {c n : Nat} {D : DataW Value} {gs : List Nat} (h : w.ownsMap Try.prog 3 (plainElem Try.prog 2) c n D) (hb : But gs w w') (hc : c ∉ gs) : w'.ownsMap Try.prog 3 (plainElem Try.prog 2) c n D := by
  obtain ⟨es, clock, hm, r⟩ := h
  exact ⟨es, clock, hb.cells hm hc, r⟩
/-- v, ok := m[k] -/
theorem own_look {w : World} {c n : Nat} {D : DataW Value} {f : Int → Option Int} (hm : w.ownsMap Try.prog 3 (plainElem Try.prog 2) c n D) (hw : DueIs D f) {k : Int} (h1 : -9223372036854775808 ≤ k) (h2 : k ≤ 9223372036854775807) : (Instr.lookup 55 (.map (some c)) (.int .i64 k) true).run Try.prog w = .ok (.tuple #[.int .i64 ((f k).getD 0), .bool (f k).isSome]) w := by
  obtain ⟨v, ps, hrun, hR⟩ := hm.look_ok (Maps.int_keyed Try.underlying3) Try.underlying55 (Try.zeroValue2 w) (pe2 (k := 0) (by omega) (by omega)) (key3 h1 h2)
  rw [hw.at_] at hR
  obtain ⟨x, rfl, hx, _⟩ := plainElem_int_inv Try.underlying2 hR
  have hx := congrArg Prod.fst hx
  injection hx with hx
  injection hx with _ hx
  rw [hrun, hw.has_, hx]

/-- the blocks of a clock: g, its map c, its row A; L lies at A, the map is D -/
structure ClkRaw (w : World) (B g : Nat) (A : Option Addr) (cap c most : Nat) (now : Int) (L : List Tm) (D : DataW Value) : Prop where
  hg : B ≤ g
  hc : B ≤ c
  blk : w.heap[g]? = some (.cells #[.pointer (some ⟨g, 0, none⟩), .int .i64 (most : Int), .int .i64 now, .map (some c), .slice A L.length cap] 57 (0, 0))
  row : Tl w B A L.length cap L
  map : w.ownsMap Try.prog 3 (plainElem Try.prog 2) c 65537 D
structure ClkAt (w : World) (B g : Nat) (A : Option Addr) (cap c : Nat) (S : CS) : Prop where
  ok : S.Ok
  raw : ∃ D, ClkRaw w B g A cap c S.most S.now S.L D ∧ DueIs D (fun i => findD i S.L)
def Nb (g : Nat) (A : Option Addr) (c : Nat) : List Nat := g :: c :: (A.map (·.block)).toList
theorem mem_nb {g c k : Nat} {A : Option Addr} : k ∈ Nb g A c ↔ k = g ∨ k = c ∨ A.map (·.block) = some k := by
  unfold Nb
  cases A <;> simp [eq_comm]
section
variable {w w' w1 : World} {B g c cap most : Nat} {now : Int} {L : List Tm} {A : Option Addr} {S : CS} {D : DataW Value}
theorem ClkRaw.g_lt (h : ClkRaw w B g A cap c most now L D) : g < w.heap.size := (Array.getElem?_eq_some_iff.1 h.blk).1
theorem ClkRaw.gc (h : ClkRaw w B g A cap c most now L D) : g ≠ c := by
  rintro rfl
  obtain ⟨es, clock, hb, _⟩ := h.map
  have := h.blk.symm.trans hb
  injection this with e
  cases e
theorem ClkRaw.Ag (h : ClkRaw w B g A cap c most now L D) : A.map (·.block) ≠ some g := by
  intro e
  obtain ⟨cur, hk⟩ := h.row.typ e
  have := h.blk.symm.trans hk
  injection this with e
  injection e with _ e _
  cases e
theorem ClkRaw.Ac (h : ClkRaw w B g A cap c most now L D) : A.map (·.block) ≠ some c := by
  intro e
  obtain ⟨cur, hk⟩ := h.row.typ e
  obtain ⟨es, clock, hb, _⟩ := h.map
  have := hb.symm.trans hk
  injection this with e
  cases e
theorem ClkRaw.but {gs : List Nat} (h : ClkRaw w B g A cap c most now L D) (hb : But gs w w') (hn : ∀ k, k ∈ Nb g A c → k ∉ gs) : ClkRaw w' B g A cap c most now L D :=
  ⟨h.hg, h.hc, hb.cells h.blk (hn _ (by simp [Nb])), h.row.but hb fun j hj => hn j (mem_nb.2 (.inr (.inr hj))), owns_but h.map hb (hn _ (by simp [Nb]))⟩
theorem ClkRaw.below (h : ClkRaw w B g A cap c most now L D) (hb : Below w.heap.size w w') : ClkRaw w' B g A cap c most now L D := h.but (gs := []) (But.of_below hb) (by simp)
theorem ClkAt.but {gs : List Nat} (h : ClkAt w B g A cap c S) (hb : But gs w w') (hn : ∀ k, k ∈ Nb g A c → k ∉ gs) : ClkAt w' B g A cap c S := by
  obtain ⟨D, h1, h2⟩ := h.raw
  exact ⟨h.ok, D, h1.but hb hn, h2⟩
theorem ClkAt.below (h : ClkAt w B g A cap c S) (hb : Below w.heap.size w w') : ClkAt w' B g A cap c S := h.but (gs := []) (But.of_below hb) (by simp)
theorem ClkAt.drewN (h : ClkAt w B g A cap c S) (n : Nat) : ClkAt (w.drewN n) B g A cap c S := h.below ⟨rfl, rfl, rfl, Nat.le_refl _, fun _ _ => rfl⟩
theorem ClkAt.drew (h : ClkAt w B g A cap c S) : ClkAt w.drew B g A cap c S := h.drewN 1
theorem ClkAt.alloc (h : ClkAt w B g A cap c S) (o : Obj) : ClkAt (w.alloc o) B g A cap c S := h.below ((Below.refl _ _).alloc (Nat.le_refl _) o)
theorem ClkRaw.c0 (h : ClkRaw w B g A cap c most now L D) : w.cell? ⟨g, 0, none⟩ = some (.pointer (some ⟨g, 0, none⟩)) := cell_of_row _ g 0 _ 57 (0, 0) h.blk
theorem ClkRaw.c1 (h : ClkRaw w B g A cap c most now L D) : w.cell? ⟨g, 1, none⟩ = some (.int .i64 (most : Int)) := cell_of_row _ g 1 _ 57 (0, 0) h.blk
theorem ClkRaw.c2 (h : ClkRaw w B g A cap c most now L D) : w.cell? ⟨g, 2, none⟩ = some (.int .i64 now) := cell_of_row _ g 2 _ 57 (0, 0) h.blk
theorem ClkRaw.c3 (h : ClkRaw w B g A cap c most now L D) : w.cell? ⟨g, 3, none⟩ = some (.map (some c)) := cell_of_row _ g 3 _ 57 (0, 0) h.blk
theorem ClkRaw.c4 (h : ClkRaw w B g A cap c most now L D) : w.cell? ⟨g, 4, none⟩ = some (.slice A L.length cap) := cell_of_row _ g 4 _ 57 (0, 0) h.blk
theorem ClkRaw.fr (h : ClkRaw w B g A cap c most now L D) (k : Nat) : w.frozen? ⟨g, k, none⟩ = false := frozen_of_row w g k _ 57 h.blk
theorem ClkAt.c0 (h : ClkAt w B g A cap c S) : w.cell? ⟨g, 0, none⟩ = some (.pointer (some ⟨g, 0, none⟩)) := by obtain ⟨D, h, _⟩ := h.raw; exact h.c0
theorem ClkAt.c1 (h : ClkAt w B g A cap c S) : w.cell? ⟨g, 1, none⟩ = some (.int .i64 (S.most : Int)) := by obtain ⟨D, h, _⟩ := h.raw; exact h.c1
theorem ClkAt.c2 (h : ClkAt w B g A cap c S) : w.cell? ⟨g, 2, none⟩ = some (.int .i64 S.now) := by obtain ⟨D, h, _⟩ := h.raw; exact h.c2
theorem ClkAt.c3 (h : ClkAt w B g A cap c S) : w.cell? ⟨g, 3, none⟩ = some (.map (some c)) := by obtain ⟨D, h, _⟩ := h.raw; exact h.c3
theorem ClkAt.c4 (h : ClkAt w B g A cap c S) : w.cell? ⟨g, 4, none⟩ = some (.slice A S.L.length cap) := by obtain ⟨D, h, _⟩ := h.raw; exact h.c4
theorem ClkAt.fr (h : ClkAt w B g A cap c S) (k : Nat) : w.frozen? ⟨g, k, none⟩ = false := by obtain ⟨D, h, _⟩ := h.raw; exact h.fr k
theorem ClkAt.row (h : ClkAt w B g A cap c S) : Tl w B A S.L.length cap S.L := by obtain ⟨D, h, _⟩ := h.raw; exact h.row
/-- the row has been written anew -/
theorem ClkRaw.row_ (h : ClkRaw w B g A cap c most now L D) {A' : Option Addr} {c' n : Nat} {l : List Tm} (hn : l.length = n) (hr : Tl w1 B A' n c' l) {gs : List Nat} (hb : But gs w w1) (hgs : ∀ k, k ∈ gs → A.map (·.block) = some k) (hA : A'.map (·.block) = A.map (·.block) ∨ ∃ k, w.heap.size ≤ k ∧ A'.map (·.block) = some k) :
    ClkRaw (w1.setCell ⟨g, 4, none⟩ (.slice A' n c')) B g A' c' c most now l D ∧ But (Nb g A c) w (w1.setCell ⟨g, 4, none⟩ (.slice A' n c')) := by
  subst hn
  have hgg : g ∉ gs := fun hk => h.Ag (hgs _ hk)
  have hcg : c ∉ gs := fun hk => h.Ac (hgs _ hk)
  have hblk := hb.cells h.blk hgg
  have hset : But [g] w1 (w1.setCell ⟨g, 4, none⟩ (.slice A' l.length c')) := (But.refl _ _).setCell (by simp) _
  have hg' : ∀ j, A'.map (·.block) = some j → j ∉ [g] := by
    intro j hj hm
    simp at hm
    subst hm
    rcases hA with e | ⟨k, hk, e⟩
    · rw [e] at hj; exact h.Ag hj
    · rw [e] at hj
      injection hj with hj
      have := h.g_lt
      omega
  refine ⟨⟨h.hg, h.hc, ?_, hr.but hset hg', owns_but (owns_but h.map hb hcg) hset (by simp; exact h.gc.symm)⟩, ?_⟩
  · have := heap_setCell_same w1 g 4 _ 57 (.slice A' l.length c') hblk
    exact this
  · refine (hb.mono fun k hk => mem_nb.2 (.inr (.inr (hgs k hk)))).trans ((hset.mono fun k hk => ?_))
    simp at hk
    subst hk
    simp [Nb]
/-- the map has been written anew -/
theorem ClkRaw.map_ (h : ClkRaw w B g A cap c most now L D) {D' : DataW Value} (hm : w1.ownsMap Try.prog 3 (plainElem Try.prog 2) c 65537 D') (hb : But [c] w w1) : ClkRaw w1 B g A cap c most now L D' :=
  ⟨h.hg, h.hc, hb.cells h.blk (by simp; exact h.gc), h.row.but hb (fun j hj hm => h.Ac (by simp at hm; subst hm; exact hj)), hm⟩
/-- the time has been written anew -/
theorem ClkRaw.now_ (h : ClkRaw w B g A cap c most now L D) (n : Int) : ClkRaw (w.setCell ⟨g, 2, none⟩ (.int .i64 n)) B g A cap c most n L D ∧ But [g] w (w.setCell ⟨g, 2, none⟩ (.int .i64 n)) := by
  have hb : But [g] w (w.setCell ⟨g, 2, none⟩ (.int .i64 n)) := (But.refl _ _).setCell (by simp) _
  refine ⟨⟨h.hg, h.hc, ?_, h.row.but hb (fun j hj hm => h.Ag (by simp at hm; subst hm; exact hj)), owns_but h.map hb (by simp; exact h.gc.symm)⟩, hb⟩
  exact heap_setCell_same w g 2 _ 57 (.int .i64 n) h.blk
theorem grown_but {c : Nat} (h : w.grownBy w' (some c)) : But [c] w w' := ⟨h.os, h.tape, h.output, h.size, fun k hk hn => h.block k hk (by simp at hn ⊢; omega)⟩
/-- a timer of the row -/
theorem row_get {l : List Tm} {n : Nat} (h : Tl w B A n cap l) {i : Nat} {d : Tm} (hi : l[i]? = some d) : ∃ r o, A = some ⟨r, o, none⟩ ∧ w.cell? ⟨r, o + i * 2, none⟩ = some (.int .i64 d.due) ∧ w.cell? ⟨r, o + i * 2 + 1, none⟩ = some (.int .i64 d.id) ∧ r < w.heap.size := by
  have hlt := (List.getElem?_eq_some_iff.1 hi).1
  have hl : (tvs l).length = n * 2 := h.len
  rw [tvs_len] at hl
  rcases h.at_ with ⟨_, h0, _⟩ | ⟨r, pre, sp, rfl, _⟩
  · omega
  · have h0 := h.cells rfl (tvs_get hi (j := 0) rfl)
    have h1 := h.cells rfl (tvs_get hi (j := 1) rfl)
    exact ⟨r, pre.length, rfl, h0.1, by rw [Nat.add_assoc]; exact h1.1, h0.2⟩
end
end Go.Proofs.Ytncjbohpaanpaaa
