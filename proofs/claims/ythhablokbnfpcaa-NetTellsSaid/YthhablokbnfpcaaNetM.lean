/- A net in memory: its five cells, its row of datagrams, its map of how many wait. -/
import Derived.Test.YthhablokbnfpcaaRows
import Derived.Test.YthhablokbnfpcaaNetP
import Derived.Test.YthhablokbnfpcaaRowK
import Derived.Lib.SlKeysI
import Derived.Maps.OwnOps
import Derived.Deep.WholeRow
import Derived.Maps.OwnSet
import Derived.Maps.RangeWalk
import Derived.WalkSpells
import Derived.WalkLawsBesides
namespace Go.Proofs.Ythhablokbnfpcaa
open Go.RowKit Go.Coop Go.Maps
set_option maxRecDepth 100000

/-- a string -/
abbrev SV (b : List UInt8) : Value := .string ⟨b.toArray⟩
def Dt.vs (d : Dt) : List Value := [.int .i64 (d.fr : Int), .int .i64 (d.to : Int), SV d.b]
def dvs (l : List Dt) : List Value := l.flatMap Dt.vs
theorem dvs_nil : dvs [] = [] := rfl
theorem dvs_cons (d : Dt) (l : List Dt) : dvs (d :: l) = d.vs ++ dvs l := rfl
theorem dvs_append (a b : List Dt) : dvs (a ++ b) = dvs a ++ dvs b := List.flatMap_append
theorem dvs_len (l : List Dt) : (dvs l).length = l.length * 3 := by
  induction l with
  | nil => rfl
  | cons a l ih => rw [dvs_cons, List.length_append, ih, List.length_cons]; simp [Dt.vs]; omega
theorem dvs_one (l : List Dt) : ∀ u ∈ dvs l, u.oneCell' = true := by
  intro u hu
  obtain ⟨c, _, hc⟩ := List.mem_flatMap.1 hu
  simp [Dt.vs, SV] at hc
  rcases hc with rfl | rfl | rfl <;> rfl
theorem vs_one (d : Dt) : ∀ u ∈ d.vs, u.oneCell' = true := by
  have := dvs_one [d]
  simpa [dvs] using this
theorem dvs_split {l : List Dt} {i : Nat} {d : Dt} (h : l[i]? = some d) : dvs l = dvs (l.take i) ++ (d.vs ++ dvs (l.drop (i + 1))) := by
  have hi : i < l.length := (List.getElem?_eq_some_iff.1 h).1
  have e : l = l.take i ++ d :: l.drop (i + 1) := by
    have := List.take_append_drop i l
    rw [List.drop_eq_getElem_cons hi, (List.getElem?_eq_some_iff.1 h).2] at this
    exact this.symm
  conv => lhs; rw [e]
  rw [dvs_append, dvs_cons]
theorem dvs_get {l : List Dt} {i : Nat} {d : Dt} (h : l[i]? = some d) {j : Nat} {v : Value} (hj : d.vs[j]? = some v) : (dvs l)[i * 3 + j]? = some v := by
  have hi : i < l.length := (List.getElem?_eq_some_iff.1 h).1
  have hl : (dvs (l.take i)).length = i * 3 := by rw [dvs_len, List.length_take]; omega
  have hj' := (List.getElem?_eq_some_iff.1 hj).1
  rw [dvs_split h, List.getElem?_append_right (by omega), hl, Nat.add_sub_cancel_left, List.getElem?_append_left hj', hj]

theorem info80 : (Try.prog.info? 80).map (fun i => (i.zero, i.size, i.bytes)) = some (some (.agg #[.int .i64 0, .int .i64 0, .string ⟨#[]⟩]), 3, 32) := by kernel_rfl
theorem size80 : (Try.prog.info? 80).map (·.size) = some 3 := by kernel_rfl
theorem info80' : (Try.prog.info? 80).map (fun i => (i.zero, i.size)) = some (some (.agg #[.int .i64 0, .int .i64 0, .string ⟨#[]⟩]), 3) := by kernel_rfl
theorem zero80 (w : World) : (zeroValue 80).run Try.prog w = .ok (.agg #[.int .i64 0, .int .i64 0, .string ⟨#[]⟩]) w := (zero_of_info info80').1 w

theorem i64_wf {k : Int} (h1 : -9223372036854775808 ≤ k) (h2 : k ≤ 9223372036854775807) : (Lit.int .i64 k).wf = true := by
  simp [Lit.wf, IntKind.min, IntKind.max, IntKind.signed, IntKind.bits]
  omega
theorem key3 {k : Int} (h1 : -9223372036854775808 ≤ k) (h2 : k ≤ 9223372036854775807) : keyOf Try.prog 3 (.int .i64 k) = some (.int .i64 k) := Maps.keyOf_int_mk Try.underlying3 (i64_wf h1 h2)
theorem keylit (k : Int) : WideAt.IsKeyLit (.int .i64 k) := by simp [WideAt.IsKeyLit]

theorem nodup_bound : ∀ {n : Nat} {l : List Int}, l.Nodup → (∀ x ∈ l, 0 ≤ x ∧ x < n) → l.length ≤ n
  | 0, l, _, h => by
    cases l with
    | nil => simp
    | cons a l => have := h a (by simp); omega
  | n + 1, l, hn, h => by
    have h1 := nodup_bound (n := n) (l := l.filter (· ≠ (n : Int))) (hn.filter _) (fun x hx => by
      obtain ⟨hx1, hx2⟩ := List.mem_filter.1 hx
      have := h x hx1
      simp at hx2
      omega)
    have h2 : l.length ≤ (l.filter (· ≠ (n : Int))).length + 1 := by
      clear h1 h
      induction l with
      | nil => simp
      | cons a l ih =>
        obtain ⟨ha, hl⟩ := List.nodup_cons.1 hn
        by_cases e : a = (n : Int)
        · subst e
          have : l.filter (· ≠ (n : Int)) = l := List.filter_eq_self.2 fun x hx => by
            simp
            rintro rfl
            exact ha hx
          rw [List.filter_cons_of_neg (by simp), this]
          simp
        · rw [List.filter_cons_of_pos (by simpa using e)]
          have := ih hl
          simp only [List.length_cons]
          omega
    omega
theorem owns_intKeys {w : World} {c nn : Nat} {D : DataW Value} (h : w.ownsMap Try.prog 3 (plainElem Try.prog 3) c nn D) : ∃ es, D = .map es ∧ (intKeys D).Nodup ∧ (intKeys D).length = Maps.size D ∧ ∀ x, x ∈ intKeys D ↔ has D (.int .i64 x) = true := by
  obtain ⟨es, rfl, hpw, hk⟩ := h.entries (int_keyed Try.underlying3)
  obtain ⟨es', hD', hko⟩ := h.keysOf
  obtain rfl : es = es' := by simpa using hD'
  have hint : ∀ p ∈ es, ∃ x, p.1 = .int .i64 x := fun p hp => by obtain ⟨v, hv⟩ := hko p hp; obtain ⟨x, _, hx, _⟩ := Maps.keyOf_i64 Try.underlying3 hv; exact ⟨x, hx⟩
  refine ⟨es, rfl, ?_, by simp [intKeys, Maps.size], fun x => ?_⟩
  · show (es.map fun p => Go.intOf p.1).Nodup
    refine List.pairwise_map.2 (hpw.imp_of_mem fun {p q} hp' hq' hne e => hne ?_)
    obtain ⟨a, ha⟩ := hint p hp'
    obtain ⟨b, hb⟩ := hint q hq'
    rw [ha, hb] at e ⊢
    exact congrArg _ e
  · rw [has_eq, List.any_eq_true]
    show x ∈ es.map (fun p => Go.intOf p.1) ↔ _
    rw [List.mem_map]
    constructor
    · rintro ⟨p, hp', rfl⟩
      obtain ⟨a, ha⟩ := hint p hp'
      exact ⟨p, hp', by rw [ha]; simp [Lit.sameKey, Go.intOf]⟩
    · rintro ⟨p, hp', hs⟩
      obtain ⟨a, ha⟩ := hint p hp'
      rw [ha] at hs
      exact ⟨p, hp', by rw [ha]; simpa [Lit.sameKey, Go.intOf] using hs⟩

/-- the datum of the map: how many wait for each station -/
structure WaitIs (D : DataW Value) (ends : Nat) (f : Int → Nat) : Prop where
  keys : ∀ k : Int, has D (.int .i64 k) = true → 0 ≤ k ∧ k < ends
  at_ : ∀ k : Int, D.atKey (.int .i64 k) (.lit (.int .i64 0)) = .lit (.int .i64 (f k : Int))
theorem wait_empty (n : Nat) : WaitIs (.map []) n (fun _ => 0) := ⟨fun k h => by simp [has] at h, fun k => rfl⟩
theorem WaitIs.congr {D : DataW Value} {n : Nat} {f g : Int → Nat} (h : WaitIs D n f) (e : ∀ k, f k = g k) : WaitIs D n g := ⟨h.keys, fun k => by rw [← e k]; exact h.at_ k⟩
theorem WaitIs.put {D : DataW Value} {n : Nat} {f g : Int → Nat} (h : WaitIs D n f) (hD : IsMap D) {k : Int} (h0 : 0 ≤ k) (hk : k < n) {x : Nat} (hx : g k = x) (he : ∀ j, j ≠ k → f j = g j) : WaitIs (D.put (.int .i64 k) (.lit (.int .i64 (x : Int)))) n g := by
  refine ⟨fun j hj => ?_, fun j => ?_⟩
  · by_cases e : j = k
    · subst e; omega
    · rw [has_put_other (fun h => e (by injection h))] at hj
      exact h.keys j hj
  · by_cases e : j = k
    · subst e
      rw [atKey_put_same hD (keylit _), hx]
    · rw [atKey_put_other (fun h => e (by injection h)), h.at_ j, he j e]
theorem WaitIs.del {D : DataW Value} {n : Nat} {f g : Int → Nat} (h : WaitIs D n f) {k : Int} (hx : g k = 0) (he : ∀ j, j ≠ k → f j = g j) : WaitIs (D.del (.int .i64 k)) n g := by
  refine ⟨fun j hj => ?_, fun j => ?_⟩
  · by_cases e : j = k
    · subst e
      exact h.keys j (by
        have := hj
        simp [has_del_same] at this)
    · rw [has_del_other (fun h => e (by injection h))] at hj
      exact h.keys j hj
  · by_cases e : j = k
    · subst e
      rw [atKey_del_same, hx]
      rfl
    · rw [atKey_del_other (fun h => e (by injection h)), h.at_ j, he j e]
theorem owns_size {w : World} {c nn n : Nat} {D : DataW Value} {f : Int → Nat} (h : w.ownsMap Try.prog 3 (plainElem Try.prog 3) c nn D) (hC : WaitIs D n f) : Maps.size D ≤ n := by
  obtain ⟨es, _, h1, h2, h3⟩ := owns_intKeys h
  rw [← h2]
  exact nodup_bound h1 fun x hx => hC.keys x ((h3 x).1 hx)
/-- the bound of a map's entries is theirs -/
theorem owns_exact {w : World} {c nn n : Nat} {D : DataW Value} (h : w.ownsMap Try.prog 3 (plainElem Try.prog 3) c nn D) (hn : Maps.size D ≤ n) : w.ownsMap Try.prog 3 (plainElem Try.prog 3) c n D := by
  obtain ⟨es, clock, hb, F, hs, rfl⟩ := h
  refine ⟨es, clock, hb, F, ?_, rfl⟩
  simpa [Maps.size, length_sorted] using hn
theorem owns_but {w w' : World} {c n : Nat} {D : DataW Value} {gs : List Nat} (h : w.ownsMap Try.prog 3 (plainElem Try.prog 3) c n D) (hb : But gs w w') (hc : c ∉ gs) : w'.ownsMap Try.prog 3 (plainElem Try.prog 3) c n D := by
  obtain ⟨es, clock, hm, r⟩ := h
  exact ⟨es, clock, hb.cells hm hc, r⟩

/-- A net lies at block g, its datagrams at A, its map at c, all from B on; f: what its map says. -/
structure NetRaw (w : World) (B g : Nat) (A : Option Addr) (cap c : Nat) (S : NS) (D : DataW Value) : Prop where
  hg : B ≤ g
  hc : B ≤ c
  blk : w.heap[g]? = some (.cells #[.pointer (some ⟨g, 0, none⟩), .int .i64 (S.ends : Int), .int .i64 (S.most : Int), .slice A S.heap.length cap, .map (some c)] 59 (0, 0))
  row : OwnK w B 80 3 A S.heap.length cap (dvs S.heap)
  map : w.ownsMap Try.prog 3 (plainElem Try.prog 3) c S.ends D
structure NetAt (w : World) (B g : Nat) (A : Option Addr) (cap c : Nat) (S : NS) : Prop where
  ok : S.Ok
  raw : ∃ D, NetRaw w B g A cap c S D ∧ WaitIs D S.ends S.wait
def Nb (g : Nat) (A : Option Addr) (c : Nat) : List Nat := g :: c :: (A.map (·.block)).toList
theorem mem_nb {g c k : Nat} {A : Option Addr} : k ∈ Nb g A c ↔ k = g ∨ k = c ∨ A.map (·.block) = some k := by
  unfold Nb
  cases A <;> simp [eq_comm]

section
variable {w w' : World} {B g c cap : Nat} {A : Option Addr} {S : NS} {D : DataW Value}
theorem NetRaw.g_lt (h : NetRaw w B g A cap c S D) : g < w.heap.size := (Array.getElem?_eq_some_iff.1 h.blk).1
theorem NetRaw.c_lt (h : NetRaw w B g A cap c S D) : c < w.heap.size := h.map.lt
theorem NetRaw.gc (h : NetRaw w B g A cap c S D) : g ≠ c := by
  rintro rfl
  obtain ⟨es, clock, hb, _⟩ := h.map
  have := h.blk.symm.trans hb
  injection this with e
  cases e
theorem cells80 {w : World} {n c : Nat} {vs : List Value} (h : OwnK w B 80 3 A n c vs) {k : Nat} (hk : A.map (·.block) = some k) : ∃ cur, w.heap[k]? = some (.cells cur 80 (0, 0)) := by
  rcases h.row.2 with ⟨hv, _⟩ | ⟨g, cap, cur, hv, _, hg, _⟩
  · injection hv with hA _ _
    subst hA
    cases hk
  · injection hv with hA _ _
    subst hA
    injection hk with hk
    subst hk
    exact ⟨cur, hg⟩
theorem NetRaw.Ag (h : NetRaw w B g A cap c S D) : A.map (·.block) ≠ some g := by
  intro e
  obtain ⟨cur, hk⟩ := cells80 h.row e
  have := h.blk.symm.trans hk
  injection this with e
  injection e with _ e _
  cases e
theorem NetRaw.Ac (h : NetRaw w B g A cap c S D) : A.map (·.block) ≠ some c := by
  intro e
  obtain ⟨cur, hk⟩ := cells80 h.row e
  obtain ⟨es, clock, hb, _⟩ := h.map
  have := hb.symm.trans hk
  injection this with e
  cases e
theorem NetRaw.but {gs : List Nat} (h : NetRaw w B g A cap c S D) (hb : But gs w w') (hn : ∀ k, k ∈ Nb g A c → k ∉ gs) : NetRaw w' B g A cap c S D :=
  ⟨h.hg, h.hc, hb.cells h.blk (hn _ (by simp [Nb])), h.row.but hb fun j hj => hn j (mem_nb.2 (.inr (.inr hj))), owns_but h.map hb (hn _ (by simp [Nb]))⟩
theorem NetAt.but {gs : List Nat} (h : NetAt w B g A cap c S) (hb : But gs w w') (hn : ∀ k, k ∈ Nb g A c → k ∉ gs) : NetAt w' B g A cap c S := by
  obtain ⟨D, h1, h2⟩ := h.raw
  exact ⟨h.ok, D, h1.but hb hn, h2⟩
theorem NetAt.below (h : NetAt w B g A cap c S) (hb : Below w.heap.size w w') : NetAt w' B g A cap c S := h.but (gs := []) (But.of_below hb) (by simp)
theorem NetAt.drewN (h : NetAt w B g A cap c S) (n : Nat) : NetAt (w.drewN n) B g A cap c S := h.below ⟨rfl, rfl, rfl, Nat.le_refl _, fun _ _ => rfl⟩
theorem NetAt.drew (h : NetAt w B g A cap c S) : NetAt w.drew B g A cap c S := h.drewN 1
theorem NetAt.alloc (h : NetAt w B g A cap c S) (o : Obj) : NetAt (w.alloc o) B g A cap c S := h.below ((Below.refl _ _).alloc (Nat.le_refl _) o)
theorem NetAt.blk (h : NetAt w B g A cap c S) : w.heap[g]? = some (.cells #[.pointer (some ⟨g, 0, none⟩), .int .i64 (S.ends : Int), .int .i64 (S.most : Int), .slice A S.heap.length cap, .map (some c)] 59 (0, 0)) := by obtain ⟨D, h, _⟩ := h.raw; exact h.blk
theorem NetAt.row (h : NetAt w B g A cap c S) : OwnK w B 80 3 A S.heap.length cap (dvs S.heap) := by obtain ⟨D, h, _⟩ := h.raw; exact h.row
theorem NetAt.c0 (h : NetAt w B g A cap c S) : w.cell? ⟨g, 0, none⟩ = some (.pointer (some ⟨g, 0, none⟩)) := cell_of_row _ g 0 _ 59 (0, 0) h.blk
theorem NetAt.c1 (h : NetAt w B g A cap c S) : w.cell? ⟨g, 1, none⟩ = some (.int .i64 (S.ends : Int)) := cell_of_row _ g 1 _ 59 (0, 0) h.blk
theorem NetAt.c2 (h : NetAt w B g A cap c S) : w.cell? ⟨g, 2, none⟩ = some (.int .i64 (S.most : Int)) := cell_of_row _ g 2 _ 59 (0, 0) h.blk
theorem NetAt.c3 (h : NetAt w B g A cap c S) : w.cell? ⟨g, 3, none⟩ = some (.slice A S.heap.length cap) := cell_of_row _ g 3 _ 59 (0, 0) h.blk
theorem NetAt.c4 (h : NetAt w B g A cap c S) : w.cell? ⟨g, 4, none⟩ = some (.map (some c)) := cell_of_row _ g 4 _ 59 (0, 0) h.blk
theorem NetAt.fr (h : NetAt w B g A cap c S) (k : Nat) : w.frozen? ⟨g, k, none⟩ = false := frozen_of_row w g k _ 59 h.blk
/-- a datagram of the heap -/
theorem NetAt.get (h : NetAt w B g A cap c S) {i : Nat} {d : Dt} (hi : S.heap[i]? = some d) : ∃ r, A = some ⟨r, 0, none⟩ ∧ w.cell? ⟨r, i * 3, none⟩ = some (.int .i64 (d.fr : Int)) ∧ w.cell? ⟨r, i * 3 + 1, none⟩ = some (.int .i64 (d.to : Int)) ∧ w.cell? ⟨r, i * 3 + 2, none⟩ = some (SV d.b) := by
  have hlt := (List.getElem?_eq_some_iff.1 hi).1
  obtain ⟨r, sp, rfl, _, _, hr, _⟩ := h.row.head (by omega)
  have hx : ∀ j v, d.vs[j]? = some v → w.cell? ⟨r, i * 3 + j, none⟩ = some v := fun j v hj => by
    have := dvs_get hi hj
    simp only [World.cell?, hr]
    simp only [List.getElem?_toArray]
    rw [List.getElem?_append_left (List.getElem?_eq_some_iff.1 this).1, this]
    rfl
  exact ⟨r, rfl, hx 0 _ rfl, hx 1 _ rfl, hx 2 _ rfl⟩
/-- what the map answers -/
theorem NetAt.look_run (h : NetAt w B g A cap c S) {k : Int} (h1 : -9223372036854775808 ≤ k) (h2 : k ≤ 9223372036854775807) : (Instr.lookup 57 (.map (some c)) (.int .i64 k) false).run Try.prog w = .ok (.int .i64 (S.wait k : Int)) w := by
  obtain ⟨D, hr, hw⟩ := h.raw
  obtain ⟨x, hrun, hat, _⟩ := hr.map.lookup_int (Maps.int_keyed Try.underlying3) Try.underlying57 Try.underlying3 (Try.zeroValue3 w) (key3 h1 h2)
  rw [hw.at_] at hat
  injection hat with hat
  injection hat with _ hat
  rw [hrun, ← hat]
end
end Go.Proofs.Ythhablokbnfpcaa
