/- A disk in memory: its five cells, its medium, its cache. -/
import Derived.Test.YtlhhijhmjkgnaaaRows
import Derived.Test.YtlhhijhmjkgnaaaDskP
import Derived.Lib.SlKeysI
import Derived.Maps.RangeWalk
import Derived.Maps.OwnSet
import Derived.Deep.WholeRow
import Derived.WalkSpells
import Derived.WalkLawsBesides
namespace Go.Proofs.Ytlhhijhmjkgnaaa
open Go.RowKit Go.Coop Go.Maps
set_option maxRecDepth 100000

theorem info77 : (Try.prog.info? 77).map (fun i => (i.zero, i.size)) = some (some (.agg (Array.replicate 64 (.int .u8 0))), 64) := by kernel_rfl
theorem size77 : (Try.prog.info? 77).map (·.size) = some 64 := (zero_of_info info77).2
def noughts : List UInt8 := List.replicate 64 0
/-- a sector, as the model's value -/
def secV (l : List UInt8) : Value := .agg (bvs l).toArray
theorem zero77 (w : World) : (zeroValue 77).run Try.prog w = .ok (secV noughts) w := (zero_of_info info77).1 w
def secR : Value → Option (DataW Value × List MemPlace)
  | .agg cs => some (.held (.agg cs), [])
  | _ => none
theorem secR_mk (l : List UInt8) : secR (secV l) = some (.held (secV l), []) := rfl
theorem secR_inv {v : Value} {y : DataW Value × List MemPlace} (h : secR v = some y) : y = (.held v, []) := by
  unfold secR at h
  split at h
  · injection h with h; exact h.symm
  · cases h
theorem bv_inj {a b : UInt8} (h : BV a = BV b) : a = b := by
  unfold BV at h
  injection h with _ h
  exact UInt8.toNat_inj.1 (by exact_mod_cast h)
theorem bvs_inj {a b : List UInt8} (h : bvs a = bvs b) : a = b := (List.map_inj_right (fun _ _ h => bv_inj h)).1 h
theorem secV_inj {a b : List UInt8} (h : secV a = secV b) : a = b := by
  unfold secV at h
  injection h with h
  exact bvs_inj (by simpa using h)

/-- the datum of a cache -/
structure CacheIs (D : DataW Value) (n : Nat) (C : Nat → Option (List UInt8)) : Prop where
  keys : ∀ k : Int, has D (.int .i64 k) = true → 0 ≤ k ∧ k < n
  at_ : ∀ (k : Nat) z, D.atKey (.int .i64 (k : Int)) z = match C k with | some l => .held (secV l) | none => z
theorem CacheIs.has_ {D : DataW Value} {n : Nat} {C : Nat → Option (List UInt8)} (h : CacheIs D n C) (k : Nat) : has D (.int .i64 (k : Int)) = (C k).isSome := by
  have := h.at_ k
  cases hc : C k with
  | none => exact has_false_of_atKey fun z => by rw [this, hc]
  | some l => exact has_true_of_atKey (y := .held (secV l)) fun z => by rw [this, hc]
theorem cache_empty (n : Nat) : CacheIs (.map []) n (fun _ => none) := ⟨fun k h => by simp [has] at h, fun k z => rfl⟩
theorem keylit (k : Int) : WideAt.IsKeyLit (.int .i64 k) := by simp [WideAt.IsKeyLit]
theorem CacheIs.put {D : DataW Value} {n : Nat} {C : Nat → Option (List UInt8)} (h : CacheIs D n C) (hD : IsMap D) {i : Nat} (hi : i < n) (l : List UInt8) : CacheIs (D.put (.int .i64 (i : Int)) (.held (secV l))) n (upd C i (some l)) := by
  refine ⟨fun k hk => ?_, fun k z => ?_⟩
  · by_cases e : k = i
    · subst e; omega
    · rw [has_put_other (fun h => e (by injection h))] at hk
      exact h.keys k hk
  · by_cases e : k = i
    · subst e
      rw [atKey_put_same hD (keylit _), upd_same]
    · rw [atKey_put_other (fun h => e (by injection h with _ h; exact_mod_cast h)), upd_other _ _ e]
      exact h.at_ k z

theorem nodup_bound : ∀ {n : Nat} {l : List Int}, l.Nodup → (∀ x ∈ l, 0 ≤ x ∧ x < n) → l.length ≤ n
  | 0, l, _, h => by
    cases l with
    | nil => simp
    | cons a l => have := h a (by simp); omega
  | n + 1, l, hn, h => by
    have h1 := nodup_bound (n := n) (l := l.filter (· ≠ (n : Int))) (hn.filter _) (fun x hx => by
      obtain ⟨hx1, hx2⟩ := List.mem_filter.1 hx
      have := h x hx1
      simp at hx2
      omega)
    have h2 : l.length ≤ (l.filter (· ≠ (n : Int))).length + 1 := by
      clear h1 h
      induction l with
      | nil => simp
      | cons a l ih =>
        obtain ⟨ha, hl⟩ := List.nodup_cons.1 hn
        by_cases e : a = (n : Int)
        · subst e
          have : l.filter (· ≠ (n : Int)) = l := List.filter_eq_self.2 fun x hx => by
            simp
            rintro rfl
            exact ha hx
          rw [List.filter_cons_of_neg (by simp), this]
          simp
        · rw [List.filter_cons_of_pos (by simpa using e)]
          have := ih hl
          simp only [List.length_cons]
          omega
    omega

theorem owns_intKeys {w : World} {c nn : Nat} {D : DataW Value} (h : w.ownsMap Try.prog 3 secR c nn D) : ∃ es, D = .map es ∧ (intKeys D).Nodup ∧ (intKeys D).length = Maps.size D ∧ ∀ x, x ∈ intKeys D ↔ has D (.int .i64 x) = true := by
  obtain ⟨es, rfl, hpw, hk⟩ := h.entries (int_keyed Try.underlying3)
  obtain ⟨es', hD', hko⟩ := h.keysOf
  obtain rfl : es = es' := by simpa using hD'
  have hint : ∀ p ∈ es, ∃ x, p.1 = .int .i64 x := fun p hp => by obtain ⟨v, hv⟩ := hko p hp; obtain ⟨x, _, hx, _⟩ := Maps.keyOf_i64 Try.underlying3 hv; exact ⟨x, hx⟩
  refine ⟨es, rfl, ?_, by simp [intKeys, Maps.size], fun x => ?_⟩
  · show (es.map fun p => Go.intOf p.1).Nodup
    refine List.pairwise_map.2 (hpw.imp_of_mem fun {p q} hp' hq' hne e => hne ?_)
    obtain ⟨a, ha⟩ := hint p hp'
    obtain ⟨b, hb⟩ := hint q hq'
    rw [ha, hb] at e ⊢
    exact congrArg _ e
  · rw [has_eq, List.any_eq_true]
    show x ∈ es.map (fun p => Go.intOf p.1) ↔ _
    rw [List.mem_map]
    constructor
    · rintro ⟨p, hp', rfl⟩
      obtain ⟨a, ha⟩ := hint p hp'
      exact ⟨p, hp', by rw [ha]; simp [Lit.sameKey, Go.intOf]⟩
    · rintro ⟨p, hp', hs⟩
      obtain ⟨a, ha⟩ := hint p hp'
      rw [ha] at hs
      exact ⟨p, hp', by rw [ha]; simpa [Lit.sameKey, Go.intOf] using hs⟩
theorem owns_size {w : World} {c nn n : Nat} {D : DataW Value} {C : Nat → Option (List UInt8)} (h : w.ownsMap Try.prog 3 secR c nn D) (hC : CacheIs D n C) : Maps.size D ≤ n := by
  obtain ⟨es, _, h1, h2, h3⟩ := owns_intKeys h
  rw [← h2]
  exact nodup_bound h1 fun x hx => hC.keys x ((h3 x).1 hx)
/-- the bound of a map's entries is theirs -/
theorem owns_exact {w : World} {c nn n : Nat} {D : DataW Value} (h : w.ownsMap Try.prog 3 secR c nn D) (hn : Maps.size D ≤ n) : w.ownsMap Try.prog 3 secR c n D := by
  obtain ⟨es, clock, hb, F, hs, rfl⟩ := h
  refine ⟨es, clock, hb, F, ?_, rfl⟩
  simpa [Maps.size, length_sorted] using hn

/-- A disk lies at block g: its medium at m, its cache at c. -/
structure DiskAt (w : World) (g m c : Nat) (S : DS) : Prop where
  ok : S.Ok
  blk : w.heap[g]? = some (.cells #[.slice (some ⟨m, 0, none⟩) S.n S.n, .map (some c), .bool S.armed, .int .i64 (S.left : Int), .bool S.down] 59 (0, 0))
  med : w.heap[m]? = some (.cells (flat S.n S.med).toArray 77 (0, 0))
  cache : ∃ D, w.ownsMap Try.prog 3 secR c S.n D ∧ CacheIs D S.n S.cache

section
variable {w w' : World} {g m c : Nat} {S : DS}
theorem DiskAt.g_lt (h : DiskAt w g m c S) : g < w.heap.size := (Array.getElem?_eq_some_iff.1 h.blk).1
theorem DiskAt.m_lt (h : DiskAt w g m c S) : m < w.heap.size := (Array.getElem?_eq_some_iff.1 h.med).1
theorem DiskAt.c_lt (h : DiskAt w g m c S) : c < w.heap.size := by obtain ⟨D, h1, _⟩ := h.cache; exact h1.lt
theorem DiskAt.gm (h : DiskAt w g m c S) : g ≠ m := by
  rintro rfl
  have := h.blk.symm.trans h.med
  injection this with e
  injection e with _ e _
  cases e
theorem DiskAt.gc (h : DiskAt w g m c S) : g ≠ c := by
  rintro rfl
  obtain ⟨D, ⟨es, clock, hb, _⟩, _⟩ := h.cache
  have := h.blk.symm.trans hb
  injection this with e
  cases e
theorem DiskAt.mc (h : DiskAt w g m c S) : m ≠ c := by
  rintro rfl
  obtain ⟨D, ⟨es, clock, hb, _⟩, _⟩ := h.cache
  have := h.med.symm.trans hb
  injection this with e
  cases e
theorem DiskAt.c0 (h : DiskAt w g m c S) : w.cell? ⟨g, 0, none⟩ = some (.slice (some ⟨m, 0, none⟩) S.n S.n) := cell_of_row _ g 0 _ 59 (0, 0) h.blk
theorem DiskAt.c1 (h : DiskAt w g m c S) : w.cell? ⟨g, 1, none⟩ = some (.map (some c)) := cell_of_row _ g 1 _ 59 (0, 0) h.blk
theorem DiskAt.c2 (h : DiskAt w g m c S) : w.cell? ⟨g, 2, none⟩ = some (.bool S.armed) := cell_of_row _ g 2 _ 59 (0, 0) h.blk
theorem DiskAt.c3 (h : DiskAt w g m c S) : w.cell? ⟨g, 3, none⟩ = some (.int .i64 (S.left : Int)) := cell_of_row _ g 3 _ 59 (0, 0) h.blk
theorem DiskAt.c4 (h : DiskAt w g m c S) : w.cell? ⟨g, 4, none⟩ = some (.bool S.down) := cell_of_row _ g 4 _ 59 (0, 0) h.blk
theorem DiskAt.fr (h : DiskAt w g m c S) (k : Nat) : w.frozen? ⟨g, k, none⟩ = false := frozen_of_row w g k _ 59 h.blk
theorem DiskAt.but {gs : List Nat} (h : DiskAt w g m c S) (hb : But gs w w') (h1 : g ∉ gs) (h2 : m ∉ gs) (h3 : c ∉ gs) : DiskAt w' g m c S := by
  obtain ⟨D, ⟨es, clock, hm, r⟩, hC⟩ := h.cache
  exact ⟨h.ok, hb.cells h.blk h1, hb.cells h.med h2, D, ⟨es, clock, hb.cells hm h3, r⟩, hC⟩
theorem DiskAt.below {B : Nat} (h : DiskAt w g m c S) (hb : Below B w w') (hB : w.heap.size ≤ B) : DiskAt w' g m c S := h.but (gs := []) (But.of_below (hb.mono hB)) (by simp) (by simp) (by simp)
theorem DiskAt.alloc (h : DiskAt w g m c S) (o : Obj) : DiskAt (w.alloc o) g m c S := h.below ((Below.refl w.heap.size w).alloc (Nat.le_refl _) o) (Nat.le_refl _)
theorem DiskAt.drew (h : DiskAt w g m c S) : DiskAt w.drew g m c S := ⟨h.ok, h.blk, h.med, h.cache⟩
theorem DiskAt.drewN (h : DiskAt w g m c S) (k : Nat) : DiskAt (w.drewN k) g m c S := ⟨h.ok, h.blk, h.med, h.cache⟩
theorem DiskAt.undrew (h : DiskAt w.drew g m c S) : DiskAt w g m c S := ⟨h.ok, h.blk, h.med, h.cache⟩

/-- a cell of the disk's own is written -/
theorem DiskAt.armed_ (h : DiskAt w g m c S) (b : Bool) : DiskAt (w.setCell ⟨g, 2, none⟩ (.bool b)) g m c { S with armed := b } := by
  obtain ⟨D, ⟨es, clock, hm, r⟩, hC⟩ := h.cache
  refine ⟨⟨h.ok.n1, h.ok.n2, h.ok.med, h.ok.cache, h.ok.left⟩, heap_setCell_same w g 2 _ 59 _ h.blk, ?_, D, ⟨es, clock, ?_, r⟩, hC⟩
  · rw [heap_setCell_other _ _ _ _ (by exact h.gm.symm)]; exact h.med
  · rw [heap_setCell_other _ _ _ _ (by exact h.gc.symm)]; exact hm
theorem DiskAt.left_ (h : DiskAt w g m c S) {n : Nat} (hn : n < 9223372036854775808) : DiskAt (w.setCell ⟨g, 3, none⟩ (.int .i64 (n : Int))) g m c { S with left := n } := by
  obtain ⟨D, ⟨es, clock, hm, r⟩, hC⟩ := h.cache
  refine ⟨⟨h.ok.n1, h.ok.n2, h.ok.med, h.ok.cache, hn⟩, heap_setCell_same w g 3 _ 59 _ h.blk, ?_, D, ⟨es, clock, ?_, r⟩, hC⟩
  · rw [heap_setCell_other _ _ _ _ (by exact h.gm.symm)]; exact h.med
  · rw [heap_setCell_other _ _ _ _ (by exact h.gc.symm)]; exact hm
theorem DiskAt.down_ (h : DiskAt w g m c S) (b : Bool) : DiskAt (w.setCell ⟨g, 4, none⟩ (.bool b)) g m c { S with down := b } := by
  obtain ⟨D, ⟨es, clock, hm, r⟩, hC⟩ := h.cache
  refine ⟨⟨h.ok.n1, h.ok.n2, h.ok.med, h.ok.cache, h.ok.left⟩, heap_setCell_same w g 4 _ 59 _ h.blk, ?_, D, ⟨es, clock, ?_, r⟩, hC⟩
  · rw [heap_setCell_other _ _ _ _ (by exact h.gm.symm)]; exact h.med
  · rw [heap_setCell_other _ _ _ _ (by exact h.gc.symm)]; exact hm
/-- the cache is a new one -/
theorem DiskAt.empty_ (h : DiskAt w g m c S) : DiskAt ((w.alloc (.map #[] 0)).setCell ⟨g, 1, none⟩ (.map (some w.heap.size))) g m w.heap.size { S with cache := fun _ => none } := by
  have h' := h.alloc (.map #[] 0)
  have hg := h.g_lt
  refine ⟨⟨h.ok.n1, h.ok.n2, h.ok.med, fun _ _ h => by simp at h, h.ok.left⟩, heap_setCell_same _ g 1 _ 59 _ h'.blk, ?_, .map [], ?_, cache_empty _⟩
  · rw [heap_setCell_other _ _ _ _ (by exact h.gm.symm)]; exact h'.med
  · exact ((World.ownsMap_made w Try.prog 3 secR).mono (Nat.zero_le _)).setCell (by show w.heap.size ≠ g; omega) _
/-- a sector of the medium is written -/
theorem DiskAt.med_ (h : DiskAt w g m c S) {i : Nat} (hi : i < S.n) {l : List UInt8} (hl : l.length = 64) : DiskAt (w.setRow m (flat i S.med ++ bvs l ++ behind S.n i S.med).toArray) g m c (S.spoilt i l) := by
  obtain ⟨D, ⟨es, clock, hm, r⟩, hC⟩ := h.cache
  refine ⟨DS.spoilt_ok h.ok i hl, ?_, ?_, D, ⟨es, clock, ?_, r⟩, hC⟩
  · rw [setRow_other _ _ _ _ h.gm]; exact h.blk
  · rw [setRow_heap w m _ _ 77 (0, 0) h.med, ← flat_upd hi]; rfl
  · rw [setRow_other _ _ _ _ h.mc.symm]; exact hm
/-- a sector of the cache is written -/
theorem DiskAt.put_ (h : DiskAt w g m c S) {D : DataW Value} (hC : CacheIs D S.n S.cache) (hD : IsMap D) {i nn : Nat} (hi : i < S.n) {l : List UInt8} (hl : l.length = 64)
    (ho : w'.ownsMap Try.prog 3 secR c nn (D.put (.int .i64 (i : Int)) (.held (secV l)))) (hg : w.grownBy w' (some c)) : DiskAt w' g m c (S.put i l) := by
  have hC' := hC.put hD hi l
  refine ⟨DS.put_ok h.ok hi hl, ?_, ?_, _, owns_exact ho (owns_size ho hC'), hC'⟩
  · rw [hg.block g h.g_lt (by simpa using h.gc)]; exact h.blk
  · rw [hg.block m h.m_lt (by simpa using h.mc)]; exact h.med
end
end Go.Proofs.Ytlhhijhmjkgnaaa
