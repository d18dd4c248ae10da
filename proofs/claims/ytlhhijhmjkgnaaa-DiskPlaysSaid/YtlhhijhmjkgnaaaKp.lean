/- Arrays of eight beside a disk (DiskKeeps). -/
import Derived.Test.YtlhhijhmjkgnaaaLawA
namespace Go.Proofs.Ytlhhijhmjkgnaaa
open Go.RowKit Go.Coop
set_option maxRecDepth 100000

def arr8 (f : Nat → Value) : Array Value := ((List.range 8).map f).toArray
theorem arr8_size (f : Nat → Value) : (arr8 f).size = 8 := by simp [arr8]
theorem arr8_get (f : Nat → Value) {i : Nat} (hi : i < 8) : (arr8 f)[i]? = some (f i) := by
  unfold arr8
  rw [List.getElem?_toArray, List.getElem?_map, List.getElem?_range hi]
  rfl
theorem arr8_set (f : Nat → Value) {i : Nat} (hi : i < 8) (v : Value) : (arr8 f).setIfInBounds i v = arr8 (upd f i v) := by
  unfold arr8
  rw [List.setIfInBounds_toArray]
  congr 1
  apply List.ext_getElem?
  intro j
  rw [List.getElem?_set]
  by_cases hj : j < 8
  · simp only [List.getElem?_map, List.getElem?_range hj, Option.map_some, List.length_map, List.length_range]
    by_cases e : i = j
    · subst e
      rw [if_pos rfl, if_pos hj, upd_same]
    · rw [if_neg e, upd_other _ _ (fun h => e h.symm)]
  · rw [if_neg (by omega), List.getElem?_eq_none (by simp; omega), List.getElem?_eq_none (by simp; omega)]
theorem arr8_one (f : Nat → Value) (h : ∀ i, (f i).oneCell' = true) : (arr8 f).all (·.oneCell') = true := by
  unfold arr8
  simp only [List.all_toArray, List.all_eq_true, List.mem_map]
  rintro v ⟨i, _, rfl⟩
  exact h i
theorem arr8_congr {f g : Nat → Value} (h : ∀ i, i < 8 → f i = g i) : arr8 f = arr8 g := by
  unfold arr8
  congr 1
  exact List.map_congr_left fun i hi => h i (List.mem_range.1 hi)
/-- three arrays, and a disk -/
structure Kp (w : World) (B g m c bs bl bo : Nat) (S : DS) (su la : Nat → UInt8) (op : Nat → Bool) : Prop where
  one : One w B g m c S
  s : w.heap[bs]? = some (.cells (arr8 fun i => BV (su i)) 63 (0, 0))
  l : w.heap[bl]? = some (.cells (arr8 fun i => BV (la i)) 63 (0, 0))
  o : w.heap[bo]? = some (.cells (arr8 fun i => .bool (op i)) 64 (0, 0))
  sl : bs ≠ bl
  so : bs ≠ bo
  lo : bl ≠ bo
  bs : B ≤ bs
  bl : B ≤ bl
  bo : B ≤ bo
theorem off_disk {w : World} {g m c : Nat} {S : DS} (h : DiskAt w g m c S) {bx : Nat} {cs : Array Value} {T : TypeId} (hT : T ≠ 59 ∧ T ≠ 77) (hh : w.heap[bx]? = some (.cells cs T (0, 0))) : bx ∉ [g, m, c] := by
  have h1 : bx ≠ g := by
    rintro rfl
    have := hh.symm.trans h.blk
    injection this with e
    injection e with _ e _
    exact hT.1 e
  have h2 : bx ≠ m := by
    rintro rfl
    have := hh.symm.trans h.med
    injection this with e
    injection e with _ e _
    exact hT.2 e
  have h3 : bx ≠ c := by
    rintro rfl
    obtain ⟨D, ⟨es, clock, hb, _⟩, _⟩ := h.cache
    have := hh.symm.trans hb
    injection this with e
    cases e
  simp
  exact ⟨h1, h2, h3⟩
section
variable {w w' : World} {B g m c bs bl bo : Nat} {S : DS} {su la : Nat → UInt8} {op : Nat → Bool}
theorem Kp.below (h : Kp w B g m c bs bl bo S su la op) (hb : Below w.heap.size w w') : Kp w' B g m c bs bl bo S su la op :=
  have hn := But.of_below (gs := []) hb
  ⟨h.one.below hb, hn.cells h.s (by simp), hn.cells h.l (by simp), hn.cells h.o (by simp), h.sl, h.so, h.lo, h.bs, h.bl, h.bo⟩
theorem Kp.step (h : Kp w B g m c bs bl bo S su la op) {S' : DS} {r : Value} {e : Ending} (hd : Did g m c S' r w e w') : ∃ c2, e = .returned r ∧ Kp w' B g m c2 bs bl bo S' su la op ∧ Below B w w' := by
  obtain ⟨c2, he, hO, hB, hbt⟩ := h.one.step hd
  exact ⟨c2, he, ⟨hO, hbt.cells h.s (off_disk h.one.d (by decide) h.s), hbt.cells h.l (off_disk h.one.d (by decide) h.l), hbt.cells h.o (off_disk h.one.d (by decide) h.o), h.sl, h.so, h.lo, h.bs, h.bl, h.bo⟩, hB⟩
theorem Kp.stepB (h : Kp w B g m c bs bl bo S su la op) {S' : DS} {r : Value} {e : Ending} (hd : Did g m c S' r w e w') : ∃ c2, e = .returned r ∧ Kp w' B g m c2 bs bl bo S' su la op ∧ Below B w w' ∧ But [g, m, c] w w' := by
  obtain ⟨c2, he, hO, hB, hbt⟩ := h.one.step hd
  exact ⟨c2, he, ⟨hO, hbt.cells h.s (off_disk h.one.d (by decide) h.s), hbt.cells h.l (off_disk h.one.d (by decide) h.l), hbt.cells h.o (off_disk h.one.d (by decide) h.o), h.sl, h.so, h.lo, h.bs, h.bl, h.bo⟩, hB, hbt⟩
theorem upd_map {α : Type} (f : α → Value) (g : Nat → α) (i : Nat) (x : α) : upd (fun j => f (g j)) i (f x) = fun j => f (upd g i x j) := by
  funext j
  unfold upd
  split <;> rfl
/-- a byte of the first array -/
theorem Kp.setS (h : Kp w B g m c bs bl bo S su la op) {i : Nat} (hi : i < 8) (x : UInt8) : Kp (w.setCell ⟨bs, i, none⟩ (BV x)) B g m c bs bl bo S (upd su i x) la op ∧ Below B w (w.setCell ⟨bs, i, none⟩ (BV x)) := by
  have hb : But [bs] w (w.setCell ⟨bs, i, none⟩ (BV x)) := (But.refl _ _).setCell (by simp) _
  have ho := off_disk h.one.d (by decide) h.s
  simp at ho
  refine ⟨⟨⟨Nat.le_trans h.one.base hb.size, h.one.d.but hb (by simp; exact fun e => ho.1 e.symm) (by simp; exact fun e => ho.2.1 e.symm) (by simp; exact fun e => ho.2.2 e.symm), h.one.lo⟩, ?_, hb.cells h.l (by simp; exact h.sl.symm), hb.cells h.o (by simp; exact h.so.symm), h.sl, h.so, h.lo, h.bs, h.bl, h.bo⟩, hb.below h.one.base (by simp; exact h.bs)⟩
  rw [← upd_map BV su i x, ← arr8_set _ hi]
  exact heap_setCell_same w bs i _ 63 _ h.s
theorem Kp.setL (h : Kp w B g m c bs bl bo S su la op) {i : Nat} (hi : i < 8) (x : UInt8) : Kp (w.setCell ⟨bl, i, none⟩ (BV x)) B g m c bs bl bo S su (upd la i x) op ∧ Below B w (w.setCell ⟨bl, i, none⟩ (BV x)) := by
  have hb : But [bl] w (w.setCell ⟨bl, i, none⟩ (BV x)) := (But.refl _ _).setCell (by simp) _
  have ho := off_disk h.one.d (by decide) h.l
  simp at ho
  refine ⟨⟨⟨Nat.le_trans h.one.base hb.size, h.one.d.but hb (by simp; exact fun e => ho.1 e.symm) (by simp; exact fun e => ho.2.1 e.symm) (by simp; exact fun e => ho.2.2 e.symm), h.one.lo⟩, hb.cells h.s (by simp; exact h.sl), ?_, hb.cells h.o (by simp; exact h.lo.symm), h.sl, h.so, h.lo, h.bs, h.bl, h.bo⟩, hb.below h.one.base (by simp; exact h.bl)⟩
  rw [← upd_map BV la i x, ← arr8_set _ hi]
  exact heap_setCell_same w bl i _ 63 _ h.l
theorem Kp.setO (h : Kp w B g m c bs bl bo S su la op) {i : Nat} (hi : i < 8) (x : Bool) : Kp (w.setCell ⟨bo, i, none⟩ (.bool x)) B g m c bs bl bo S su la (upd op i x) ∧ Below B w (w.setCell ⟨bo, i, none⟩ (.bool x)) := by
  have hb : But [bo] w (w.setCell ⟨bo, i, none⟩ (.bool x)) := (But.refl _ _).setCell (by simp) _
  have ho := off_disk h.one.d (by decide) h.o
  simp at ho
  refine ⟨⟨⟨Nat.le_trans h.one.base hb.size, h.one.d.but hb (by simp; exact fun e => ho.1 e.symm) (by simp; exact fun e => ho.2.1 e.symm) (by simp; exact fun e => ho.2.2 e.symm), h.one.lo⟩, hb.cells h.s (by simp; exact h.so), hb.cells h.l (by simp; exact h.lo), ?_, h.sl, h.so, h.lo, h.bs, h.bl, h.bo⟩, hb.below h.one.base (by simp; exact h.bo)⟩
  rw [← upd_map Value.bool op i x, ← arr8_set _ hi]
  exact heap_setCell_same w bo i _ 64 _ h.o
/-- whole arrays -/
theorem Kp.rowS (h : Kp w B g m c bs bl bo S su la op) (f : Nat → UInt8) : Kp (w.setRow bs (arr8 fun i => BV (f i))) B g m c bs bl bo S f la op ∧ Below B w (w.setRow bs (arr8 fun i => BV (f i))) := by
  have hb : But [bs] w (w.setRow bs (arr8 fun i => BV (f i))) := (But.refl _ _).setRow (by simp) _
  have ho := off_disk h.one.d (by decide) h.s
  simp at ho
  exact ⟨⟨⟨Nat.le_trans h.one.base hb.size, h.one.d.but hb (by simp; exact fun e => ho.1 e.symm) (by simp; exact fun e => ho.2.1 e.symm) (by simp; exact fun e => ho.2.2 e.symm), h.one.lo⟩, setRow_heap w bs _ _ 63 _ h.s, hb.cells h.l (by simp; exact h.sl.symm), hb.cells h.o (by simp; exact h.so.symm), h.sl, h.so, h.lo, h.bs, h.bl, h.bo⟩, hb.below h.one.base (by simp; exact h.bs)⟩
theorem Kp.rowL (h : Kp w B g m c bs bl bo S su la op) (f : Nat → UInt8) : Kp (w.setRow bl (arr8 fun i => BV (f i))) B g m c bs bl bo S su f op ∧ Below B w (w.setRow bl (arr8 fun i => BV (f i))) := by
  have hb : But [bl] w (w.setRow bl (arr8 fun i => BV (f i))) := (But.refl _ _).setRow (by simp) _
  have ho := off_disk h.one.d (by decide) h.l
  simp at ho
  exact ⟨⟨⟨Nat.le_trans h.one.base hb.size, h.one.d.but hb (by simp; exact fun e => ho.1 e.symm) (by simp; exact fun e => ho.2.1 e.symm) (by simp; exact fun e => ho.2.2 e.symm), h.one.lo⟩, hb.cells h.s (by simp; exact h.sl), setRow_heap w bl _ _ 63 _ h.l, hb.cells h.o (by simp; exact h.lo.symm), h.sl, h.so, h.lo, h.bs, h.bl, h.bo⟩, hb.below h.one.base (by simp; exact h.bl)⟩
theorem Kp.rowO (h : Kp w B g m c bs bl bo S su la op) (f : Nat → Bool) : Kp (w.setRow bo (arr8 fun i => .bool (f i))) B g m c bs bl bo S su la f ∧ Below B w (w.setRow bo (arr8 fun i => .bool (f i))) := by
  have hb : But [bo] w (w.setRow bo (arr8 fun i => .bool (f i))) := (But.refl _ _).setRow (by simp) _
  have ho := off_disk h.one.d (by decide) h.o
  simp at ho
  exact ⟨⟨⟨Nat.le_trans h.one.base hb.size, h.one.d.but hb (by simp; exact fun e => ho.1 e.symm) (by simp; exact fun e => ho.2.1 e.symm) (by simp; exact fun e => ho.2.2 e.symm), h.one.lo⟩, hb.cells h.s (by simp; exact h.so), hb.cells h.l (by simp; exact h.lo), setRow_heap w bo _ _ 64 _ h.o, h.sl, h.so, h.lo, h.bs, h.bl, h.bo⟩, hb.below h.one.base (by simp; exact h.bo)⟩
end
/-- what the law knows of the disk -/
structure KI (S : DS) (su la : Nat → UInt8) (op : Nat → Bool) : Prop where
  n : S.n = 8
  med : ∀ j, j < 8 → S.med j = ofB (su j)
  yes : ∀ j, j < 8 → op j = true → S.cache j = some (ofB (la j))
  no : ∀ j, j < 8 → op j = false → S.cache j = none ∧ la j = su j
theorem KI.at_ {S : DS} {su la : Nat → UInt8} {op : Nat → Bool} (h : KI S su la op) {j : Nat} (hj : j < 8) : (S.at_ j == ofB (la j)) = true := by
  unfold DS.at_
  cases ho : op j
  · obtain ⟨h1, h2⟩ := h.no j hj ho
    rw [h1, h2, h.med j hj]
    exact beq_self_eq_true _
  · rw [h.yes j hj ho]
    exact beq_self_eq_true _
theorem KI.some_ {S : DS} {su la : Nat → UInt8} {op : Nat → Bool} (h : KI S su la op) {j : Nat} (hj : j < 8) : (S.cache j).isSome = op j := by
  cases ho : op j
  · rw [(h.no j hj ho).1]; rfl
  · rw [h.yes j hj ho]; rfl
theorem KI.failed {S : DS} {su la : Nat → UInt8} {op : Nat → Bool} (h : KI S su la op) : KI S.failed su la op := ⟨h.n, h.med, h.yes, h.no⟩
theorem KI.took {S : DS} {su la : Nat → UInt8} {op : Nat → Bool} (h : KI S su la op) : KI S.took su la op := ⟨h.n, h.med, h.yes, h.no⟩
theorem KI.arm {S : DS} {su la : Nat → UInt8} {op : Nat → Bool} (h : KI S su la op) (n : Int) : KI (S.armOf n) su la op := by
  unfold DS.armOf
  split
  · exact h
  · exact ⟨h.n, h.med, h.yes, h.no⟩
theorem KI.put {S : DS} {su la : Nat → UInt8} {op : Nat → Bool} (h : KI S su la op) {k : Nat} (b : UInt8) : KI (S.put k (ofB b)) su (upd la k b) (upd op k true) :=
  ⟨h.n, h.med, fun j hj ho => by
    show upd S.cache k (some (ofB b)) j = some (ofB (upd la k b j))
    by_cases e : j = k
    · subst e
      rw [upd_same, upd_same]
    · rw [upd_other _ _ e, upd_other _ _ e]
      rw [upd_other _ _ e] at ho
      exact h.yes j hj ho, fun j hj ho => by
    by_cases e : j = k
    · subst e
      rw [upd_same] at ho
      cases ho
    · rw [upd_other _ _ e] at ho
      show upd S.cache k (some (ofB b)) j = none ∧ upd la k b j = su j
      rw [upd_other _ _ e, upd_other _ _ e]
      exact h.no j hj ho⟩
theorem KI.flush {S : DS} {su la : Nat → UInt8} {op : Nat → Bool} (h : KI S su la op) : KI S.flushed la la (fun _ => false) :=
  ⟨h.n, fun j hj => by show S.at_ j = _; exact beq_iff_eq.1 (h.at_ hj), (fun j _ ho => by cases ho), fun j _ _ => ⟨rfl, rfl⟩⟩
/-- how many are open ahead of j; what is sure behind a crash -/
def rk (op : Nat → Bool) (j : Nat) : Nat := ((List.range j).filter op).length
def su' (su la : Nat → UInt8) (op : Nat → Bool) (ks : List Bool) (j : Nat) : UInt8 := if op j && (ks[rk op j]?).getD false then la j else su j
theorem KI.rank {S : DS} {su la : Nat → UInt8} {op : Nat → Bool} (h : KI S su la op) {j : Nat} (hj : j ≤ 8) : S.rank j = rk op j := by
  unfold DS.rank rk
  congr 1
  exact List.filter_congr fun i hi => h.some_ (by have := List.mem_range.1 hi; omega)
theorem KI.crash {S : DS} {su la : Nat → UInt8} {op : Nat → Bool} (h : KI S su la op) (ks : List Bool) : KI (S.crashed ks) (su' su la op ks) (su' su la op ks) (fun _ => false) :=
  ⟨h.n, fun j hj => by
    show (if S.kept ks j = true then S.at_ j else S.med j) = _
    unfold DS.kept su'
    rw [h.some_ hj, h.rank (by omega)]
    split
    · exact beq_iff_eq.1 (h.at_ hj)
    · exact h.med j hj, (fun j _ ho => by cases ho), fun j _ _ => ⟨rfl, rfl⟩⟩
theorem rk_succ (op : Nat → Bool) (j : Nat) : rk op (j + 1) = if op j then rk op j + 1 else rk op j := by
  unfold rk
  rw [List.range_succ, List.filter_append, List.length_append]
  cases ho : op j <;> simp [ho]
theorem rk_le (op : Nat → Bool) (j : Nat) : rk op j ≤ j := by
  unfold rk
  have := List.length_filter_le op (List.range j)
  rwa [List.length_range] at this
def KRel (w0 : World) (g m bs bl bo : Nat) (wr : World) : Prop := ∃ c S su la op, KI S su la op ∧ Kp wr w0.heap.size g m c bs bl bo S su la op ∧ Below w0.heap.size w0 wr
end Go.Proofs.Ytlhhijhmjkgnaaa
