/- Several disks beside each other, in an array of pointers; calls run one behind the other. -/
import Derived.Test.YtlhhijhmjkgnaaaOps
namespace Go.Proofs.Ytlhhijhmjkgnaaa
open Go.RowKit Go.Coop
set_option maxRecDepth 100000

def DS.runs (S : DS) (os : List OpV) : DS := os.foldl DS.does S
theorem runs_step (S : DS) {os : List OpV} {j : Nat} {o : OpV} (h : os[j]? = some o) : S.runs (os.take (j + 1)) = (S.runs (os.take j)).does o := by
  unfold DS.runs
  rw [List.take_add_one, h, List.foldl_append]
  rfl
/-- what two disks have lies apart -/
structure Ap (g m c g' m' c' : Nat) : Prop where
  gg : g ≠ g'
  gm : g ≠ m'
  gc : g ≠ c'
  mg : m ≠ g'
  mm : m ≠ m'
  mc : m ≠ c'
  cg : c ≠ g'
  cm : c ≠ m'
  cc : c ≠ c'
theorem Ap.symm {g m c g' m' c' : Nat} (h : Ap g m c g' m' c') : Ap g' m' c' g m c := ⟨h.gg.symm, h.mg.symm, h.cg.symm, h.gm.symm, h.mm.symm, h.cm.symm, h.gc.symm, h.mc.symm, h.cc.symm⟩
theorem other_keep {w w' : World} {g m c g' m' c' : Nat} {T : DS} (hB : But [g, m, c] w w') (ho : DiskAt w g' m' c' T) (ha : Ap g m c g' m' c') : DiskAt w' g' m' c' T :=
  ho.but hB (by simp; exact ⟨ha.gg.symm, ha.mg.symm, ha.cg.symm⟩) (by simp; exact ⟨ha.gm.symm, ha.mm.symm, ha.cm.symm⟩) (by simp; exact ⟨ha.gc.symm, ha.mc.symm, ha.cc.symm⟩)
theorem ap_step {w : World} {g m c c2 g' m' c' : Nat} {T : DS} (ha : Ap g m c g' m' c') (hc : c2 = c ∨ w.heap.size ≤ c2) (ho : DiskAt w g' m' c' T) : Ap g m c2 g' m' c' := by
  rcases hc with rfl | hc
  · exact ha
  · have h1 := ho.g_lt
    have h2 := ho.m_lt
    have h3 := ho.c_lt
    exact ⟨ha.gg, ha.gm, ha.gc, ha.mg, ha.mm, ha.mc, by omega, by omega, by omega⟩

/-- the array's cells: k pointers -/
def arrP (k : Nat) (gs : Nat → Nat) : Array Value := ((List.range 4).map fun i => if i < k then Value.pointer (some ⟨gs i, 0, none⟩) else .pointer none).toArray
theorem arrP_set {k : Nat} (hk : k < 4) (gs : Nat → Nat) (g : Nat) : (arrP k gs).setIfInBounds k (.pointer (some ⟨g, 0, none⟩)) = arrP (k + 1) (upd gs k g) := by
  unfold arrP upd
  rw [List.setIfInBounds_toArray]
  congr 1
  apply List.ext_getElem?
  intro i
  rw [List.getElem?_set]
  by_cases hi : i < 4
  · simp only [List.getElem?_map, List.getElem?_range hi, Option.map_some, List.length_map, List.length_range]
    by_cases e : k = i
    · subst e
      simp [hi]
    · rw [if_neg e]
      by_cases h2 : i < k
      · rw [if_pos h2, if_pos (by omega), if_neg (fun e' => e e'.symm)]
      · rw [if_neg h2, if_neg (by omega)]
  · simp [List.getElem?_eq_none, hi]
    omega
theorem arrP_get {k : Nat} (gs : Nat → Nat) {i : Nat} (hi : i < 4) : (arrP k gs)[i]? = some (if i < k then Value.pointer (some ⟨gs i, 0, none⟩) else .pointer none) := by
  unfold arrP
  rw [List.getElem?_toArray, List.getElem?_map, List.getElem?_range hi]
  rfl

/-- k disks -/
structure Fam (w : World) (B b k : Nat) (gs ms cs : Nat → Nat) (Ss : Nat → DS) : Prop where
  base : B ≤ w.heap.size
  bb : B ≤ b
  arr : w.heap[b]? = some (.cells (arrP k gs) 67 (0, 0))
  dsk : ∀ i, i < k → DiskAt w (gs i) (ms i) (cs i) (Ss i)
  apart : ∀ i j, i < k → j < k → i ≠ j → Ap (gs i) (ms i) (cs i) (gs j) (ms j) (cs j)
  lo : ∀ i, i < k → B ≤ gs i ∧ B ≤ ms i ∧ B ≤ cs i ∧ b ≠ gs i ∧ b ≠ ms i ∧ b ≠ cs i
theorem Fam.below {w w' : World} {B b k : Nat} {gs ms cs : Nat → Nat} {Ss : Nat → DS} (h : Fam w B b k gs ms cs Ss) (hb : Below w.heap.size w w') : Fam w' B b k gs ms cs Ss :=
  ⟨Nat.le_trans h.base hb.size, h.bb, (But.of_below (gs := []) hb).cells h.arr (by simp), fun i hi => (h.dsk i hi).below hb (Nat.le_refl _), h.apart, h.lo⟩
theorem Fam.step {w w' : World} {B b k : Nat} {gs ms cs : Nat → Nat} {Ss : Nat → DS} (h : Fam w B b k gs ms cs Ss) {j : Nat} (hj : j < k) {S' : DS} {r : Value} {e : Ending} (hd : Did (gs j) (ms j) (cs j) S' r w e w') :
    ∃ c2, e = .returned r ∧ Fam w' B b k gs ms (upd cs j c2) (upd Ss j S') ∧ Below B w w' := by
  obtain ⟨he, c2, hD, hB, hc2⟩ := hd
  have hlj := h.lo j hj
  have hbl : b < w.heap.size := (Array.getElem?_eq_some_iff.1 h.arr).1
  have hbase := h.base
  refine ⟨c2, he, ⟨Nat.le_trans h.base hB.size, h.bb, hB.cells h.arr (by simp; exact ⟨hlj.2.2.2.1, hlj.2.2.2.2.1, hlj.2.2.2.2.2⟩), fun i hi => ?_, fun i i' hi hi' hne => ?_, fun i hi => ?_⟩, hB.below h.base (by simp; exact ⟨hlj.1, hlj.2.1, hlj.2.2.1⟩)⟩
  · unfold upd
    by_cases e : i = j
    · subst e
      rw [if_pos rfl, if_pos rfl]
      exact hD
    · rw [if_neg e, if_neg e]
      exact other_keep hB (h.dsk i hi) (h.apart j i hj hi (fun e' => e e'.symm))
  · unfold upd
    by_cases e : i = j
    · subst e
      rw [if_pos rfl, if_neg (fun e' => hne e'.symm)]
      exact ap_step (h.apart i i' hi hi' hne) hc2 (h.dsk i' hi')
    · rw [if_neg e]
      by_cases e' : i' = j
      · subst e'
        rw [if_pos rfl]
        exact (ap_step (h.apart i' i hi' hi (fun x => e x.symm)) hc2 (h.dsk i hi)).symm
      · rw [if_neg e']
        exact h.apart i i' hi hi' hne
  · unfold upd
    have := h.lo i hi
    by_cases e : i = j
    · subst e
      rw [if_pos rfl]
      exact ⟨this.1, this.2.1, by rcases hc2 with rfl | hc2; exact this.2.2.1; omega, this.2.2.2.1, this.2.2.2.2.1, by rcases hc2 with rfl | hc2; exact this.2.2.2.2.2; omega⟩
    · rw [if_neg e]
      exact this
/-- one disk more, all of whose blocks are new -/
theorem Fam.more {w w' : World} {B b k : Nat} {gs ms cs : Nat → Nat} {Ss : Nat → DS} (h : Fam w B b k gs ms cs Ss) (hk : k < 4) {g m c : Nat} {S : DS} (hb : Below w.heap.size w w') (hg : w.heap.size ≤ g) (hm : w.heap.size ≤ m) (hc : w.heap.size ≤ c) (hD : DiskAt w' g m c S) :
    Fam (w'.setCell ⟨b, k, none⟩ (.pointer (some ⟨g, 0, none⟩))) B b (k + 1) (upd gs k g) (upd ms k m) (upd cs k c) (upd Ss k S) ∧ Below B w (w'.setCell ⟨b, k, none⟩ (.pointer (some ⟨g, 0, none⟩))) := by
  have hbl : b < w.heap.size := (Array.getElem?_eq_some_iff.1 h.arr).1
  have hbase := h.base
  have h' := h.below hb
  have hB : But [b] w' (w'.setCell ⟨b, k, none⟩ (.pointer (some ⟨g, 0, none⟩))) := (But.refl _ _).setCell (by simp) _
  refine ⟨⟨Nat.le_trans h'.base hB.size, h.bb, ?_, fun i hi => ?_, fun i j hi hj hne => ?_, fun i hi => ?_⟩, (hb.mono hbase).trans (hB.below h'.base (by simp; exact h.bb))⟩
  · rw [← arrP_set hk]
    exact heap_setCell_same w' b k _ 67 _ h'.arr
  · unfold upd
    by_cases e : i = k
    · subst e
      rw [if_pos rfl, if_pos rfl, if_pos rfl, if_pos rfl]
      exact hD.but hB (by simp; omega) (by simp; omega) (by simp; omega)
    · rw [if_neg e, if_neg e, if_neg e, if_neg e]
      have hl := h.lo i (by omega)
      exact (h'.dsk i (by omega)).but hB (by simp; exact fun x => hl.2.2.2.1 x.symm) (by simp; exact fun x => hl.2.2.2.2.1 x.symm) (by simp; exact fun x => hl.2.2.2.2.2 x.symm)
  · unfold upd
    by_cases e : i = k
    · subst e
      rw [if_pos rfl, if_pos rfl, if_pos rfl, if_neg (fun x => hne x.symm), if_neg (fun x => hne x.symm), if_neg (fun x => hne x.symm)]
      have d := h.dsk j (by omega)
      have h1 := d.g_lt
      have h2 := d.m_lt
      have h3 := d.c_lt
      exact ⟨by omega, by omega, by omega, by omega, by omega, by omega, by omega, by omega, by omega⟩
    · rw [if_neg e, if_neg e, if_neg e]
      have d := h.dsk i (by omega)
      have h1 := d.g_lt
      have h2 := d.m_lt
      have h3 := d.c_lt
      by_cases e' : j = k
      · subst e'
        rw [if_pos rfl, if_pos rfl, if_pos rfl]
        exact ⟨by omega, by omega, by omega, by omega, by omega, by omega, by omega, by omega, by omega⟩
      · rw [if_neg e', if_neg e', if_neg e']
        exact h.apart i j (by omega) (by omega) hne
  · unfold upd
    by_cases e : i = k
    · subst e
      rw [if_pos rfl, if_pos rfl, if_pos rfl]
      exact ⟨by omega, by omega, by omega, by omega, by omega, by omega⟩
    · rw [if_neg e, if_neg e, if_neg e]
      exact h.lo i (by omega)
theorem Fam.cell {w : World} {B b k : Nat} {gs ms cs : Nat → Nat} {Ss : Nat → DS} (h : Fam w B b k gs ms cs Ss) {i : Nat} (hi : i < 4) (hik : i < k) : w.cell? ⟨b, i, none⟩ = some (.pointer (some ⟨gs i, 0, none⟩)) := by
  rw [cell_of_row w b i _ 67 (0, 0) h.arr, arrP_get gs hi, if_pos hik]
end Go.Proofs.Ytlhhijhmjkgnaaa
