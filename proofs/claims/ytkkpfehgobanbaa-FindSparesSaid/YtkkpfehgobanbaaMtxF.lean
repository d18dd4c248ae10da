/- Matrices under steps: what a step writes; the two closures of the elimination, each upon one matrix. -/
import Derived.Test.YtkkpfehgobanbaaMtxE
namespace Go.Proofs.Ytkkpfehgobanbaa
open Go.RowKit Go.Coop
set_option maxRecDepth 100000

/-- but for these blocks the world is as it was -/
structure But (gs : List Nat) (w w' : World) : Prop where
  os : w'.os = w.os
  tape : w'.tape = w.tape
  output : w'.output = w.output
  size : w.heap.size ≤ w'.heap.size
  block : ∀ k, k < w.heap.size → k ∉ gs → w'.heap[k]? = w.heap[k]?
theorem But.refl (gs : List Nat) (w : World) : But gs w w := ⟨rfl, rfl, rfl, Nat.le_refl _, fun _ _ _ => rfl⟩
theorem But.trans {gs : List Nat} {a b c : World} (h : But gs a b) (k : But gs b c) : But gs a c :=
  ⟨k.os.trans h.os, k.tape.trans h.tape, k.output.trans h.output, Nat.le_trans h.size k.size, fun i hi hg => (k.block i (by have := h.size; omega) hg).trans (h.block i hi hg)⟩
theorem But.mono {gs hs : List Nat} {a b : World} (h : But gs a b) (e : ∀ k, k ∈ gs → k ∈ hs) : But hs a b := ⟨h.os, h.tape, h.output, h.size, fun k hk hg => h.block k hk fun hh => hg (e k hh)⟩
theorem But.drew {gs : List Nat} {a w : World} (h : But gs a w) : But gs a w.drew := ⟨h.os, h.tape, h.output, h.size, h.block⟩
theorem But.drewN {gs : List Nat} {a w : World} (h : But gs a w) (n : Nat) : But gs a (w.drewN n) := ⟨h.os, h.tape, h.output, h.size, h.block⟩
theorem But.of_below {gs : List Nat} {a b : World} (h : Below a.heap.size a b) : But gs a b := ⟨h.os, h.tape, h.output, h.size, fun k hk _ => h.block k hk⟩
theorem But.alloc {gs : List Nat} {a w : World} (h : But gs a w) (o : Obj) : But gs a (w.alloc o) := h.trans (But.of_below ((Below.refl _ _).alloc (Nat.le_refl _) o))
theorem But.setCell {gs : List Nat} {a w : World} (h : But gs a w) {p : Addr} (hp : p.block ∈ gs) (u : Value) : But gs a (w.setCell p u) :=
  ⟨h.os, h.tape, h.output, by have := h.size; simpa using this, fun k hk hg => (Below.heap_setCell _ _ _ _ (by rintro rfl; exact hg hp)).trans (h.block k hk hg)⟩
/-- a block of which it is known that it is new may be written as well -/
theorem But.setNew {gs : List Nat} {a w : World} (h : But gs a w) {p : Addr} (hp : a.heap.size ≤ p.block) (u : Value) : But gs a (w.setCell p u) :=
  ⟨h.os, h.tape, h.output, by have := h.size; simpa using this, fun k hk hg => (Below.heap_setCell _ _ _ _ (by omega)).trans (h.block k hk hg)⟩
theorem But.cells {gs : List Nat} {w w' : World} (h : But gs w w') {g : Nat} {o : Obj} (hg : w.heap[g]? = some o) (hn : g ∉ gs) : w'.heap[g]? = some o :=
  (h.block g (Array.getElem?_eq_some_iff.1 hg).1 hn).trans hg
theorem _root_.Go.Proofs.Ytkkpfehgobanbaa.FldAt.but {gs : List Nat} {w w' : World} {g : Nat} (h : FldAt w g) (hb : But gs w w') (hg : g ∉ gs) : FldAt w' g := by
  have e : w'.heap[g]? = w.heap[g]? := hb.block g h.lt hg
  refine ⟨by have := h.lt; have := hb.size; omega, fun i hi => ?_, fun i hi => ?_⟩
  · exact (World.cell?_of_block (w := w) (by exact e)).trans (h.pow i hi)
  · exact (World.cell?_of_block (w := w) (by exact e)).trans (h.log i hi)
theorem MO.cells {w : World} {bo br : Nat} {g n c : Nat} {M : List (List UInt8)} (h : MO w bo br (some ⟨g, 0, none⟩) n c M) : ∃ cur, w.heap[g]? = some (.cells cur 35 (0, 0)) := by
  obtain ⟨vs, ho, _⟩ := h.out
  obtain ⟨cur, hg, _⟩ := ho.cells_at g rfl
  exact ⟨cur, hg⟩
theorem MO.but {gs : List Nat} {w w' : World} {bo br : Nat} {A : Option Addr} {n c : Nat} {M : List (List UInt8)} (h : MO w bo br A n c M) (hb : But gs w w')
    (hg : ∀ g, g ∈ gs → A ≠ some ⟨g, 0, none⟩ ∧ ∃ cur, w.heap[g]? = some (.cells cur 35 (0, 0))) : MO w' bo br A n c M :=
  h.keep fun g cur E hgc ho => hb.block g (Array.getElem?_eq_some_iff.1 hgc).1 fun hm => by
    obtain ⟨h1, cur', h2⟩ := hg g hm
    rcases ho with ⟨_, e⟩ | ⟨rfl, _⟩
    · exact h1 e
    · rw [hgc] at h2
      injection h2 with e
      injection e with _ e _
      cases e
/-- one that has no cell of the rows' kind is another one -/
theorem ne_of_type {w : World} {p g : Nat} {c1 c2 : Array Value} {E : TypeId} {f : Nat × Nat} (h1 : w.heap[p]? = some (.cells c1 E f)) (h2 : w.heap[g]? = some (.cells c2 35 (0, 0))) (hE : E ≠ 35) : p ≠ g := by
  rintro rfl
  rw [h1] at h2
  injection h2 with e
  injection e with _ e _
  exact hE e
/-- a box holds that -/
def Box (w : World) (p : Nat) (v : Value) (E : TypeId) : Prop := w.heap[p]? = some (.cells #[v] E (0, 0))
theorem Box.cell {w : World} {p : Nat} {v : Value} {E : TypeId} (h : Box w p v E) : w.cell? ⟨p, 0, none⟩ = some v := cell_of_one h
theorem Box.free {w : World} {p : Nat} {v : Value} {E : TypeId} (h : Box w p v E) : w.frozen? ⟨p, 0, none⟩ = false := free_of_one h
theorem Box.lt {w : World} {p : Nat} {v : Value} {E : TypeId} (h : Box w p v E) : p < w.heap.size := lt_of_block h
theorem Box.but {gs : List Nat} {w w' : World} {p : Nat} {v : Value} {E : TypeId} (h : Box w p v E) (hb : But gs w w') (hg : p ∉ gs) : Box w' p v E := hb.cells h hg

theorem tabM_set (n k : Nat) (F : Fn2) (i : Nat) (f : Nat → UInt8) : (tabM n k F).set i (rowL k f) = tabM n k (fun a => if a = i then f else F a) := by
  apply List.ext_getElem?
  intro a
  rw [List.getElem?_set]
  by_cases ha : a < n
  · rw [tabM_at k F ha, tabM_at k _ ha]
    by_cases e : i = a
    · subst e
      rw [if_pos rfl, if_pos rfl, if_pos (by rw [tabM_len]; omega)]
    · rw [if_neg e, if_neg (fun h => e h.symm)]
  · have e1 : ∀ F : Fn2, (tabM n k F)[a]? = none := fun F => List.getElem?_eq_none (by rw [tabM_len]; omega)
    rw [e1, e1, tabM_len]
    split
    · rw [if_neg (by omega)]
    · rfl
theorem tabM_swap (n k : Nat) (F : Fn2) (led first : Nat) : ((tabM n k F).set led (rowL k (F first))).set first (rowL k (F led)) = tabM n k (fun a => F (sw led first a)) := by
  rw [tabM_set, tabM_set]
  apply tabM_congr
  intro a j _ _
  unfold sw
  by_cases e1 : a = first
  · rw [if_pos e1]
    by_cases e2 : a = led
    · rw [if_pos e2, ← e1, ← e2]
    · rw [if_neg e2, if_pos e1]
  · rw [if_neg e1, if_neg e1]
    by_cases e2 : a = led
    · rw [if_pos e2, if_pos e2]
    · rw [if_neg e2, if_neg e2]
theorem tabM_lead (n k : Nat) (F : Fn2) (led first c : Nat) : (tabM n k (fun a => F (sw led first a))).set led (lay c (rowL k fun _ => 0) (rowL k (F (sw led first led)))) = tabM n k (lead1 F led first c) := by
  have e : sw led first led = first := by unfold sw; simp
  rw [lay_rowL, tabM_set, e]
  apply tabM_congr
  intro a j _ _
  unfold lead1
  by_cases h : a = led
  · rw [if_pos h, if_pos h]
  · rw [if_neg h, if_neg h]
theorem tabM_onto (n k : Nat) (F : Fn2) (i led t : Nat) : (tabM n k F).set i (lay t (rowL k (F i)) (rowL k (F led))) = tabM n k (onto F i led t) := by
  rw [lay_rowL, tabM_set]
  apply tabM_congr
  intro a j _ _
  unfold onto
  by_cases h : a = i
  · rw [if_pos h, if_pos h]
  · rw [if_neg h, if_neg h]

/-- a step was done upon the matrix whose rows lie at gx -/
def Did (bo br gx n c k : Nat) (F : Fn2) (w : World) (e : Ending) (w' : World) : Prop :=
  e = .returned (.tuple #[]) ∧ MO w' bo br (some ⟨gx, 0, none⟩) n c (tabM n k F) ∧ But [gx] w w'
theorem did_end {bo br gx n c k i : Nat} {F G : Fn2} {w w1 w2 : World} {A : Option Addr} {m d : Nat} {l : List UInt8} (h : MO w1 bo br (some ⟨gx, 0, none⟩) n c (tabM n k F)) (hb0 : But [gx] w w1)
    (ho : Own w2 w1.heap.size 5 A m d l) (hb : Below w1.heap.size w1 w2) (hl : l.length = m) (hbr : br ≤ w1.heap.size) (e : (tabM n k F).set i l = tabM n k G) : Did bo br gx n c k G w (.returned (.tuple #[])) (w2.setCell ⟨gx, i, none⟩ (.slice A m d)) := by
  subst hl
  refine ⟨rfl, ?_, (hb0.trans (But.of_below hb)).setCell (by simp) _⟩
  rw [← e]
  exact (h.below hb (Nat.le_refl _)).setRow rfl (ho.lower hbr)

set_option maxHeartbeats 1000000 in
set_option maxRecDepth 100000 in
theorem onto_any {bo br : Nat} (g gx n c k i led t p1 p2 p3 p4 : Nat) (F : Fn2) (w : World) (hf : FldAt w g) (h : MO w bo br (some ⟨gx, 0, none⟩) n c (tabM n k F)) (hi : i < n) (hl : led < n) (hne : i ≠ led) (hk : k ≤ 255) (ht : t < 256) (hbr : br ≤ w.heap.size)
    (h1 : Box w p1 (.pointer (some ⟨g, 0, none⟩)) 41) (h2 : Box w p2 (.int .i64 (i : Int)) 3) (h3 : Box w p3 (.int .u8 (t : Int)) 5) (h4 : Box w p4 (.int .i64 (led : Int)) 3) :
    Calls Try.prog 98 #[.slice (some ⟨gx, 0, none⟩) n c, .pointer (some ⟨p1, 0, none⟩), .pointer (some ⟨p2, 0, none⟩), .pointer (some ⟨p3, 0, none⟩), .pointer (some ⟨p4, 0, none⟩)] w (Did bo br gx n c k (onto F i led t) w) := by
  obtain ⟨g1, B1, d1, r1, e1, _, hgl, hfz, hr1, hc1, ho1⟩ := h.row hi
  injection e1 with e1
  injection e1 with e1 _ _
  subst e1
  obtain ⟨g2, B2, d2, r2, e2, _, _, _, hr2, hc2, ho2⟩ := h.row hl
  injection e2 with e2
  injection e2 with e2 _ _
  subst e2
  rw [tabM_at k F hi] at hr1
  rw [tabM_at k F hl] at hr2
  injection hr1 with hr1
  injection hr2 with hr2
  rw [← hr1, rowL_len] at hc1 ho1
  rw [← hr2, rowL_len] at hc2 ho2
  obtain ⟨cur, hcur⟩ := h.cells
  have n1 := ne_of_type h1 hcur (by decide)
  have n2 := ne_of_type h2 hcur (by decide)
  have n3 := ne_of_type h3 hcur (by decide)
  have n4 := ne_of_type h4 hcur (by decide)
  have HS := Lib.hid (And.intro h2.cell (And.intro h1.cell (And.intro h3.cell (And.intro h4.cell hc2))))
  have HC1 := Lib.hid hc1
  have HFZ := Lib.hid (hfz i)
  have HF := Lib.hid hf
  have HM := Lib.hid h
  have HO := Lib.hid (And.intro ho1.rd ho2.rd)
  have HN := Lib.hid (And.intro n1 (And.intro n2 (And.intro n3 n4)))
  clear h1 h2 h3 h4 hc1 hc2 hfz hf h ho1 ho2 hr1 hr2 hcur n1 n2 n3 n4
  go_enter Try.func98, Try.ntmps98
  refine wp_region_held_drew (S := fun u => u.cell? ⟨p2, 0, none⟩ = some (.int .i64 (i : Int)) ∧ u.cell? ⟨p1, 0, none⟩ = some (.pointer (some ⟨g, 0, none⟩)) ∧ u.cell? ⟨p3, 0, none⟩ = some (.int .u8 (t : Int)) ∧ u.cell? ⟨p4, 0, none⟩ = some (.int .i64 (led : Int)) ∧ u.cell? ⟨gx, led, none⟩ = some (.slice B2 k d2)) (by kernel_rfl) (by exact HS.out) (fun hHeld => ?_)
  refine wpAnyH_take (i := 0) (oi := ⟨some 6, _, _, _, _, _⟩) (v := ?_) rfl (by kernel_rfl) (by kernel_rfl) (by kernel_rfl) (fun _ _ _ h => h) (Or.inl ⟨by rfl, ?_⟩) (by assumption) ?_
  rotate_left
  · intro w hSw
    obtain ⟨s1, s2, s3, s4, s5⟩ := hSw
    go_simp
    all_goals (with_reducible rfl)
  try simp only [Act.put, List.setIfInBounds_toArray, List.set_cons_zero, List.set_cons_succ]
  refine wpAnyH_take (i := 1) (oi := ⟨some 7, _, _, _, _, _⟩) (v := ?_) rfl (by kernel_rfl) (by kernel_rfl) (by kernel_rfl) (fun _ _ _ h => h) (Or.inl ⟨by rfl, ?_⟩) (by assumption) ?_
  rotate_left
  · intro w hSw
    obtain ⟨s1, s2, s3, s4, s5⟩ := hSw
    go_simp
    all_goals (with_reducible rfl)
  try simp only [Act.put, List.setIfInBounds_toArray, List.set_cons_zero, List.set_cons_succ]
  refine wpAnyH_take (i := 2) (oi := ⟨some 8, _, _, _, _, _⟩) (v := ?_) rfl (by kernel_rfl) (by kernel_rfl) (by kernel_rfl) (fun _ _ _ h => h) (Or.inl ⟨by rfl, ?_⟩) (by assumption) ?_
  rotate_left
  · intro w hSw
    obtain ⟨s1, s2, s3, s4, s5⟩ := hSw
    go_simp
    all_goals (with_reducible rfl)
  try simp only [Act.put, List.setIfInBounds_toArray, List.set_cons_zero, List.set_cons_succ]
  refine wpAnyH_take (i := 3) (oi := ⟨some 9, _, _, _, _, _⟩) (v := ?_) rfl (by kernel_rfl) (by kernel_rfl) (by kernel_rfl) (fun _ _ _ h => h) (Or.inl ⟨by rfl, ?_⟩) (by assumption) ?_
  rotate_left
  · intro w hSw
    obtain ⟨s1, s2, s3, s4, s5⟩ := hSw
    go_simp
    all_goals (with_reducible rfl)
  try simp only [Act.put, List.setIfInBounds_toArray, List.set_cons_zero, List.set_cons_succ]
  refine wpAnyH_take (i := 4) (oi := ⟨some 10, _, _, _, _, _⟩) (v := ?_) rfl (by kernel_rfl) (by kernel_rfl) (by kernel_rfl) (fun _ _ _ h => h) (Or.inl ⟨by rfl, ?_⟩) (by assumption) ?_
  rotate_left
  · intro w hSw
    obtain ⟨s1, s2, s3, s4, s5⟩ := hSw
    go_simp
    all_goals (with_reducible rfl)
  try simp only [Act.put, List.setIfInBounds_toArray, List.set_cons_zero, List.set_cons_succ]
  refine wpAnyH_take (i := 5) (oi := ⟨some 11, _, _, _, _, _⟩) (v := ?_) rfl (by kernel_rfl) (by kernel_rfl) (by kernel_rfl) (fun _ _ _ h => h) (Or.inl ⟨by rfl, ?_⟩) (by assumption) ?_
  rotate_left
  · intro w hSw
    obtain ⟨s1, s2, s3, s4, s5⟩ := hSw
    go_simp
    all_goals (with_reducible rfl)
  try simp only [Act.put, List.setIfInBounds_toArray, List.set_cons_zero, List.set_cons_succ]
  refine wpAnyH_take (i := 7) (oi := ⟨some 13, _, _, _, _, _⟩) (v := ?_) rfl (by kernel_rfl) (by kernel_rfl) (by kernel_rfl) (fun _ _ _ h => h) (Or.inl ⟨by rfl, ?_⟩) (by assumption) ?_
  rotate_left
  · intro w hSw
    obtain ⟨s1, s2, s3, s4, s5⟩ := hSw
    go_simp
    all_goals (with_reducible rfl)
  try simp only [Act.put, List.setIfInBounds_toArray, List.set_cons_zero, List.set_cons_succ]
  refine wpAnyH_take (i := 8) (oi := ⟨some 14, _, _, _, _, _⟩) (v := ?_) rfl (by kernel_rfl) (by kernel_rfl) (by kernel_rfl) (fun _ _ _ h => h) (Or.inl ⟨by rfl, ?_⟩) (by assumption) ?_
  rotate_left
  · intro w hSw
    obtain ⟨s1, s2, s3, s4, s5⟩ := hSw
    go_simp
    all_goals (with_reducible rfl)
  try simp only [Act.put, List.setIfInBounds_toArray, List.set_cons_zero, List.set_cons_succ]
  refine wpAnyH_take (i := 9) (oi := ⟨some 15, _, _, _, _, _⟩) (v := ?_) rfl (by kernel_rfl) (by kernel_rfl) (by kernel_rfl) (fun _ _ _ h => h) (Or.inl ⟨by rfl, ?_⟩) (by assumption) ?_
  rotate_left
  · intro w hSw
    obtain ⟨s1, s2, s3, s4, s5⟩ := hSw
    go_simp
    all_goals (with_reducible rfl)
  try simp only [Act.put, List.setIfInBounds_toArray, List.set_cons_zero, List.set_cons_succ]
  refine wpAnyH_take (i := 10) (oi := ⟨some 16, _, _, _, _, _⟩) (v := ?_) rfl (by kernel_rfl) (by kernel_rfl) (by kernel_rfl) (fun _ _ _ h => h) (Or.inl ⟨by rfl, ?_⟩) (by assumption) ?_
  rotate_left
  · intro w hSw
    obtain ⟨s1, s2, s3, s4, s5⟩ := hSw
    go_simp
    all_goals (with_reducible rfl)
  try simp only [Act.put, List.setIfInBounds_toArray, List.set_cons_zero, List.set_cons_succ]
  refine wpAnyH_take (i := 11) (oi := ⟨some 17, _, _, _, _, _⟩) (v := ?_) rfl (by kernel_rfl) (by kernel_rfl) (by kernel_rfl) (fun _ _ _ h => h) (Or.inl ⟨by rfl, ?_⟩) (by assumption) ?_
  rotate_left
  · intro w hSw
    obtain ⟨s1, s2, s3, s4, s5⟩ := hSw
    go_simp
    all_goals (with_reducible rfl)
  try simp only [Act.put, List.setIfInBounds_toArray, List.set_cons_zero, List.set_cons_succ]
  have hH := hHeld
  have hc1 : w.drew.cell? ⟨gx, i, none⟩ = some (.slice B1 k d1) := HC1.out
  refine wpAnyH_ready (rs := [6]) (by kernel_rfl) (by simp) (AllReadyH.cons (o := ⟨some 12, _, _, _, _, _⟩) rfl (fun K hK => ?_) AllReadyH.nil)
  go_simp
  refine hK.out _ _ (hH) (fun hHeld => ?_)
  clear hK K
  try simp only [Act.put, List.setIfInBounds_toArray, List.set_cons_zero, List.set_cons_succ]
  refine wpAnyH_ready (rs := [12]) (by kernel_rfl) (by simp) (AllReadyH.cons (o := ⟨some 18, _, _, _, _, _⟩) rfl (fun K hK => ?_) AllReadyH.nil)
  go_simp
  refine (lay_any g B1 k d1 _ t B2 k d2 _ _ (by exact HF.out.drew) (by exact HO.out.1.drew) (by exact HO.out.2.drew) ht (by omega)).mono ?_
  rintro e w3 ⟨A3, c3, rfl, ho3, hb3⟩
  refine hK.out _ _ (by exact ⟨(hb3.cell (block_lt_of_cell hH.1)).trans hH.1, (hb3.cell (block_lt_of_cell hH.2.1)).trans hH.2.1, (hb3.cell (block_lt_of_cell hH.2.2.1)).trans hH.2.2.1, (hb3.cell (block_lt_of_cell hH.2.2.2.1)).trans hH.2.2.2.1, (hb3.cell (block_lt_of_cell hH.2.2.2.2)).trans hH.2.2.2.2⟩) (fun hHeld => ?_)
  clear hK K
  try simp only [Act.put, List.setIfInBounds_toArray, List.set_cons_zero, List.set_cons_succ]
  refine wpAnyH_take (i := 13) (oi := ⟨some 19, _, _, _, _, _⟩) (v := ?_) rfl (by kernel_rfl) (by kernel_rfl) (by kernel_rfl) (fun _ _ _ h => h) (Or.inl ⟨by rfl, ?_⟩) (by assumption) ?_
  rotate_left
  · intro w hSw
    obtain ⟨s1, s2, s3, s4, s5⟩ := hSw
    go_simp
    all_goals (with_reducible rfl)
  try simp only [Act.put, List.setIfInBounds_toArray, List.set_cons_zero, List.set_cons_succ]
  have hH3 := hHeld
  have hf3 : w3.frozen? ⟨gx, i, none⟩ = false := (hb3.frozen (p := ⟨gx, i, none⟩) (by exact hgl)).trans HFZ.out
  have hx3 : w3.cell? ⟨gx, i, none⟩ = some (.slice B1 k d1) := (hb3.cell (p := ⟨gx, i, none⟩) (by exact hgl)).trans HC1.out
  refine wpAnyH_ready (rs := [14]) (by kernel_rfl) (by simp) (AllReadyH.cons (o := ⟨none, _, _, _, _, _⟩) rfl (fun K hK => ?_) AllReadyH.nil)
  go_simp
  refine hK.out _ _ (by exact ⟨(World.cell?_of_block (w := w3) (Below.heap_setCell _ _ _ _ (by exact HN.out.2.1))).trans hH3.1, (World.cell?_of_block (w := w3) (Below.heap_setCell _ _ _ _ (by exact HN.out.1))).trans hH3.2.1, (World.cell?_of_block (w := w3) (Below.heap_setCell _ _ _ _ (by exact HN.out.2.2.1))).trans hH3.2.2.1, (World.cell?_of_block (w := w3) (Below.heap_setCell _ _ _ _ (by exact HN.out.2.2.2))).trans hH3.2.2.2.1, (World.cell?_setCell_other _ _ _ _ (by intro e; injection e with _ e _; omega)).trans hH3.2.2.2.2⟩) (fun hHeld => ?_)
  clear hK K
  try simp only [Act.put, List.setIfInBounds_toArray, List.set_cons_zero, List.set_cons_succ]
  refine wpAnyH_done (by kernel_rfl) ?_ _
  go_wp2
  go_end0
  exact did_end (HM.out.drew) ((But.refl _ _).drew) ho3 hb3 (by rw [lay_len, rowL_len]) (by exact hbr) (tabM_onto n k F i led t)
end Go.Proofs.Ytkkpfehgobanbaa
