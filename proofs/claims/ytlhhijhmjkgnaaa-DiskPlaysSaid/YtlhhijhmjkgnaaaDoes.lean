/- Any call of the laws upon a disk (does). -/
import Derived.Test.YtlhhijhmjkgnaaaDskV
import Derived.Deep.RegionHeld
namespace Go.Proofs.Ytlhhijhmjkgnaaa
open Go.RowKit Go.Coop
set_option maxRecDepth 100000
theorem box_keep {w w' : World} {gs : List Nat} {bx : Nat} (hb : But gs w w') (hn : bx ∉ gs) (hlt : bx < w.heap.size) (k : Nat) : w'.cell? ⟨bx, k, none⟩ = w.cell? ⟨bx, k, none⟩ :=
  World.cell?_of_block (w := w) (hb.block bx hlt hn)
theorem does_write1 (w : World) {g m c : Nat} {S : DS} (h : DiskAt w g m c S) (i a n : Int) (b : UInt8) (A : Option Addr) (len cap : Nat) :
    Calls Try.prog 34 #[.pointer (some ⟨g, 0, none⟩), .agg #[.int .i64 1, .int .i64 i, .int .i64 a, .int .i64 n, .int .u8 (b.toNat : Int), .slice A len cap]] w (Did g m c (S.writeOf i (ofB b)) (.tuple #[]) w) := by
  obtain ⟨OB, hOB⟩ : ∃ OB : Obj, Obj.cells #[.int .i64 1, .int .i64 i, .int .i64 a, .int .i64 n, .int .u8 (b.toNat : Int), .slice A len cap] 47 = OB := ⟨_, rfl⟩
  obtain ⟨w1, hw1⟩ : ∃ w1, w.alloc OB = w1 := ⟨_, rfl⟩
  obtain ⟨bx, hbx⟩ : ∃ bx, w.heap.size = bx := ⟨_, rfl⟩
  have hg := h.g_lt
  have hm := h.m_lt
  have hc := h.c_lt
  have hh : w1.heap[bx]? = some (.cells #[.int .i64 1, .int .i64 i, .int .i64 a, .int .i64 n, .int .u8 (b.toNat : Int), .slice A len cap] 47 (0, 0)) := by rw [← hw1, ← hbx, ← hOB]; exact heap_alloc_new w _
  have hB1 : But [] w w1 := by rw [← hw1]; exact (But.refl [] w).alloc _
  have HX := Lib.hid (And.intro (by rw [← hw1]; exact h.alloc OB : DiskAt w1 g m c S) (And.intro (Array.getElem?_eq_some_iff.1 hh).1 (And.intro (by simp; omega : bx ∉ [g, m, c]) hB1)))
  have HW := Lib.hid (And.intro hOB (And.intro hw1 hbx))
  have c1 : w1.cell? ⟨bx, 1, none⟩ = some (.int .i64 i) := cell_of_row w1 bx 1 _ 47 (0, 0) hh
  have c4 : w1.cell? ⟨bx, 4, none⟩ = some (.int .u8 (b.toNat : Int)) := cell_of_row w1 bx 4 _ 47 (0, 0) hh
  clear hh hB1 hg hm hc h hOB hw1 hbx
  go_enter Try.func34, Try.ntmps34
  go_wp2
  rw [HW.out.1, HW.out.2.1, HW.out.2.2]
  refine wp_region_held_drew (S := fun w' => w'.cell? ⟨bx, 1, none⟩ = some (.int .i64 i) ∧ w'.cell? ⟨bx, 4, none⟩ = some (.int .u8 (b.toNat : Int))) (by kernel_rfl) (⟨c1, c4⟩) (fun hHeld => ?_)
  refine wpAnyH_take (i := 0) (oi := ⟨some 11, _, _, _, _, _⟩) (v := ?_) rfl (by kernel_rfl) (by kernel_rfl) (by kernel_rfl) (fun _ _ _ h => h) (Or.inl ⟨by rfl, ?_⟩) (by assumption) ?_
  rotate_left
  · intro w hSw
    (try dsimp only at hSw)
    go_simp
    all_goals (with_reducible rfl)
  try simp only [Act.put, List.setIfInBounds_toArray, List.set_cons_zero, List.set_cons_succ]
  refine wpAnyH_take (i := 1) (oi := ⟨some 12, _, _, _, _, _⟩) (v := ?_) rfl (by kernel_rfl) (by kernel_rfl) (by kernel_rfl) (fun _ _ _ h => h) (Or.inl ⟨by rfl, ?_⟩) (by assumption) ?_
  rotate_left
  · intro w hSw
    (try dsimp only at hSw)
    go_simp
    all_goals (with_reducible rfl)
  try simp only [Act.put, List.setIfInBounds_toArray, List.set_cons_zero, List.set_cons_succ]
  refine wpAnyH_take (i := 2) (oi := ⟨some 13, _, _, _, _, _⟩) (v := ?_) rfl (by kernel_rfl) (by kernel_rfl) (by kernel_rfl) (fun _ _ _ h => h) (Or.inl ⟨by rfl, ?_⟩) (by assumption) ?_
  rotate_left
  · intro w hSw
    (try dsimp only at hSw)
    go_simp
    all_goals (with_reducible rfl)
  try simp only [Act.put, List.setIfInBounds_toArray, List.set_cons_zero, List.set_cons_succ]
  refine wpAnyH_take (i := 3) (oi := ⟨some 14, _, _, _, _, _⟩) (v := ?_) rfl (by kernel_rfl) (by kernel_rfl) (by kernel_rfl) (fun _ _ _ h => h) (Or.inl ⟨by rfl, ?_⟩) (by assumption) ?_
  rotate_left
  · intro w hSw
    (try dsimp only at hSw)
    go_simp
    all_goals (with_reducible rfl)
  try simp only [Act.put, List.setIfInBounds_toArray, List.set_cons_zero, List.set_cons_succ]
  refine wpAnyH_take (i := 4) (oi := ⟨some 15, _, _, _, _, _⟩) (v := ?_) rfl (by kernel_rfl) (by kernel_rfl) (by kernel_rfl) (fun _ _ _ h => h) (Or.inl ⟨by rfl, ?_⟩) (by assumption) ?_
  rotate_left
  · intro w hSw
    (try dsimp only at hSw)
    go_simp
    all_goals (with_reducible rfl)
  try simp only [Act.put, List.setIfInBounds_toArray, List.set_cons_zero, List.set_cons_succ]
  refine wpAnyH_ready (rs := [5]) (by kernel_rfl) (by simp) (AllReadyH.cons (o := ⟨some 16, _, _, _, _, _⟩) rfl (fun K hK => ?_) AllReadyH.nil)
  go_simp
  refine (of_any b _).mono ?_
  rintro e w5 ⟨rfl, hw5⟩
  have hD5 : DiskAt w5 g m c S := by rw [hw5]; exact HX.out.1.drew.alloc _
  have hB5 : Below w1.heap.size w1 w5 := by rw [hw5]; exact (Below.refl w1.heap.size w1).drew.alloc (Nat.le_refl _) _
  have hR5 : Rd w5 (some ⟨w1.heap.size, 0, none⟩) 64 (ofB b) := by rw [hw5]; exact rd_new w1.drew _ (ofB_len b) 5
  clear hw5
  refine hK.out _ _ (⟨(hB5.cell (p := ⟨bx, 1, none⟩) HX.out.2.1).trans hHeld.1, (hB5.cell (p := ⟨bx, 4, none⟩) HX.out.2.1).trans hHeld.2⟩) (fun hHeld => ?_)
  clear hK K
  try simp only [Act.put, List.setIfInBounds_toArray, List.set_cons_zero, List.set_cons_succ]
  refine wpAnyH_ready (rs := [6]) (by kernel_rfl) (by simp) (AllReadyH.cons (o := ⟨some 17, _, _, _, _, _⟩) rfl (fun K hK => ?_) AllReadyH.nil)
  go_simp
  refine (dd_write _ hD5 i hR5 _).mono ?_
  rintro e w6 ⟨r, rfl, c', hD6, hB6, hc6⟩
  refine hK.out _ _ (⟨(box_keep hB6 HX.out.2.2.1 (Nat.lt_of_lt_of_le HX.out.2.1 hB5.size) 1).trans hHeld.1, (box_keep hB6 HX.out.2.2.1 (Nat.lt_of_lt_of_le HX.out.2.1 hB5.size) 4).trans hHeld.2⟩) (fun hHeld => ?_)
  clear hK K
  try simp only [Act.put, List.setIfInBounds_toArray, List.set_cons_zero, List.set_cons_succ]
  refine wpAnyH_done (by kernel_rfl) ?_ _
  go_wp2
  go_end0
  exact ⟨rfl, c', hD6, (((HX.out.2.2.2.mono (by simp)).trans (But.of_below hB5)).trans hB6), by have := HX.out.2.2.2.size; have := hB5.size; omega⟩
theorem does_write2 (w : World) {g m c : Nat} {S : DS} (h : DiskAt w g m c S) (i a n : Int) (b : UInt8) (A : Option Addr) (len cap : Nat) :
    Calls Try.prog 34 #[.pointer (some ⟨g, 0, none⟩), .agg #[.int .i64 2, .int .i64 i, .int .i64 a, .int .i64 n, .int .u8 (b.toNat : Int), .slice A len cap]] w (Did g m c (S.writeOf i (ofB b)) (.tuple #[]) w) := by
  obtain ⟨OB, hOB⟩ : ∃ OB : Obj, Obj.cells #[.int .i64 2, .int .i64 i, .int .i64 a, .int .i64 n, .int .u8 (b.toNat : Int), .slice A len cap] 47 = OB := ⟨_, rfl⟩
  obtain ⟨w1, hw1⟩ : ∃ w1, w.alloc OB = w1 := ⟨_, rfl⟩
  obtain ⟨bx, hbx⟩ : ∃ bx, w.heap.size = bx := ⟨_, rfl⟩
  have hg := h.g_lt
  have hm := h.m_lt
  have hc := h.c_lt
  have hh : w1.heap[bx]? = some (.cells #[.int .i64 2, .int .i64 i, .int .i64 a, .int .i64 n, .int .u8 (b.toNat : Int), .slice A len cap] 47 (0, 0)) := by rw [← hw1, ← hbx, ← hOB]; exact heap_alloc_new w _
  have hB1 : But [] w w1 := by rw [← hw1]; exact (But.refl [] w).alloc _
  have HX := Lib.hid (And.intro (by rw [← hw1]; exact h.alloc OB : DiskAt w1 g m c S) (And.intro (Array.getElem?_eq_some_iff.1 hh).1 (And.intro (by simp; omega : bx ∉ [g, m, c]) hB1)))
  have HW := Lib.hid (And.intro hOB (And.intro hw1 hbx))
  have c1 : w1.cell? ⟨bx, 1, none⟩ = some (.int .i64 i) := cell_of_row w1 bx 1 _ 47 (0, 0) hh
  have c4 : w1.cell? ⟨bx, 4, none⟩ = some (.int .u8 (b.toNat : Int)) := cell_of_row w1 bx 4 _ 47 (0, 0) hh
  clear hh hB1 hg hm hc h hOB hw1 hbx
  go_enter Try.func34, Try.ntmps34
  go_wp2
  rw [HW.out.1, HW.out.2.1, HW.out.2.2]
  refine wp_region_held_drew (S := fun w' => w'.cell? ⟨bx, 1, none⟩ = some (.int .i64 i) ∧ w'.cell? ⟨bx, 4, none⟩ = some (.int .u8 (b.toNat : Int))) (by kernel_rfl) (⟨c1, c4⟩) (fun hHeld => ?_)
  refine wpAnyH_take (i := 0) (oi := ⟨some 11, _, _, _, _, _⟩) (v := ?_) rfl (by kernel_rfl) (by kernel_rfl) (by kernel_rfl) (fun _ _ _ h => h) (Or.inl ⟨by rfl, ?_⟩) (by assumption) ?_
  rotate_left
  · intro w hSw
    (try dsimp only at hSw)
    go_simp
    all_goals (with_reducible rfl)
  try simp only [Act.put, List.setIfInBounds_toArray, List.set_cons_zero, List.set_cons_succ]
  refine wpAnyH_take (i := 1) (oi := ⟨some 12, _, _, _, _, _⟩) (v := ?_) rfl (by kernel_rfl) (by kernel_rfl) (by kernel_rfl) (fun _ _ _ h => h) (Or.inl ⟨by rfl, ?_⟩) (by assumption) ?_
  rotate_left
  · intro w hSw
    (try dsimp only at hSw)
    go_simp
    all_goals (with_reducible rfl)
  try simp only [Act.put, List.setIfInBounds_toArray, List.set_cons_zero, List.set_cons_succ]
  refine wpAnyH_take (i := 2) (oi := ⟨some 13, _, _, _, _, _⟩) (v := ?_) rfl (by kernel_rfl) (by kernel_rfl) (by kernel_rfl) (fun _ _ _ h => h) (Or.inl ⟨by rfl, ?_⟩) (by assumption) ?_
  rotate_left
  · intro w hSw
    (try dsimp only at hSw)
    go_simp
    all_goals (with_reducible rfl)
  try simp only [Act.put, List.setIfInBounds_toArray, List.set_cons_zero, List.set_cons_succ]
  refine wpAnyH_take (i := 3) (oi := ⟨some 14, _, _, _, _, _⟩) (v := ?_) rfl (by kernel_rfl) (by kernel_rfl) (by kernel_rfl) (fun _ _ _ h => h) (Or.inl ⟨by rfl, ?_⟩) (by assumption) ?_
  rotate_left
  · intro w hSw
    (try dsimp only at hSw)
    go_simp
    all_goals (with_reducible rfl)
  try simp only [Act.put, List.setIfInBounds_toArray, List.set_cons_zero, List.set_cons_succ]
  refine wpAnyH_take (i := 4) (oi := ⟨some 15, _, _, _, _, _⟩) (v := ?_) rfl (by kernel_rfl) (by kernel_rfl) (by kernel_rfl) (fun _ _ _ h => h) (Or.inl ⟨by rfl, ?_⟩) (by assumption) ?_
  rotate_left
  · intro w hSw
    (try dsimp only at hSw)
    go_simp
    all_goals (with_reducible rfl)
  try simp only [Act.put, List.setIfInBounds_toArray, List.set_cons_zero, List.set_cons_succ]
  refine wpAnyH_ready (rs := [5]) (by kernel_rfl) (by simp) (AllReadyH.cons (o := ⟨some 16, _, _, _, _, _⟩) rfl (fun K hK => ?_) AllReadyH.nil)
  go_simp
  refine (of_any b _).mono ?_
  rintro e w5 ⟨rfl, hw5⟩
  have hD5 : DiskAt w5 g m c S := by rw [hw5]; exact HX.out.1.drew.alloc _
  have hB5 : Below w1.heap.size w1 w5 := by rw [hw5]; exact (Below.refl w1.heap.size w1).drew.alloc (Nat.le_refl _) _
  have hR5 : Rd w5 (some ⟨w1.heap.size, 0, none⟩) 64 (ofB b) := by rw [hw5]; exact rd_new w1.drew _ (ofB_len b) 5
  clear hw5
  refine hK.out _ _ (⟨(hB5.cell (p := ⟨bx, 1, none⟩) HX.out.2.1).trans hHeld.1, (hB5.cell (p := ⟨bx, 4, none⟩) HX.out.2.1).trans hHeld.2⟩) (fun hHeld => ?_)
  clear hK K
  try simp only [Act.put, List.setIfInBounds_toArray, List.set_cons_zero, List.set_cons_succ]
  refine wpAnyH_ready (rs := [6]) (by kernel_rfl) (by simp) (AllReadyH.cons (o := ⟨some 17, _, _, _, _, _⟩) rfl (fun K hK => ?_) AllReadyH.nil)
  go_simp
  refine (dd_write _ hD5 i hR5 _).mono ?_
  rintro e w6 ⟨r, rfl, c', hD6, hB6, hc6⟩
  refine hK.out _ _ (⟨(box_keep hB6 HX.out.2.2.1 (Nat.lt_of_lt_of_le HX.out.2.1 hB5.size) 1).trans hHeld.1, (box_keep hB6 HX.out.2.2.1 (Nat.lt_of_lt_of_le HX.out.2.1 hB5.size) 4).trans hHeld.2⟩) (fun hHeld => ?_)
  clear hK K
  try simp only [Act.put, List.setIfInBounds_toArray, List.set_cons_zero, List.set_cons_succ]
  refine wpAnyH_done (by kernel_rfl) ?_ _
  go_wp2
  go_end0
  exact ⟨rfl, c', hD6, (((HX.out.2.2.2.mono (by simp)).trans (But.of_below hB5)).trans hB6), by have := HX.out.2.2.2.size; have := hB5.size; omega⟩
theorem does_write3 (w : World) {g m c : Nat} {S : DS} (h : DiskAt w g m c S) (i a n : Int) (b : UInt8) (A : Option Addr) (len cap : Nat) :
    Calls Try.prog 34 #[.pointer (some ⟨g, 0, none⟩), .agg #[.int .i64 3, .int .i64 i, .int .i64 a, .int .i64 n, .int .u8 (b.toNat : Int), .slice A len cap]] w (Did g m c (S.writeOf i (ofB b)) (.tuple #[]) w) := by
  obtain ⟨OB, hOB⟩ : ∃ OB : Obj, Obj.cells #[.int .i64 3, .int .i64 i, .int .i64 a, .int .i64 n, .int .u8 (b.toNat : Int), .slice A len cap] 47 = OB := ⟨_, rfl⟩
  obtain ⟨w1, hw1⟩ : ∃ w1, w.alloc OB = w1 := ⟨_, rfl⟩
  obtain ⟨bx, hbx⟩ : ∃ bx, w.heap.size = bx := ⟨_, rfl⟩
  have hg := h.g_lt
  have hm := h.m_lt
  have hc := h.c_lt
  have hh : w1.heap[bx]? = some (.cells #[.int .i64 3, .int .i64 i, .int .i64 a, .int .i64 n, .int .u8 (b.toNat : Int), .slice A len cap] 47 (0, 0)) := by rw [← hw1, ← hbx, ← hOB]; exact heap_alloc_new w _
  have hB1 : But [] w w1 := by rw [← hw1]; exact (But.refl [] w).alloc _
  have HX := Lib.hid (And.intro (by rw [← hw1]; exact h.alloc OB : DiskAt w1 g m c S) (And.intro (Array.getElem?_eq_some_iff.1 hh).1 (And.intro (by simp; omega : bx ∉ [g, m, c]) hB1)))
  have HW := Lib.hid (And.intro hOB (And.intro hw1 hbx))
  have c1 : w1.cell? ⟨bx, 1, none⟩ = some (.int .i64 i) := cell_of_row w1 bx 1 _ 47 (0, 0) hh
  have c4 : w1.cell? ⟨bx, 4, none⟩ = some (.int .u8 (b.toNat : Int)) := cell_of_row w1 bx 4 _ 47 (0, 0) hh
  clear hh hB1 hg hm hc h hOB hw1 hbx
  go_enter Try.func34, Try.ntmps34
  go_wp2
  rw [HW.out.1, HW.out.2.1, HW.out.2.2]
  refine wp_region_held_drew (S := fun w' => w'.cell? ⟨bx, 1, none⟩ = some (.int .i64 i) ∧ w'.cell? ⟨bx, 4, none⟩ = some (.int .u8 (b.toNat : Int))) (by kernel_rfl) (⟨c1, c4⟩) (fun hHeld => ?_)
  refine wpAnyH_take (i := 0) (oi := ⟨some 11, _, _, _, _, _⟩) (v := ?_) rfl (by kernel_rfl) (by kernel_rfl) (by kernel_rfl) (fun _ _ _ h => h) (Or.inl ⟨by rfl, ?_⟩) (by assumption) ?_
  rotate_left
  · intro w hSw
    (try dsimp only at hSw)
    go_simp
    all_goals (with_reducible rfl)
  try simp only [Act.put, List.setIfInBounds_toArray, List.set_cons_zero, List.set_cons_succ]
  refine wpAnyH_take (i := 1) (oi := ⟨some 12, _, _, _, _, _⟩) (v := ?_) rfl (by kernel_rfl) (by kernel_rfl) (by kernel_rfl) (fun _ _ _ h => h) (Or.inl ⟨by rfl, ?_⟩) (by assumption) ?_
  rotate_left
  · intro w hSw
    (try dsimp only at hSw)
    go_simp
    all_goals (with_reducible rfl)
  try simp only [Act.put, List.setIfInBounds_toArray, List.set_cons_zero, List.set_cons_succ]
  refine wpAnyH_take (i := 2) (oi := ⟨some 13, _, _, _, _, _⟩) (v := ?_) rfl (by kernel_rfl) (by kernel_rfl) (by kernel_rfl) (fun _ _ _ h => h) (Or.inl ⟨by rfl, ?_⟩) (by assumption) ?_
  rotate_left
  · intro w hSw
    (try dsimp only at hSw)
    go_simp
    all_goals (with_reducible rfl)
  try simp only [Act.put, List.setIfInBounds_toArray, List.set_cons_zero, List.set_cons_succ]
  refine wpAnyH_take (i := 3) (oi := ⟨some 14, _, _, _, _, _⟩) (v := ?_) rfl (by kernel_rfl) (by kernel_rfl) (by kernel_rfl) (fun _ _ _ h => h) (Or.inl ⟨by rfl, ?_⟩) (by assumption) ?_
  rotate_left
  · intro w hSw
    (try dsimp only at hSw)
    go_simp
    all_goals (with_reducible rfl)
  try simp only [Act.put, List.setIfInBounds_toArray, List.set_cons_zero, List.set_cons_succ]
  refine wpAnyH_take (i := 4) (oi := ⟨some 15, _, _, _, _, _⟩) (v := ?_) rfl (by kernel_rfl) (by kernel_rfl) (by kernel_rfl) (fun _ _ _ h => h) (Or.inl ⟨by rfl, ?_⟩) (by assumption) ?_
  rotate_left
  · intro w hSw
    (try dsimp only at hSw)
    go_simp
    all_goals (with_reducible rfl)
  try simp only [Act.put, List.setIfInBounds_toArray, List.set_cons_zero, List.set_cons_succ]
  refine wpAnyH_ready (rs := [5]) (by kernel_rfl) (by simp) (AllReadyH.cons (o := ⟨some 16, _, _, _, _, _⟩) rfl (fun K hK => ?_) AllReadyH.nil)
  go_simp
  refine (of_any b _).mono ?_
  rintro e w5 ⟨rfl, hw5⟩
  have hD5 : DiskAt w5 g m c S := by rw [hw5]; exact HX.out.1.drew.alloc _
  have hB5 : Below w1.heap.size w1 w5 := by rw [hw5]; exact (Below.refl w1.heap.size w1).drew.alloc (Nat.le_refl _) _
  have hR5 : Rd w5 (some ⟨w1.heap.size, 0, none⟩) 64 (ofB b) := by rw [hw5]; exact rd_new w1.drew _ (ofB_len b) 5
  clear hw5
  refine hK.out _ _ (⟨(hB5.cell (p := ⟨bx, 1, none⟩) HX.out.2.1).trans hHeld.1, (hB5.cell (p := ⟨bx, 4, none⟩) HX.out.2.1).trans hHeld.2⟩) (fun hHeld => ?_)
  clear hK K
  try simp only [Act.put, List.setIfInBounds_toArray, List.set_cons_zero, List.set_cons_succ]
  refine wpAnyH_ready (rs := [6]) (by kernel_rfl) (by simp) (AllReadyH.cons (o := ⟨some 17, _, _, _, _, _⟩) rfl (fun K hK => ?_) AllReadyH.nil)
  go_simp
  refine (dd_write _ hD5 i hR5 _).mono ?_
  rintro e w6 ⟨r, rfl, c', hD6, hB6, hc6⟩
  refine hK.out _ _ (⟨(box_keep hB6 HX.out.2.2.1 (Nat.lt_of_lt_of_le HX.out.2.1 hB5.size) 1).trans hHeld.1, (box_keep hB6 HX.out.2.2.1 (Nat.lt_of_lt_of_le HX.out.2.1 hB5.size) 4).trans hHeld.2⟩) (fun hHeld => ?_)
  clear hK K
  try simp only [Act.put, List.setIfInBounds_toArray, List.set_cons_zero, List.set_cons_succ]
  refine wpAnyH_done (by kernel_rfl) ?_ _
  go_wp2
  go_end0
  exact ⟨rfl, c', hD6, (((HX.out.2.2.2.mono (by simp)).trans (But.of_below hB5)).trans hB6), by have := HX.out.2.2.2.size; have := hB5.size; omega⟩
theorem does_write4 (w : World) {g m c : Nat} {S : DS} (h : DiskAt w g m c S) (i a n : Int) (b : UInt8) (A : Option Addr) (len cap : Nat) :
    Calls Try.prog 34 #[.pointer (some ⟨g, 0, none⟩), .agg #[.int .i64 4, .int .i64 i, .int .i64 a, .int .i64 n, .int .u8 (b.toNat : Int), .slice A len cap]] w (Did g m c (S.writeOf i (ofB b)) (.tuple #[]) w) := by
  obtain ⟨OB, hOB⟩ : ∃ OB : Obj, Obj.cells #[.int .i64 4, .int .i64 i, .int .i64 a, .int .i64 n, .int .u8 (b.toNat : Int), .slice A len cap] 47 = OB := ⟨_, rfl⟩
  obtain ⟨w1, hw1⟩ : ∃ w1, w.alloc OB = w1 := ⟨_, rfl⟩
  obtain ⟨bx, hbx⟩ : ∃ bx, w.heap.size = bx := ⟨_, rfl⟩
  have hg := h.g_lt
  have hm := h.m_lt
  have hc := h.c_lt
  have hh : w1.heap[bx]? = some (.cells #[.int .i64 4, .int .i64 i, .int .i64 a, .int .i64 n, .int .u8 (b.toNat : Int), .slice A len cap] 47 (0, 0)) := by rw [← hw1, ← hbx, ← hOB]; exact heap_alloc_new w _
  have hB1 : But [] w w1 := by rw [← hw1]; exact (But.refl [] w).alloc _
  have HX := Lib.hid (And.intro (by rw [← hw1]; exact h.alloc OB : DiskAt w1 g m c S) (And.intro (Array.getElem?_eq_some_iff.1 hh).1 (And.intro (by simp; omega : bx ∉ [g, m, c]) hB1)))
  have HW := Lib.hid (And.intro hOB (And.intro hw1 hbx))
  have c1 : w1.cell? ⟨bx, 1, none⟩ = some (.int .i64 i) := cell_of_row w1 bx 1 _ 47 (0, 0) hh
  have c4 : w1.cell? ⟨bx, 4, none⟩ = some (.int .u8 (b.toNat : Int)) := cell_of_row w1 bx 4 _ 47 (0, 0) hh
  clear hh hB1 hg hm hc h hOB hw1 hbx
  go_enter Try.func34, Try.ntmps34
  go_wp2
  rw [HW.out.1, HW.out.2.1, HW.out.2.2]
  refine wp_region_held_drew (S := fun w' => w'.cell? ⟨bx, 1, none⟩ = some (.int .i64 i) ∧ w'.cell? ⟨bx, 4, none⟩ = some (.int .u8 (b.toNat : Int))) (by kernel_rfl) (⟨c1, c4⟩) (fun hHeld => ?_)
  refine wpAnyH_take (i := 0) (oi := ⟨some 11, _, _, _, _, _⟩) (v := ?_) rfl (by kernel_rfl) (by kernel_rfl) (by kernel_rfl) (fun _ _ _ h => h) (Or.inl ⟨by rfl, ?_⟩) (by assumption) ?_
  rotate_left
  · intro w hSw
    (try dsimp only at hSw)
    go_simp
    all_goals (with_reducible rfl)
  try simp only [Act.put, List.setIfInBounds_toArray, List.set_cons_zero, List.set_cons_succ]
  refine wpAnyH_take (i := 1) (oi := ⟨some 12, _, _, _, _, _⟩) (v := ?_) rfl (by kernel_rfl) (by kernel_rfl) (by kernel_rfl) (fun _ _ _ h => h) (Or.inl ⟨by rfl, ?_⟩) (by assumption) ?_
  rotate_left
  · intro w hSw
    (try dsimp only at hSw)
    go_simp
    all_goals (with_reducible rfl)
  try simp only [Act.put, List.setIfInBounds_toArray, List.set_cons_zero, List.set_cons_succ]
  refine wpAnyH_take (i := 2) (oi := ⟨some 13, _, _, _, _, _⟩) (v := ?_) rfl (by kernel_rfl) (by kernel_rfl) (by kernel_rfl) (fun _ _ _ h => h) (Or.inl ⟨by rfl, ?_⟩) (by assumption) ?_
  rotate_left
  · intro w hSw
    (try dsimp only at hSw)
    go_simp
    all_goals (with_reducible rfl)
  try simp only [Act.put, List.setIfInBounds_toArray, List.set_cons_zero, List.set_cons_succ]
  refine wpAnyH_take (i := 3) (oi := ⟨some 14, _, _, _, _, _⟩) (v := ?_) rfl (by kernel_rfl) (by kernel_rfl) (by kernel_rfl) (fun _ _ _ h => h) (Or.inl ⟨by rfl, ?_⟩) (by assumption) ?_
  rotate_left
  · intro w hSw
    (try dsimp only at hSw)
    go_simp
    all_goals (with_reducible rfl)
  try simp only [Act.put, List.setIfInBounds_toArray, List.set_cons_zero, List.set_cons_succ]
  refine wpAnyH_take (i := 4) (oi := ⟨some 15, _, _, _, _, _⟩) (v := ?_) rfl (by kernel_rfl) (by kernel_rfl) (by kernel_rfl) (fun _ _ _ h => h) (Or.inl ⟨by rfl, ?_⟩) (by assumption) ?_
  rotate_left
  · intro w hSw
    (try dsimp only at hSw)
    go_simp
    all_goals (with_reducible rfl)
  try simp only [Act.put, List.setIfInBounds_toArray, List.set_cons_zero, List.set_cons_succ]
  refine wpAnyH_ready (rs := [5]) (by kernel_rfl) (by simp) (AllReadyH.cons (o := ⟨some 16, _, _, _, _, _⟩) rfl (fun K hK => ?_) AllReadyH.nil)
  go_simp
  refine (of_any b _).mono ?_
  rintro e w5 ⟨rfl, hw5⟩
  have hD5 : DiskAt w5 g m c S := by rw [hw5]; exact HX.out.1.drew.alloc _
  have hB5 : Below w1.heap.size w1 w5 := by rw [hw5]; exact (Below.refl w1.heap.size w1).drew.alloc (Nat.le_refl _) _
  have hR5 : Rd w5 (some ⟨w1.heap.size, 0, none⟩) 64 (ofB b) := by rw [hw5]; exact rd_new w1.drew _ (ofB_len b) 5
  clear hw5
  refine hK.out _ _ (⟨(hB5.cell (p := ⟨bx, 1, none⟩) HX.out.2.1).trans hHeld.1, (hB5.cell (p := ⟨bx, 4, none⟩) HX.out.2.1).trans hHeld.2⟩) (fun hHeld => ?_)
  clear hK K
  try simp only [Act.put, List.setIfInBounds_toArray, List.set_cons_zero, List.set_cons_succ]
  refine wpAnyH_ready (rs := [6]) (by kernel_rfl) (by simp) (AllReadyH.cons (o := ⟨some 17, _, _, _, _, _⟩) rfl (fun K hK => ?_) AllReadyH.nil)
  go_simp
  refine (dd_write _ hD5 i hR5 _).mono ?_
  rintro e w6 ⟨r, rfl, c', hD6, hB6, hc6⟩
  refine hK.out _ _ (⟨(box_keep hB6 HX.out.2.2.1 (Nat.lt_of_lt_of_le HX.out.2.1 hB5.size) 1).trans hHeld.1, (box_keep hB6 HX.out.2.2.1 (Nat.lt_of_lt_of_le HX.out.2.1 hB5.size) 4).trans hHeld.2⟩) (fun hHeld => ?_)
  clear hK K
  try simp only [Act.put, List.setIfInBounds_toArray, List.set_cons_zero, List.set_cons_succ]
  refine wpAnyH_done (by kernel_rfl) ?_ _
  go_wp2
  go_end0
  exact ⟨rfl, c', hD6, (((HX.out.2.2.2.mono (by simp)).trans (But.of_below hB5)).trans hB6), by have := HX.out.2.2.2.size; have := hB5.size; omega⟩
theorem does_flush5 (w : World) {g m c : Nat} {S : DS} (h : DiskAt w g m c S) (i a n : Int) (b : UInt8) (A : Option Addr) (len cap : Nat) :
    Calls Try.prog 34 #[.pointer (some ⟨g, 0, none⟩), .agg #[.int .i64 5, .int .i64 i, .int .i64 a, .int .i64 n, .int .u8 (b.toNat : Int), .slice A len cap]] w (Did g m c (S.flushOf) (.tuple #[]) w) := by
  obtain ⟨OB, hOB⟩ : ∃ OB : Obj, Obj.cells #[.int .i64 5, .int .i64 i, .int .i64 a, .int .i64 n, .int .u8 (b.toNat : Int), .slice A len cap] 47 = OB := ⟨_, rfl⟩
  obtain ⟨w1, hw1⟩ : ∃ w1, w.alloc OB = w1 := ⟨_, rfl⟩
  obtain ⟨bx, hbx⟩ : ∃ bx, w.heap.size = bx := ⟨_, rfl⟩
  have hg := h.g_lt
  have hm := h.m_lt
  have hc := h.c_lt
  have hh : w1.heap[bx]? = some (.cells #[.int .i64 5, .int .i64 i, .int .i64 a, .int .i64 n, .int .u8 (b.toNat : Int), .slice A len cap] 47 (0, 0)) := by rw [← hw1, ← hbx, ← hOB]; exact heap_alloc_new w _
  have hB1 : But [] w w1 := by rw [← hw1]; exact (But.refl [] w).alloc _
  have HX := Lib.hid (And.intro (by rw [← hw1]; exact h.alloc OB : DiskAt w1 g m c S) (And.intro (Array.getElem?_eq_some_iff.1 hh).1 (And.intro (by simp; omega : bx ∉ [g, m, c]) hB1)))
  have HW := Lib.hid (And.intro hOB (And.intro hw1 hbx))
  clear hh hB1 hg hm hc h hOB hw1 hbx
  go_enter Try.func34, Try.ntmps34
  go_wp2_with fail
  rw [HW.out.1, HW.out.2.1, HW.out.2.2]
  go_wp2_with fail
  refine (dd_flush _ HX.out.1).mono ?_
  rintro e w6 ⟨r, rfl, c', hD6, hB6, hc6⟩
  have HZ := Lib.hid (And.intro hD6 (And.intro hB6 hc6))
  clear hD6 hB6 hc6
  go_wp2
  go_end0
  exact ⟨rfl, c', HZ.out.1, ((HX.out.2.2.2.mono (by simp)).trans HZ.out.2.1), by have := HX.out.2.2.2.size; have := HZ.out.2.2; omega⟩
theorem does_flush6 (w : World) {g m c : Nat} {S : DS} (h : DiskAt w g m c S) (i a n : Int) (b : UInt8) (A : Option Addr) (len cap : Nat) :
    Calls Try.prog 34 #[.pointer (some ⟨g, 0, none⟩), .agg #[.int .i64 6, .int .i64 i, .int .i64 a, .int .i64 n, .int .u8 (b.toNat : Int), .slice A len cap]] w (Did g m c (S.flushOf) (.tuple #[]) w) := by
  obtain ⟨OB, hOB⟩ : ∃ OB : Obj, Obj.cells #[.int .i64 6, .int .i64 i, .int .i64 a, .int .i64 n, .int .u8 (b.toNat : Int), .slice A len cap] 47 = OB := ⟨_, rfl⟩
  obtain ⟨w1, hw1⟩ : ∃ w1, w.alloc OB = w1 := ⟨_, rfl⟩
  obtain ⟨bx, hbx⟩ : ∃ bx, w.heap.size = bx := ⟨_, rfl⟩
  have hg := h.g_lt
  have hm := h.m_lt
  have hc := h.c_lt
  have hh : w1.heap[bx]? = some (.cells #[.int .i64 6, .int .i64 i, .int .i64 a, .int .i64 n, .int .u8 (b.toNat : Int), .slice A len cap] 47 (0, 0)) := by rw [← hw1, ← hbx, ← hOB]; exact heap_alloc_new w _
  have hB1 : But [] w w1 := by rw [← hw1]; exact (But.refl [] w).alloc _
  have HX := Lib.hid (And.intro (by rw [← hw1]; exact h.alloc OB : DiskAt w1 g m c S) (And.intro (Array.getElem?_eq_some_iff.1 hh).1 (And.intro (by simp; omega : bx ∉ [g, m, c]) hB1)))
  have HW := Lib.hid (And.intro hOB (And.intro hw1 hbx))
  clear hh hB1 hg hm hc h hOB hw1 hbx
  go_enter Try.func34, Try.ntmps34
  go_wp2_with fail
  rw [HW.out.1, HW.out.2.1, HW.out.2.2]
  go_wp2_with fail
  refine (dd_flush _ HX.out.1).mono ?_
  rintro e w6 ⟨r, rfl, c', hD6, hB6, hc6⟩
  have HZ := Lib.hid (And.intro hD6 (And.intro hB6 hc6))
  clear hD6 hB6 hc6
  go_wp2
  go_end0
  exact ⟨rfl, c', HZ.out.1, ((HX.out.2.2.2.mono (by simp)).trans HZ.out.2.1), by have := HX.out.2.2.2.size; have := HZ.out.2.2; omega⟩
theorem does_spoil8 (w : World) {g m c : Nat} {S : DS} (h : DiskAt w g m c S) (i a n : Int) (b : UInt8) (A : Option Addr) (len cap : Nat) :
    Calls Try.prog 34 #[.pointer (some ⟨g, 0, none⟩), .agg #[.int .i64 8, .int .i64 i, .int .i64 a, .int .i64 n, .int .u8 (b.toNat : Int), .slice A len cap]] w (Did g m c (S.spoilOf i a b) (.tuple #[]) w) := by
  obtain ⟨OB, hOB⟩ : ∃ OB : Obj, Obj.cells #[.int .i64 8, .int .i64 i, .int .i64 a, .int .i64 n, .int .u8 (b.toNat : Int), .slice A len cap] 47 = OB := ⟨_, rfl⟩
  obtain ⟨w1, hw1⟩ : ∃ w1, w.alloc OB = w1 := ⟨_, rfl⟩
  obtain ⟨bx, hbx⟩ : ∃ bx, w.heap.size = bx := ⟨_, rfl⟩
  have hg := h.g_lt
  have hm := h.m_lt
  have hc := h.c_lt
  have hh : w1.heap[bx]? = some (.cells #[.int .i64 8, .int .i64 i, .int .i64 a, .int .i64 n, .int .u8 (b.toNat : Int), .slice A len cap] 47 (0, 0)) := by rw [← hw1, ← hbx, ← hOB]; exact heap_alloc_new w _
  have hB1 : But [] w w1 := by rw [← hw1]; exact (But.refl [] w).alloc _
  have HX := Lib.hid (And.intro (by rw [← hw1]; exact h.alloc OB : DiskAt w1 g m c S) (And.intro (Array.getElem?_eq_some_iff.1 hh).1 (And.intro (by simp; omega : bx ∉ [g, m, c]) hB1)))
  have HW := Lib.hid (And.intro hOB (And.intro hw1 hbx))
  have c1 : w1.cell? ⟨bx, 1, none⟩ = some (.int .i64 i) := cell_of_row w1 bx 1 _ 47 (0, 0) hh
  have c2 : w1.cell? ⟨bx, 2, none⟩ = some (.int .i64 a) := cell_of_row w1 bx 2 _ 47 (0, 0) hh
  have c4 : w1.cell? ⟨bx, 4, none⟩ = some (.int .u8 (b.toNat : Int)) := cell_of_row w1 bx 4 _ 47 (0, 0) hh
  clear hh hB1 hg hm hc h hOB hw1 hbx
  go_enter Try.func34, Try.ntmps34
  go_wp2_with fail
  rw [HW.out.1, HW.out.2.1, HW.out.2.2]
  go_wp2_with fail
  refine (dd_spoil _ HX.out.1 i a b).mono ?_
  rintro e w6 ⟨r, rfl, c', hD6, hB6, hc6⟩
  have HZ := Lib.hid (And.intro hD6 (And.intro hB6 hc6))
  clear hD6 hB6 hc6
  go_wp2
  go_end0
  exact ⟨rfl, c', HZ.out.1, ((HX.out.2.2.2.mono (by simp)).trans HZ.out.2.1), by have := HX.out.2.2.2.size; have := HZ.out.2.2; omega⟩
theorem does_arm9 (w : World) {g m c : Nat} {S : DS} (h : DiskAt w g m c S) (i a n : Int) (b : UInt8) (A : Option Addr) (len cap : Nat) (hn : n ≤ 9223372036854775807) :
    Calls Try.prog 34 #[.pointer (some ⟨g, 0, none⟩), .agg #[.int .i64 9, .int .i64 i, .int .i64 a, .int .i64 n, .int .u8 (b.toNat : Int), .slice A len cap]] w (Did g m c (S.armOf n) (.tuple #[]) w) := by
  obtain ⟨OB, hOB⟩ : ∃ OB : Obj, Obj.cells #[.int .i64 9, .int .i64 i, .int .i64 a, .int .i64 n, .int .u8 (b.toNat : Int), .slice A len cap] 47 = OB := ⟨_, rfl⟩
  obtain ⟨w1, hw1⟩ : ∃ w1, w.alloc OB = w1 := ⟨_, rfl⟩
  obtain ⟨bx, hbx⟩ : ∃ bx, w.heap.size = bx := ⟨_, rfl⟩
  have hg := h.g_lt
  have hm := h.m_lt
  have hc := h.c_lt
  have hh : w1.heap[bx]? = some (.cells #[.int .i64 9, .int .i64 i, .int .i64 a, .int .i64 n, .int .u8 (b.toNat : Int), .slice A len cap] 47 (0, 0)) := by rw [← hw1, ← hbx, ← hOB]; exact heap_alloc_new w _
  have hB1 : But [] w w1 := by rw [← hw1]; exact (But.refl [] w).alloc _
  have HX := Lib.hid (And.intro (by rw [← hw1]; exact h.alloc OB : DiskAt w1 g m c S) (And.intro (Array.getElem?_eq_some_iff.1 hh).1 (And.intro (by simp; omega : bx ∉ [g, m, c]) hB1)))
  have HW := Lib.hid (And.intro hOB (And.intro hw1 hbx))
  have HN := Lib.hid hn
  clear hn
  have c3 : w1.cell? ⟨bx, 3, none⟩ = some (.int .i64 n) := cell_of_row w1 bx 3 _ 47 (0, 0) hh
  clear hh hB1 hg hm hc h hOB hw1 hbx
  go_enter Try.func34, Try.ntmps34
  go_wp2_with fail
  rw [HW.out.1, HW.out.2.1, HW.out.2.2]
  go_wp2_with fail
  refine (dd_arm _ HX.out.1 n HN.out).mono ?_
  rintro e w6 ⟨rfl, c', hD6, hB6, hc6⟩
  have HZ := Lib.hid (And.intro hD6 (And.intro hB6 hc6))
  clear hD6 hB6 hc6
  go_wp2
  go_end0
  exact ⟨rfl, c', HZ.out.1, ((HX.out.2.2.2.mono (by simp)).trans HZ.out.2.1), by have := HX.out.2.2.2.size; have := HZ.out.2.2; omega⟩
theorem does_crash10 (w : World) {g m c : Nat} {S : DS} (h : DiskAt w g m c S) (i a n : Int) (b : UInt8) (A : Option Addr) (len cap : Nat) (ks : List Bool) (hk : RdV w A len (bools ks)) (hl : len ≤ 9223372036854775807) :
    Calls Try.prog 34 #[.pointer (some ⟨g, 0, none⟩), .agg #[.int .i64 10, .int .i64 i, .int .i64 a, .int .i64 n, .int .u8 (b.toNat : Int), .slice A len cap]] w (Did g m c (S.crashed ks) (.tuple #[]) w) := by
  obtain ⟨OB, hOB⟩ : ∃ OB : Obj, Obj.cells #[.int .i64 10, .int .i64 i, .int .i64 a, .int .i64 n, .int .u8 (b.toNat : Int), .slice A len cap] 47 = OB := ⟨_, rfl⟩
  obtain ⟨w1, hw1⟩ : ∃ w1, w.alloc OB = w1 := ⟨_, rfl⟩
  obtain ⟨bx, hbx⟩ : ∃ bx, w.heap.size = bx := ⟨_, rfl⟩
  have hg := h.g_lt
  have hm := h.m_lt
  have hc := h.c_lt
  have hh : w1.heap[bx]? = some (.cells #[.int .i64 10, .int .i64 i, .int .i64 a, .int .i64 n, .int .u8 (b.toNat : Int), .slice A len cap] 47 (0, 0)) := by rw [← hw1, ← hbx, ← hOB]; exact heap_alloc_new w _
  have hB1 : But [] w w1 := by rw [← hw1]; exact (But.refl [] w).alloc _
  have HX := Lib.hid (And.intro (by rw [← hw1]; exact h.alloc OB : DiskAt w1 g m c S) (And.intro (Array.getElem?_eq_some_iff.1 hh).1 (And.intro (by simp; omega : bx ∉ [g, m, c]) hB1)))
  have HW := Lib.hid (And.intro hOB (And.intro hw1 hbx))
  have HK := Lib.hid (And.intro (hk.below hB1.none (Nat.le_refl _)) hl)
  clear hk hl
  have c5 : w1.cell? ⟨bx, 5, none⟩ = some (.slice A len cap) := cell_of_row w1 bx 5 _ 47 (0, 0) hh
  clear hh hB1 hg hm hc h hOB hw1 hbx
  go_enter Try.func34, Try.ntmps34
  go_wp2_with fail
  rw [HW.out.1, HW.out.2.1, HW.out.2.2]
  go_wp2_with fail
  refine (dd_crash _ HX.out.1 A len cap ks HK.out.1 HK.out.2).mono ?_
  rintro e w6 ⟨rfl, c', hD6, hB6, hc6⟩
  have HZ := Lib.hid (And.intro hD6 (And.intro hB6 hc6))
  clear hD6 hB6 hc6
  go_wp2
  go_end0
  exact ⟨rfl, c', HZ.out.1, ((HX.out.2.2.2.mono (by simp)).trans HZ.out.2.1), by have := HX.out.2.2.2.size; have := HZ.out.2.2; omega⟩
theorem does_crash11 (w : World) {g m c : Nat} {S : DS} (h : DiskAt w g m c S) (i a n : Int) (b : UInt8) (A : Option Addr) (len cap : Nat) (ks : List Bool) (hk : RdV w A len (bools ks)) (hl : len ≤ 9223372036854775807) :
    Calls Try.prog 34 #[.pointer (some ⟨g, 0, none⟩), .agg #[.int .i64 11, .int .i64 i, .int .i64 a, .int .i64 n, .int .u8 (b.toNat : Int), .slice A len cap]] w (Did g m c (S.crashed ks) (.tuple #[]) w) := by
  obtain ⟨OB, hOB⟩ : ∃ OB : Obj, Obj.cells #[.int .i64 11, .int .i64 i, .int .i64 a, .int .i64 n, .int .u8 (b.toNat : Int), .slice A len cap] 47 = OB := ⟨_, rfl⟩
  obtain ⟨w1, hw1⟩ : ∃ w1, w.alloc OB = w1 := ⟨_, rfl⟩
  obtain ⟨bx, hbx⟩ : ∃ bx, w.heap.size = bx := ⟨_, rfl⟩
  have hg := h.g_lt
  have hm := h.m_lt
  have hc := h.c_lt
  have hh : w1.heap[bx]? = some (.cells #[.int .i64 11, .int .i64 i, .int .i64 a, .int .i64 n, .int .u8 (b.toNat : Int), .slice A len cap] 47 (0, 0)) := by rw [← hw1, ← hbx, ← hOB]; exact heap_alloc_new w _
  have hB1 : But [] w w1 := by rw [← hw1]; exact (But.refl [] w).alloc _
  have HX := Lib.hid (And.intro (by rw [← hw1]; exact h.alloc OB : DiskAt w1 g m c S) (And.intro (Array.getElem?_eq_some_iff.1 hh).1 (And.intro (by simp; omega : bx ∉ [g, m, c]) hB1)))
  have HW := Lib.hid (And.intro hOB (And.intro hw1 hbx))
  have HK := Lib.hid (And.intro (hk.below hB1.none (Nat.le_refl _)) hl)
  clear hk hl
  have c5 : w1.cell? ⟨bx, 5, none⟩ = some (.slice A len cap) := cell_of_row w1 bx 5 _ 47 (0, 0) hh
  clear hh hB1 hg hm hc h hOB hw1 hbx
  go_enter Try.func34, Try.ntmps34
  go_wp2_with fail
  rw [HW.out.1, HW.out.2.1, HW.out.2.2]
  go_wp2_with fail
  refine (dd_crash _ HX.out.1 A len cap ks HK.out.1 HK.out.2).mono ?_
  rintro e w6 ⟨rfl, c', hD6, hB6, hc6⟩
  have HZ := Lib.hid (And.intro hD6 (And.intro hB6 hc6))
  clear hD6 hB6 hc6
  go_wp2
  go_end0
  exact ⟨rfl, c', HZ.out.1, ((HX.out.2.2.2.mono (by simp)).trans HZ.out.2.1), by have := HX.out.2.2.2.size; have := HZ.out.2.2; omega⟩
theorem does_else (w : World) {g m c : Nat} {S : DS} (h : DiskAt w g m c S) (kd i a n : Int) (b : UInt8) (A : Option Addr) (len cap : Nat) (h1 : kd ≠ 1) (h2 : kd ≠ 2) (h3 : kd ≠ 3) (h4 : kd ≠ 4) (h5 : kd ≠ 5) (h6 : kd ≠ 6) (h8 : kd ≠ 8) (h9 : kd ≠ 9) (h10 : kd ≠ 10) (h11 : kd ≠ 11) :
    Calls Try.prog 34 #[.pointer (some ⟨g, 0, none⟩), .agg #[.int .i64 kd, .int .i64 i, .int .i64 a, .int .i64 n, .int .u8 (b.toNat : Int), .slice A len cap]] w (Did g m c S (.tuple #[]) w) := by
  obtain ⟨OB, hOB⟩ : ∃ OB : Obj, Obj.cells #[.int .i64 kd, .int .i64 i, .int .i64 a, .int .i64 n, .int .u8 (b.toNat : Int), .slice A len cap] 47 = OB := ⟨_, rfl⟩
  obtain ⟨w1, hw1⟩ : ∃ w1, w.alloc OB = w1 := ⟨_, rfl⟩
  obtain ⟨bx, hbx⟩ : ∃ bx, w.heap.size = bx := ⟨_, rfl⟩
  have hg := h.g_lt
  have hm := h.m_lt
  have hc := h.c_lt
  have hh : w1.heap[bx]? = some (.cells #[.int .i64 kd, .int .i64 i, .int .i64 a, .int .i64 n, .int .u8 (b.toNat : Int), .slice A len cap] 47 (0, 0)) := by rw [← hw1, ← hbx, ← hOB]; exact heap_alloc_new w _
  have hB1 : But [] w w1 := by rw [← hw1]; exact (But.refl [] w).alloc _
  have HX := Lib.hid (And.intro (by rw [← hw1]; exact h.alloc OB : DiskAt w1 g m c S) (And.intro (Array.getElem?_eq_some_iff.1 hh).1 (And.intro (by simp; omega : bx ∉ [g, m, c]) hB1)))
  have HW := Lib.hid (And.intro hOB (And.intro hw1 hbx))
  clear hh hB1 hg hm hc h hOB hw1 hbx
  go_enter Try.func34, Try.ntmps34
  go_wp2
  go_end0
  exact ⟨rfl, c, by rw [HW.out.1, HW.out.2.1]; exact HX.out.1, by rw [HW.out.1, HW.out.2.1]; exact HX.out.2.2.2.mono (by simp), .inl rfl⟩
theorem does_any (w : World) {g m c : Nat} {S : DS} (h : DiskAt w g m c S) (o : OpV) (ho : o.Ok w) : Calls Try.prog 34 #[.pointer (some ⟨g, 0, none⟩), .agg o.cells.toArray] w (Did g m c (S.does o) (.tuple #[]) w) := by
  obtain ⟨kd, i, a, n, b, A, len, cap, ks⟩ := o
  unfold DS.does OpV.cells
  by_cases h1 : kd = 1
  · subst h1; exact does_write1 w h i a n b A len cap
  by_cases h2 : kd = 2
  · subst h2; exact does_write2 w h i a n b A len cap
  by_cases h3 : kd = 3
  · subst h3; exact does_write3 w h i a n b A len cap
  by_cases h4 : kd = 4
  · subst h4; exact does_write4 w h i a n b A len cap
  by_cases h5 : kd = 5
  · subst h5; exact does_flush5 w h i a n b A len cap
  by_cases h6 : kd = 6
  · subst h6; exact does_flush6 w h i a n b A len cap
  by_cases h8 : kd = 8
  · subst h8; exact does_spoil8 w h i a n b A len cap
  by_cases h9 : kd = 9
  · subst h9; exact does_arm9 w h i a n b A len cap ho.n
  by_cases h10 : kd = 10
  · subst h10; exact does_crash10 w h i a n b A len cap ks ho.ks ho.len
  by_cases h11 : kd = 11
  · subst h11; exact does_crash11 w h i a n b A len cap ks ho.ks ho.len
  simp only [h1, h2, h3, h4, h5, h6, h8, h9, h10, h11, or_self, if_false]
  exact does_else w h kd i a n b A len cap h1 h2 h3 h4 h5 h6 h8 h9 h10 h11
end Go.Proofs.Ytlhhijhmjkgnaaa
