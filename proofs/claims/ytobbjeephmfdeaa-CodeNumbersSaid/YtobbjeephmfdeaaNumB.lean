/- CodeNumbers. -/
import Derived.Test.YtobbjeephmfdeaaNumA
import Derived.Test.YtobbjeephmfdeaaLawN
namespace Go.Proofs.Ytobbjeephmfdeaa
open Go.RowKit Go.Coop
set_option maxRecDepth 100000
/-- the five lists that are no stripe, and no shards -/
def Bads (w : World) (bl : Nat) : Prop := bl < w.heap.size ∧ ∀ i, i < 5 → ∃ (B : Option Addr) (q d : Nat) (L : List (List UInt8)), w.cell? ⟨bl, i, none⟩ = some (.slice B q d) ∧ MR w B q L ∧ stripeB 2 L = false ∧ fitsB 4 2 L = false ∧ q ≤ d ∧ q ≤ 1000 ∧ (∀ r ∈ L, r.length ≤ 100000)
theorem Bads.below {w w' : World} {bl : Nat} (h : Bads w bl) (hb : Below w.heap.size w w') : Bads w' bl :=
  ⟨Nat.lt_of_lt_of_le h.1 hb.size, fun i hi => by
    obtain ⟨B, q, d, L, h1, h2, h3⟩ := h.2 i hi
    exact ⟨B, q, d, L, (hb.cell (p := ⟨bl, i, none⟩) h.1).trans h1, h2.below hb (Nat.le_refl _), h3⟩⟩
theorem mr_lit (w : World) (vs : List Value) (L : List (List UInt8)) {n : Nat} (hv : vs.length = n) (hl : L.length = n) (h : ∀ (i : Nat) (r : List UInt8), L[i]? = some r → ∃ (B : Option Addr) (d : Nat), vs[i]? = some (Value.slice B r.length d) ∧ Rd w B r.length r) : MR (w.alloc (.cells vs.toArray 31)) (some ⟨w.heap.size, 0, none⟩) n L := by
  subst hv
  exact ⟨hl, vs, RdV.new w vs 31 (0, 0), fun i r hi => by obtain ⟨B, d, h1, h2⟩ := h i r hi; exact ⟨B, d, h1, h2.alloc _⟩⟩
theorem mr5 (w : World) : MR ((((((w.alloc (.cells #[.int .u8 1] 5)).alloc (.cells #[.int .u8 1] 5)).alloc (.cells #[.int .u8 1] 5)).alloc (.cells #[.int .u8 1] 5)).alloc (.cells #[.int .u8 1] 5)).alloc (.cells #[.slice (some ⟨w.heap.size, 0, none⟩) 1 1, .slice (some ⟨w.heap.size + 1, 0, none⟩) 1 1, .slice (some ⟨w.heap.size + 1 + 1, 0, none⟩) 1 1, .slice (some ⟨w.heap.size + 1 + 1 + 1, 0, none⟩) 1 1, .slice (some ⟨w.heap.size + 1 + 1 + 1 + 1, 0, none⟩) 1 1] 31)) (some ⟨w.heap.size + 1 + 1 + 1 + 1 + 1, 0, none⟩) 5 [[1], [1], [1], [1], [1]] := by
  have r0 := ((((own_new w [1] 1 rfl (by decide)).rd.alloc (.cells #[.int .u8 1] 5)).alloc (.cells #[.int .u8 1] 5)).alloc (.cells #[.int .u8 1] 5)).alloc (.cells #[.int .u8 1] 5)
  have r1 := (((own_new (w.alloc (.cells #[.int .u8 1] 5)) [1] 1 rfl (by decide)).rd.alloc (.cells #[.int .u8 1] 5)).alloc (.cells #[.int .u8 1] 5)).alloc (.cells #[.int .u8 1] 5)
  have r2 := ((own_new ((w.alloc (.cells #[.int .u8 1] 5)).alloc (.cells #[.int .u8 1] 5)) [1] 1 rfl (by decide)).rd.alloc (.cells #[.int .u8 1] 5)).alloc (.cells #[.int .u8 1] 5)
  have r3 := (own_new (((w.alloc (.cells #[.int .u8 1] 5)).alloc (.cells #[.int .u8 1] 5)).alloc (.cells #[.int .u8 1] 5)) [1] 1 rfl (by decide)).rd.alloc (.cells #[.int .u8 1] 5)
  have r4 := (own_new ((((w.alloc (.cells #[.int .u8 1] 5)).alloc (.cells #[.int .u8 1] 5)).alloc (.cells #[.int .u8 1] 5)).alloc (.cells #[.int .u8 1] 5)) [1] 1 rfl (by decide)).rd
  simp only [size_alloc] at r0 r1 r2 r3 r4
  have h := mr_lit (((((w.alloc (.cells #[.int .u8 1] 5)).alloc (.cells #[.int .u8 1] 5)).alloc (.cells #[.int .u8 1] 5)).alloc (.cells #[.int .u8 1] 5)).alloc (.cells #[.int .u8 1] 5)) [.slice (some ⟨w.heap.size, 0, none⟩) 1 1, .slice (some ⟨w.heap.size + 1, 0, none⟩) 1 1, .slice (some ⟨w.heap.size + 1 + 1, 0, none⟩) 1 1, .slice (some ⟨w.heap.size + 1 + 1 + 1, 0, none⟩) 1 1, .slice (some ⟨w.heap.size + 1 + 1 + 1 + 1, 0, none⟩) 1 1] [[1], [1], [1], [1], [1]] (n := 5) rfl rfl (fun i r hi => by
    match i, hi with
    | 0, hi => simp at hi; subst hi; exact ⟨_, _, rfl, r0⟩
    | 1, hi => simp at hi; subst hi; exact ⟨_, _, rfl, r1⟩
    | 2, hi => simp at hi; subst hi; exact ⟨_, _, rfl, r2⟩
    | 3, hi => simp at hi; subst hi; exact ⟨_, _, rfl, r3⟩
    | 4, hi => simp at hi; subst hi; exact ⟨_, _, rfl, r4⟩)
  simp only [size_alloc] at h
  exact h
/-- a literal of one stripe of one row -/
theorem tr_one (w : World) : TR (((w.alloc (.cells #[.int .u8 1] 5)).alloc (.cells #[.slice (some ⟨w.heap.size, 0, none⟩) 1 1] 31)).alloc (.cells #[.slice (some ⟨w.heap.size + 1, 0, none⟩) 1 1] 32)) (some ⟨w.heap.size + 1 + 1, 0, none⟩) 1 [[[1]]] := by
  have m1 := (mo1 w [1] 1 rfl).mr
  have hv := RdV.new ((w.alloc (.cells #[.int .u8 1] 5)).alloc (.cells #[.slice (some ⟨w.heap.size, 0, none⟩) 1 1] 31)) [.slice (some ⟨w.heap.size + 1, 0, none⟩) 1 1] 32 (0, 0)
  simp only [size_alloc] at hv
  refine ⟨rfl, _, hv, fun i T hi => ?_⟩
  match i, hi with
  | 0, hi =>
    simp at hi
    subst hi
    exact ⟨_, _, rfl, m1.below (balloc (Below.refl _ _) _) (Nat.le_refl _)⟩
theorem tr_nil (w : World) (A : Option Addr) : TR w A 0 [] := ⟨rfl, [], RdV.nil _ _, fun i r h => by simp at h⟩
theorem pl01 : Places 4 [0, 1] := ⟨fun i x h => by
  match i, h with
  | 0, h => simp at h; omega
  | 1, h => simp at h; omega, by decide⟩
theorem t11 : [[1], [1]] = tabM 2 1 (matF [[1], [1]]) := by decide +kernel
theorem t00 : [[], []] = tabM 2 0 (fun _ _ => 0) := by decide +kernel
theorem e00 : tabM 4 0 (mulF 2 (codF 2) (fun _ _ => 0)) = [[], [], [], []] := by decide +kernel
theorem f00 : fitsB 4 2 [[], [], [], []] = true := by decide +kernel
theorem mr_nil (w : World) (A : Option Addr) : MR w A 0 [] := ⟨rfl, [], RdV.nil _ _, fun i r h => by simp at h⟩
def longL : List UInt8 := rowL 65537 fun _ => 0
theorem longL_len : longL.length = 65537 := rowL_len _ _
theorem long_bad : stripeB 2 [longL, longL] = false := by simp [stripeB, levelB, longL_len]
set_option maxHeartbeats 4000000 in
theorem bads_lit (w : World) : Bads ((((((((((((w.alloc (.cells (rowC 65537 fun _ => 0) 5)).alloc (.cells #[.int .u8 1] 5)).alloc (.cells #[.slice (some ⟨w.heap.size + 1, 0, none⟩) 1 1] 31)).alloc (.cells #[.int .u8 1] 5)).alloc (.cells #[.int .u8 1, .int .u8 2] 5)).alloc (.cells #[.slice (some ⟨w.heap.size + 1 + 1 + 1, 0, none⟩) 1 1, .slice (some ⟨w.heap.size + 1 + 1 + 1 + 1, 0, none⟩) 2 2] 31)).alloc (.cells #[.int .u8 1] 5)).alloc (.cells #[.int .u8 1] 5)).alloc (.cells #[.int .u8 1] 5)).alloc (.cells #[.slice (some ⟨w.heap.size + 1 + 1 + 1 + 1 + 1 + 1, 0, none⟩) 1 1, .slice (some ⟨w.heap.size + 1 + 1 + 1 + 1 + 1 + 1 + 1, 0, none⟩) 1 1, .slice (some ⟨w.heap.size + 1 + 1 + 1 + 1 + 1 + 1 + 1 + 1, 0, none⟩) 1 1] 31)).alloc (.cells #[.slice (some ⟨w.heap.size, 0, none⟩) 65537 65537, .slice (some ⟨w.heap.size, 0, none⟩) 65537 65537] 31)).alloc (.cells #[.slice none 0 0, .slice (some ⟨w.heap.size + 1 + 1, 0, none⟩) 1 1, .slice (some ⟨w.heap.size + 1 + 1 + 1 + 1 + 1, 0, none⟩) 2 2, .slice (some ⟨w.heap.size + 1 + 1 + 1 + 1 + 1 + 1 + 1 + 1 + 1, 0, none⟩) 3 3, .slice (some ⟨w.heap.size + 1 + 1 + 1 + 1 + 1 + 1 + 1 + 1 + 1 + 1, 0, none⟩) 2 2] 32)) (w.heap.size + 1 + 1 + 1 + 1 + 1 + 1 + 1 + 1 + 1 + 1 + 1) ∧ Below w.heap.size w ((((((((((((w.alloc (.cells (rowC 65537 fun _ => 0) 5)).alloc (.cells #[.int .u8 1] 5)).alloc (.cells #[.slice (some ⟨w.heap.size + 1, 0, none⟩) 1 1] 31)).alloc (.cells #[.int .u8 1] 5)).alloc (.cells #[.int .u8 1, .int .u8 2] 5)).alloc (.cells #[.slice (some ⟨w.heap.size + 1 + 1 + 1, 0, none⟩) 1 1, .slice (some ⟨w.heap.size + 1 + 1 + 1 + 1, 0, none⟩) 2 2] 31)).alloc (.cells #[.int .u8 1] 5)).alloc (.cells #[.int .u8 1] 5)).alloc (.cells #[.int .u8 1] 5)).alloc (.cells #[.slice (some ⟨w.heap.size + 1 + 1 + 1 + 1 + 1 + 1, 0, none⟩) 1 1, .slice (some ⟨w.heap.size + 1 + 1 + 1 + 1 + 1 + 1 + 1, 0, none⟩) 1 1, .slice (some ⟨w.heap.size + 1 + 1 + 1 + 1 + 1 + 1 + 1 + 1, 0, none⟩) 1 1] 31)).alloc (.cells #[.slice (some ⟨w.heap.size, 0, none⟩) 65537 65537, .slice (some ⟨w.heap.size, 0, none⟩) 65537 65537] 31)).alloc (.cells #[.slice none 0 0, .slice (some ⟨w.heap.size + 1 + 1, 0, none⟩) 1 1, .slice (some ⟨w.heap.size + 1 + 1 + 1 + 1 + 1, 0, none⟩) 2 2, .slice (some ⟨w.heap.size + 1 + 1 + 1 + 1 + 1 + 1 + 1 + 1 + 1, 0, none⟩) 3 3, .slice (some ⟨w.heap.size + 1 + 1 + 1 + 1 + 1 + 1 + 1 + 1 + 1 + 1, 0, none⟩) 2 2] 32)) := by
  have m1 := (mo1 (w.alloc (.cells (rowC 65537 fun _ => 0) 5)) [1] 1 rfl).mr
  have m2 := (mo2 (((w.alloc (.cells (rowC 65537 fun _ => 0) 5)).alloc (.cells #[.int .u8 1] 5)).alloc (.cells #[.slice (some ⟨w.heap.size + 1, 0, none⟩) 1 1] 31)) [1] [1, 2] 1 2 rfl rfl).mr
  have m3 := (mo3 ((((((w.alloc (.cells (rowC 65537 fun _ => 0) 5)).alloc (.cells #[.int .u8 1] 5)).alloc (.cells #[.slice (some ⟨w.heap.size + 1, 0, none⟩) 1 1] 31)).alloc (.cells #[.int .u8 1] 5)).alloc (.cells #[.int .u8 1, .int .u8 2] 5)).alloc (.cells #[.slice (some ⟨w.heap.size + 1 + 1 + 1, 0, none⟩) 1 1, .slice (some ⟨w.heap.size + 1 + 1 + 1 + 1, 0, none⟩) 2 2] 31)) [1] [1] [1] 1 1 1 rfl rfl rfl).mr
  have r0 := (own_new w longL 65537 longL_len (by simp [maxLen])).rd
  have r9 : Rd ((((((((((w.alloc (.cells (rowC 65537 fun _ => 0) 5)).alloc (.cells #[.int .u8 1] 5)).alloc (.cells #[.slice (some ⟨w.heap.size + 1, 0, none⟩) 1 1] 31)).alloc (.cells #[.int .u8 1] 5)).alloc (.cells #[.int .u8 1, .int .u8 2] 5)).alloc (.cells #[.slice (some ⟨w.heap.size + 1 + 1 + 1, 0, none⟩) 1 1, .slice (some ⟨w.heap.size + 1 + 1 + 1 + 1, 0, none⟩) 2 2] 31)).alloc (.cells #[.int .u8 1] 5)).alloc (.cells #[.int .u8 1] 5)).alloc (.cells #[.int .u8 1] 5)).alloc (.cells #[.slice (some ⟨w.heap.size + 1 + 1 + 1 + 1 + 1 + 1, 0, none⟩) 1 1, .slice (some ⟨w.heap.size + 1 + 1 + 1 + 1 + 1 + 1 + 1, 0, none⟩) 1 1, .slice (some ⟨w.heap.size + 1 + 1 + 1 + 1 + 1 + 1 + 1 + 1, 0, none⟩) 1 1] 31)) (some ⟨w.heap.size, 0, none⟩) 65537 longL := (((((((((r0).alloc _).alloc _).alloc _).alloc _).alloc _).alloc _).alloc _).alloc _).alloc _
  have m4 := mr_two (d := 65537) (d' := 65537) r9 r9
  simp only [size_alloc] at m1 m2 m3 m4
  have hrow : ((((((((((((w.alloc (.cells (rowC 65537 fun _ => 0) 5)).alloc (.cells #[.int .u8 1] 5)).alloc (.cells #[.slice (some ⟨w.heap.size + 1, 0, none⟩) 1 1] 31)).alloc (.cells #[.int .u8 1] 5)).alloc (.cells #[.int .u8 1, .int .u8 2] 5)).alloc (.cells #[.slice (some ⟨w.heap.size + 1 + 1 + 1, 0, none⟩) 1 1, .slice (some ⟨w.heap.size + 1 + 1 + 1 + 1, 0, none⟩) 2 2] 31)).alloc (.cells #[.int .u8 1] 5)).alloc (.cells #[.int .u8 1] 5)).alloc (.cells #[.int .u8 1] 5)).alloc (.cells #[.slice (some ⟨w.heap.size + 1 + 1 + 1 + 1 + 1 + 1, 0, none⟩) 1 1, .slice (some ⟨w.heap.size + 1 + 1 + 1 + 1 + 1 + 1 + 1, 0, none⟩) 1 1, .slice (some ⟨w.heap.size + 1 + 1 + 1 + 1 + 1 + 1 + 1 + 1, 0, none⟩) 1 1] 31)).alloc (.cells #[.slice (some ⟨w.heap.size, 0, none⟩) 65537 65537, .slice (some ⟨w.heap.size, 0, none⟩) 65537 65537] 31)).alloc (.cells #[.slice none 0 0, .slice (some ⟨w.heap.size + 1 + 1, 0, none⟩) 1 1, .slice (some ⟨w.heap.size + 1 + 1 + 1 + 1 + 1, 0, none⟩) 2 2, .slice (some ⟨w.heap.size + 1 + 1 + 1 + 1 + 1 + 1 + 1 + 1 + 1, 0, none⟩) 3 3, .slice (some ⟨w.heap.size + 1 + 1 + 1 + 1 + 1 + 1 + 1 + 1 + 1 + 1, 0, none⟩) 2 2] 32)).heap[w.heap.size + 1 + 1 + 1 + 1 + 1 + 1 + 1 + 1 + 1 + 1 + 1]? = some (.cells #[.slice none 0 0, .slice (some ⟨w.heap.size + 1 + 1, 0, none⟩) 1 1, .slice (some ⟨w.heap.size + 1 + 1 + 1 + 1 + 1, 0, none⟩) 2 2, .slice (some ⟨w.heap.size + 1 + 1 + 1 + 1 + 1 + 1 + 1 + 1 + 1, 0, none⟩) 3 3, .slice (some ⟨w.heap.size + 1 + 1 + 1 + 1 + 1 + 1 + 1 + 1 + 1 + 1, 0, none⟩) 2 2] 32 (0, 0)) := by
    have h := heap_alloc_new (((((((((((w.alloc (.cells (rowC 65537 fun _ => 0) 5)).alloc (.cells #[.int .u8 1] 5)).alloc (.cells #[.slice (some ⟨w.heap.size + 1, 0, none⟩) 1 1] 31)).alloc (.cells #[.int .u8 1] 5)).alloc (.cells #[.int .u8 1, .int .u8 2] 5)).alloc (.cells #[.slice (some ⟨w.heap.size + 1 + 1 + 1, 0, none⟩) 1 1, .slice (some ⟨w.heap.size + 1 + 1 + 1 + 1, 0, none⟩) 2 2] 31)).alloc (.cells #[.int .u8 1] 5)).alloc (.cells #[.int .u8 1] 5)).alloc (.cells #[.int .u8 1] 5)).alloc (.cells #[.slice (some ⟨w.heap.size + 1 + 1 + 1 + 1 + 1 + 1, 0, none⟩) 1 1, .slice (some ⟨w.heap.size + 1 + 1 + 1 + 1 + 1 + 1 + 1, 0, none⟩) 1 1, .slice (some ⟨w.heap.size + 1 + 1 + 1 + 1 + 1 + 1 + 1 + 1, 0, none⟩) 1 1] 31)).alloc (.cells #[.slice (some ⟨w.heap.size, 0, none⟩) 65537 65537, .slice (some ⟨w.heap.size, 0, none⟩) 65537 65537] 31)) (.cells #[.slice none 0 0, .slice (some ⟨w.heap.size + 1 + 1, 0, none⟩) 1 1, .slice (some ⟨w.heap.size + 1 + 1 + 1 + 1 + 1, 0, none⟩) 2 2, .slice (some ⟨w.heap.size + 1 + 1 + 1 + 1 + 1 + 1 + 1 + 1 + 1, 0, none⟩) 3 3, .slice (some ⟨w.heap.size + 1 + 1 + 1 + 1 + 1 + 1 + 1 + 1 + 1 + 1, 0, none⟩) 2 2] 32)
    simp only [size_alloc] at h
    exact h
  have hc := fun i => cell_of_row ((((((((((((w.alloc (.cells (rowC 65537 fun _ => 0) 5)).alloc (.cells #[.int .u8 1] 5)).alloc (.cells #[.slice (some ⟨w.heap.size + 1, 0, none⟩) 1 1] 31)).alloc (.cells #[.int .u8 1] 5)).alloc (.cells #[.int .u8 1, .int .u8 2] 5)).alloc (.cells #[.slice (some ⟨w.heap.size + 1 + 1 + 1, 0, none⟩) 1 1, .slice (some ⟨w.heap.size + 1 + 1 + 1 + 1, 0, none⟩) 2 2] 31)).alloc (.cells #[.int .u8 1] 5)).alloc (.cells #[.int .u8 1] 5)).alloc (.cells #[.int .u8 1] 5)).alloc (.cells #[.slice (some ⟨w.heap.size + 1 + 1 + 1 + 1 + 1 + 1, 0, none⟩) 1 1, .slice (some ⟨w.heap.size + 1 + 1 + 1 + 1 + 1 + 1 + 1, 0, none⟩) 1 1, .slice (some ⟨w.heap.size + 1 + 1 + 1 + 1 + 1 + 1 + 1 + 1, 0, none⟩) 1 1] 31)).alloc (.cells #[.slice (some ⟨w.heap.size, 0, none⟩) 65537 65537, .slice (some ⟨w.heap.size, 0, none⟩) 65537 65537] 31)).alloc (.cells #[.slice none 0 0, .slice (some ⟨w.heap.size + 1 + 1, 0, none⟩) 1 1, .slice (some ⟨w.heap.size + 1 + 1 + 1 + 1 + 1, 0, none⟩) 2 2, .slice (some ⟨w.heap.size + 1 + 1 + 1 + 1 + 1 + 1 + 1 + 1 + 1, 0, none⟩) 3 3, .slice (some ⟨w.heap.size + 1 + 1 + 1 + 1 + 1 + 1 + 1 + 1 + 1 + 1, 0, none⟩) 2 2] 32)) (w.heap.size + 1 + 1 + 1 + 1 + 1 + 1 + 1 + 1 + 1 + 1 + 1) i _ 32 (0, 0) hrow
  refine ⟨⟨by simp only [size_alloc]; omega, fun i hi => ?_⟩, (balloc (balloc (balloc (balloc (balloc (balloc (balloc (balloc (balloc (balloc (balloc (balloc (Below.refl w.heap.size w) _) _) _) _) _) _) _) _) _) _) _) _)⟩
  match i, hi with
  | 0, _ => exact ⟨none, 0, 0, [], hc 0, mr_nil _ _, by decide, by decide, by omega, by omega, by simp⟩
  | 1, _ => exact ⟨_, 1, 1, [[1]], hc 1, (((((((((m1).below (balloc (Below.refl _ _) _) (Nat.le_refl _)).below (balloc (Below.refl _ _) _) (Nat.le_refl _)).below (balloc (Below.refl _ _) _) (Nat.le_refl _)).below (balloc (Below.refl _ _) _) (Nat.le_refl _)).below (balloc (Below.refl _ _) _) (Nat.le_refl _)).below (balloc (Below.refl _ _) _) (Nat.le_refl _)).below (balloc (Below.refl _ _) _) (Nat.le_refl _)).below (balloc (Below.refl _ _) _) (Nat.le_refl _)).below (balloc (Below.refl _ _) _) (Nat.le_refl _), by decide, by decide, by omega, by omega, by simp⟩
  | 2, _ => exact ⟨_, 2, 2, [[1], [1, 2]], hc 2, ((((((m2).below (balloc (Below.refl _ _) _) (Nat.le_refl _)).below (balloc (Below.refl _ _) _) (Nat.le_refl _)).below (balloc (Below.refl _ _) _) (Nat.le_refl _)).below (balloc (Below.refl _ _) _) (Nat.le_refl _)).below (balloc (Below.refl _ _) _) (Nat.le_refl _)).below (balloc (Below.refl _ _) _) (Nat.le_refl _), by decide, by decide, by omega, by omega, by simp⟩
  | 3, _ => exact ⟨_, 3, 3, [[1], [1], [1]], hc 3, ((m3).below (balloc (Below.refl _ _) _) (Nat.le_refl _)).below (balloc (Below.refl _ _) _) (Nat.le_refl _), by decide, by decide, by omega, by omega, by simp⟩
  | 4, _ => exact ⟨_, 2, 2, [longL, longL], hc 4, (m4).below (balloc (Below.refl _ _) _) (Nat.le_refl _), long_bad, rfl, by omega, by omega, by simp [longL_len]⟩
def pairs : Array Value := #[.int .i64 0, .int .i64 1, .int .i64 2, .int .i64 1, .int .i64 1, .int .i64 256, .int .i64 (-1), .int .i64 3, .int .i64 256, .int .i64 256]
theorem pairs_at {i : Nat} (h : i < 5) : ∃ x y : Int, (x < 1 ∨ y < x ∨ 255 < y) ∧ pairs[i * 2]? = some (.int .i64 x) ∧ pairs[i * 2 + 1]? = some (.int .i64 y) := by
  match i, h with
  | 0, _ => exact ⟨0, 1, by omega, rfl, rfl⟩
  | 1, _ => exact ⟨2, 1, by omega, rfl, rfl⟩
  | 2, _ => exact ⟨1, 256, by omega, rfl, rfl⟩
  | 3, _ => exact ⟨-1, 3, by omega, rfl, rfl⟩
  | 4, _ => exact ⟨256, 256, by omega, rfl, rfl⟩
set_option maxHeartbeats 8000000 in
theorem numbers_any (w : World) : Calls Try.prog 3 #[] w fun e w' => e = .returned (.bool true) ∧ Below w.heap.size w w' := by
  have hmk : ∀ W : World, (Instr.makeSlice 31 (.int .i64 65537) (.int .i64 65537)).run Try.prog W = .ok (.slice (some ⟨W.heap.size, 0, none⟩) 65537 65537) (W.alloc (.cells (rowC 65537 (fun _ => 0)) 5)) := fun W => make31 65537 (by omega) W
  go_enter Try.func3, Try.ntmps3
  go_wp2_with fail
  refine (new_any _).mono ?_
  rintro e w1 ⟨g, rfl, hF, hg, hB⟩
  have hW : Below w.heap.size w w1 := hB
  have HB1 : Hid (Below w.heap.size w w1) := hW
  have HF1 := Lib.hid (hF)
  clear hW 
  clear hF hg hB
  go_wp2
  have hh : (w1.alloc (.cells pairs 24)).heap[w1.heap.size]? = some (.cells pairs 24 (0, 0)) := heap_alloc_new w1 _
  have hb : Below w1.heap.size w1 (w1.alloc (.cells pairs 24)) := (Below.refl _ _).alloc (Nat.le_refl _) _
  have H0 : Hid (_ ∧ _ ∧ _) := And.intro hh (And.intro (HF1.out.below hb HF1.out.lt) (HB1.out.trans (hb.mono HB1.out.size)))
  change Hid ((w1.alloc (.cells #[.int .i64 0, .int .i64 1, .int .i64 2, .int .i64 1, .int .i64 1, .int .i64 256, .int .i64 (-1), .int .i64 3, .int .i64 256, .int .i64 256] 24)).heap[w1.heap.size]? = some (.cells pairs 24 (0, 0)) ∧ FldAt (w1.alloc (.cells #[.int .i64 0, .int .i64 1, .int .i64 2, .int .i64 1, .int .i64 1, .int .i64 256, .int .i64 (-1), .int .i64 3, .int .i64 256, .int .i64 256] 24)) g ∧ Below w.heap.size w (w1.alloc (.cells #[.int .i64 0, .int .i64 1, .int .i64 2, .int .i64 1, .int .i64 1, .int .i64 256, .int .i64 (-1), .int .i64 3, .int .i64 256, .int .i64 256] 24))) at H0
  clear hh hb HF1 HB1
  obtain ⟨b0, hb0⟩ : ∃ b0, w1.heap.size = b0 := ⟨_, rfl⟩
  rw [hb0] at H0 ⊢
  clear hb0
  generalize w1.alloc (.cells #[.int .i64 0, .int .i64 1, .int .i64 2, .int .i64 1, .int .i64 1, .int .i64 256, .int .i64 (-1), .int .i64 3, .int .i64 256, .int .i64 256] 24) = wa at H0 ⊢
  go_loopw [48] (fun i wr => ∃ k : Nat, k ≤ 5 ∧ i = .int .i64 k ∧ Hid (wr.heap[b0]? = some (.cells pairs 24 (0, 0)) ∧ FldAt wr g ∧ Below w.heap.size w wr)) (fun i _ => 5 - (Go.RowKit.intOf i).toNat)
  case atStart => exact ⟨0, by omega, rfl, H0.out⟩
  case round =>
    obtain ⟨k, hk, rfl, HR⟩ := hrel
    clear H0
    by_cases hlt : k < 5
    · obtain ⟨x, y, hxy, hx, hy⟩ := pairs_at hlt
      have c0 : wr.cell? ⟨b0, k * 2, none⟩ = some (.int .i64 x) := (cell_of_row wr b0 (k * 2) _ 24 (0, 0) HR.out.1).trans hx
      have c1 : wr.cell? ⟨b0, k * 2 + 1, none⟩ = some (.int .i64 y) := (cell_of_row wr b0 (k * 2 + 1) _ 24 (0, 0) HR.out.1).trans hy
      have HXY := Lib.hid hxy
      clear hx hy hxy
      go_wp2_with fail
      refine (cnew_arg g x y _ (HR.out.2.1.below ((Below.refl _ _).alloc (Nat.le_refl _) _) HR.out.2.1.lt) HXY.out).mono ?_
      rintro e v1 ⟨rfl, hB⟩
      have hb : Below wr.heap.size wr v1 := ((Below.refl _ _).alloc (Nat.le_refl _) _).trans (hB.mono (by simp))
      have HV := Lib.hid (And.intro ((hb.block _ (Array.getElem?_eq_some_iff.1 HR.out.1).1).trans HR.out.1) (And.intro (HR.out.2.1.below hb HR.out.2.1.lt) (HR.out.2.2.trans (hb.mono HR.out.2.2.size))))
      clear hb hB c0 c1
      go_wp2
      go_roundw
      case rel => exact ⟨k + 1, by omega, by go_num, HV.out⟩
      case measure => simp [Go.RowKit.intOf]; omega
    · obtain rfl : k = 5 := by omega
      have HF2 := Lib.hid HR.out.2.1
      have HB2 : Hid (Below w.heap.size w wr) := HR.out.2.2
      clear HR
      go_wp2_with fail
      refine (cnew_none none 1 1 wr (.inl rfl)).mono ?_
      rintro e w3 ⟨rfl, hB⟩
      have hW : Below wr.heap.size wr w3 := hB
      have HF3 := Lib.hid (HF2.out.below hW HF2.out.lt)
      have HB3 : Hid (Below w.heap.size w w3) := HB2.out.trans (hW.mono HB2.out.size)
      clear hW HF2 HB2
      clear hB
      go_wp2_with fail
      refine (cnew_yes g 255 255 w3 HF3.out (by omega) (by omega) (by omega)).mono ?_
      rintro e w4 ⟨gz, gy, A0, c0, rfl, hC, hB⟩
      have hW : Below w3.heap.size w3 w4 := hB
      have HF4 := Lib.hid (HF3.out.below hW HF3.out.lt)
      have HB4 : Hid (Below w.heap.size w w4) := HB3.out.trans (hW.mono HB3.out.size)
      have HG4 := Lib.hid (hC)
      clear hW HF3 HB3
      clear hC hB
      go_wp2_with fail
      refine (cnew_yes g 255 1 w4 HF4.out (by omega) (by omega) (by omega)).mono ?_
      rintro e w5 ⟨gw, gx, A1, c1, rfl, hC, hB⟩
      have hW : Below w4.heap.size w4 w5 := hB
      have HF5 := Lib.hid (HF4.out.below hW HF4.out.lt)
      have HG5 := Lib.hid (HG4.out.below hW (Nat.le_refl _))
      have HB5 : Hid (Below w.heap.size w w5) := HB4.out.trans (hW.mono HB4.out.size)
      have HW5 := Lib.hid (hC)
      clear hW HF4 HG4 HB4
      clear hC hB
      go_wp2_with fail
      refine (cnew_yes g 4 2 w5 HF5.out (by omega) (by omega) (by omega)).mono ?_
      rintro e w6 ⟨gc, gf, A2, c2, rfl, hC, hB⟩
      have hW : Below w5.heap.size w5 w6 := hB
      have HG6 := Lib.hid (HG5.out.below hW (Nat.le_refl _))
      have HW6 := Lib.hid (HW5.out.below hW (Nat.le_refl _))
      have HB6 : Hid (Below w.heap.size w w6) := HB5.out.trans (hW.mono HB5.out.size)
      have HC6 := Lib.hid (hC)
      clear hW HF5 HG5 HW5 HB5
      clear hC hB
      go_wp2_with fail
      refine (need_yes _ HG6.out).mono ?_
      rintro e v ⟨rfl, rfl⟩
      go_wp2_with fail
      refine (all_yes _ HG6.out).mono ?_
      rintro e v ⟨rfl, rfl⟩
      go_wp2_with fail
      refine (all_yes _ HW6.out).mono ?_
      rintro e v ⟨rfl, rfl⟩
      go_wp2_with fail
      refine (need_yes _ HW6.out).mono ?_
      rintro e v ⟨rfl, rfl⟩
      clear HG6 HW6
      go_wp2
      have hbl := bads_lit w6
      have HBL : Hid (_ ∧ _) := hbl
      clear hbl hmk
      have HC7 := Lib.hid (HC6.out.below HBL.out.2 (Nat.le_refl _))
      have HB7 : Hid (Below w.heap.size w _) := HB6.out.trans (HBL.out.2.mono HB6.out.size)
      obtain ⟨bl, hbl⟩ : ∃ bl, w6.heap.size + 1 + 1 + 1 + 1 + 1 + 1 + 1 + 1 + 1 + 1 + 1 = bl := ⟨_, rfl⟩
      rw [hbl] at HBL
      rw [hbl]
      generalize ((((((((((((w6.alloc (.cells (rowC 65537 fun _ => 0) 5)).alloc (.cells #[.int .u8 1] 5)).alloc (.cells #[.slice (some ⟨w6.heap.size + 1, 0, none⟩) 1 1] 31)).alloc (.cells #[.int .u8 1] 5)).alloc (.cells #[.int .u8 1, .int .u8 2] 5)).alloc (.cells #[.slice (some ⟨w6.heap.size + 1 + 1 + 1, 0, none⟩) 1 1, .slice (some ⟨w6.heap.size + 1 + 1 + 1 + 1, 0, none⟩) 2 2] 31)).alloc (.cells #[.int .u8 1] 5)).alloc (.cells #[.int .u8 1] 5)).alloc (.cells #[.int .u8 1] 5)).alloc (.cells #[.slice (some ⟨w6.heap.size + 1 + 1 + 1 + 1 + 1 + 1, 0, none⟩) 1 1, .slice (some ⟨w6.heap.size + 1 + 1 + 1 + 1 + 1 + 1 + 1, 0, none⟩) 1 1, .slice (some ⟨w6.heap.size + 1 + 1 + 1 + 1 + 1 + 1 + 1 + 1, 0, none⟩) 1 1] 31)).alloc (.cells #[.slice (some ⟨w6.heap.size, 0, none⟩) 65537 65537, .slice (some ⟨w6.heap.size, 0, none⟩) 65537 65537] 31)).alloc (.cells #[.slice none 0 0, .slice (some ⟨w6.heap.size + 1 + 1, 0, none⟩) 1 1, .slice (some ⟨w6.heap.size + 1 + 1 + 1 + 1 + 1, 0, none⟩) 2 2, .slice (some ⟨w6.heap.size + 1 + 1 + 1 + 1 + 1 + 1 + 1 + 1 + 1, 0, none⟩) 3 3, .slice (some ⟨w6.heap.size + 1 + 1 + 1 + 1 + 1 + 1 + 1 + 1 + 1 + 1, 0, none⟩) 2 2] 32)) = wl at HBL HC7 HB7 ⊢
      have H0 : Hid (Bads wl bl ∧ CodeAt wl gc 4 2 gf A2 c2 ∧ Below w.heap.size w wl) := ⟨HBL.out.1, HC7.out, HB7.out⟩
      clear HBL HC7 HB7 HC6 HB6 hbl
      go_loopw [139] (fun i wr => ∃ k : Nat, k ≤ 5 ∧ i = .int .i64 k ∧ Hid (Bads wr bl ∧ CodeAt wr gc 4 2 gf A2 c2 ∧ Below w.heap.size w wr)) (fun i _ => 5 - (Go.RowKit.intOf i).toNat)
      case atStart => exact ⟨0, by omega, rfl, H0.out⟩
      case round =>
        rename_i wq
        obtain ⟨k, hk, rfl, HR⟩ := hrel
        clear H0
        by_cases hlt : k < 5
        · obtain ⟨B, q, d, L, h1, h2, h3, h4, h5, h6, h7⟩ := HR.out.1.2 k hlt
          have HQ := Lib.hid (And.intro h2 (And.intro h3 (And.intro h4 (And.intro h5 (And.intro h6 h7)))))
          clear h2 h3 h4 h5 h6 h7
          go_wp2_with fail
          refine (enc_no (g := gc) _ _ _ L _ HR.out.2.1 HQ.out.1 (by have := HQ.out.2.2.2.2.1; omega) (fun r hr => by have := HQ.out.2.2.2.2.2 r hr; omega) HQ.out.2.1).mono ?_
          rintro e v1 ⟨rfl, hB⟩
          have H1 := Lib.hid (And.intro (HR.out.1.below hB) (And.intro (HR.out.2.1.below hB (Nat.le_refl _)) (And.intro (HR.out.2.2.trans (hB.mono HR.out.2.2.size)) (HQ.out.1.below hB (Nat.le_refl _)))))
          clear hB h1
          go_wp2_with fail
          have hft := fits_any (g := gc) _ _ d L v1 H1.out.2.1 H1.out.2.2.2 (by have := HQ.out.2.2.2.2.1; omega) HQ.out.2.2.2.1 (fun r hr => by have := HQ.out.2.2.2.2.2 r hr; omega)
          rw [HQ.out.2.2.1] at hft
          refine hft.mono ?_
          rintro e v2 ⟨rfl, hB⟩
          have H2 := Lib.hid (And.intro (H1.out.1.below hB) (And.intro (H1.out.2.1.below hB (Nat.le_refl _)) (H1.out.2.2.1.trans (hB.mono H1.out.2.2.1.size))))
          clear hB hft
          go_wp2
          go_roundw
          case rel => exact ⟨k + 1, by omega, by go_num, H2.out⟩
          case measure => simp [Go.RowKit.intOf]; omega
        · obtain rfl : k = 5 := by omega
          have HC7 := Lib.hid HR.out.2.1
          have HB7 : Hid (Below w.heap.size w wr) := HR.out.2.2
          clear HR
          go_wp2_with fail
          refine (wrong_yes (g := gc) _ 1 _ [(0 : Int)] _ 1 _ [[1]] _ (by exact (((HC7.out).alloc _).alloc _).alloc _) (by exact ((RdV.new wr (ivs [(0 : Int)]) 3 (0, 0)).alloc _).alloc _) (by have h0 := (mo1 (wr.alloc (.cells #[.int .i64 0] 3)) [1] 1 rfl).mr; simp only [size_alloc] at h0; exact h0) (by omega) (by omega) (by simp) (.inl (by omega))).mono ?_
          rintro e w8 ⟨rfl, hB⟩
          have hW : Below wr.heap.size wr w8 := bhop (balloc (balloc (balloc (Below.refl wr.heap.size wr) _) _) _) hB
          have HC8 := Lib.hid (HC7.out.below hW (Nat.le_refl _))
          have HB8 : Hid (Below w.heap.size w w8) := HB7.out.trans (hW.mono HB7.out.size)
          clear hW HC7 HB7
          clear hB
          go_wp2_with fail
          refine (wrong_yes (g := gc) _ 2 _ [(0 : Int), (0 : Int)] _ 2 _ [[1], [1]] _ (by exact ((((HC8.out).alloc _).alloc _).alloc _).alloc _) (by exact (((RdV.new w8 (ivs [(0 : Int), (0 : Int)]) 3 (0, 0)).alloc _).alloc _).alloc _) (by have h0 := (mo2 (w8.alloc (.cells #[.int .i64 0, .int .i64 0] 3)) [1] [1] 1 1 rfl rfl).mr; simp only [size_alloc] at h0; exact h0) (by omega) (by omega) (by simp) (.inr (by decide))).mono ?_
          rintro e w9 ⟨rfl, hB⟩
          have hW : Below w8.heap.size w8 w9 := bhop (balloc (balloc (balloc (balloc (Below.refl w8.heap.size w8) _) _) _) _) hB
          have HC9 := Lib.hid (HC8.out.below hW (Nat.le_refl _))
          have HB9 : Hid (Below w.heap.size w w9) := HB8.out.trans (hW.mono HB8.out.size)
          clear hW HC8 HB8
          clear hB
          go_wp2_with fail
          refine (wrong_yes (g := gc) _ 2 _ [(0 : Int), (4 : Int)] _ 2 _ [[1], [1]] _ (by exact ((((HC9.out).alloc _).alloc _).alloc _).alloc _) (by exact (((RdV.new w9 (ivs [(0 : Int), (4 : Int)]) 3 (0, 0)).alloc _).alloc _).alloc _) (by have h0 := (mo2 (w9.alloc (.cells #[.int .i64 0, .int .i64 4] 3)) [1] [1] 1 1 rfl rfl).mr; simp only [size_alloc] at h0; exact h0) (by omega) (by omega) (by simp) (.inr (by decide))).mono ?_
          rintro e w10 ⟨rfl, hB⟩
          have hW : Below w9.heap.size w9 w10 := bhop (balloc (balloc (balloc (balloc (Below.refl w9.heap.size w9) _) _) _) _) hB
          have HC10 := Lib.hid (HC9.out.below hW (Nat.le_refl _))
          have HB10 : Hid (Below w.heap.size w w10) := HB9.out.trans (hW.mono HB9.out.size)
          clear hW HC9 HB9
          clear hB
          go_wp2_with fail
          refine (wrong_yes (g := gc) _ 2 _ [(-1 : Int), (1 : Int)] _ 2 _ [[1], [1]] _ (by exact ((((HC10.out).alloc _).alloc _).alloc _).alloc _) (by exact (((RdV.new w10 (ivs [(-1 : Int), (1 : Int)]) 3 (0, 0)).alloc _).alloc _).alloc _) (by have h0 := (mo2 (w10.alloc (.cells #[.int .i64 (-1), .int .i64 1] 3)) [1] [1] 1 1 rfl rfl).mr; simp only [size_alloc] at h0; exact h0) (by omega) (by omega) (by simp) (.inr (by decide))).mono ?_
          rintro e w11 ⟨rfl, hB⟩
          have hW : Below w10.heap.size w10 w11 := bhop (balloc (balloc (balloc (balloc (Below.refl w10.heap.size w10) _) _) _) _) hB
          have HC11 := Lib.hid (HC10.out.below hW (Nat.le_refl _))
          have HB11 : Hid (Below w.heap.size w w11) := HB10.out.trans (hW.mono HB10.out.size)
          clear hW HC10 HB10
          clear hB
          go_wp2_with fail
          refine (wrong_yes (g := gc) _ 2 _ [(0 : Int), (1 : Int)] _ 1 _ [[1]] _ (by exact (((HC11.out).alloc _).alloc _).alloc _) (by exact ((RdV.new w11 (ivs [(0 : Int), (1 : Int)]) 3 (0, 0)).alloc _).alloc _) (by have h0 := (mo1 (w11.alloc (.cells #[.int .i64 0, .int .i64 1] 3)) [1] 1 rfl).mr; simp only [size_alloc] at h0; exact h0) (by omega) (by omega) (by simp) (.inr (by decide))).mono ?_
          rintro e w12 ⟨rfl, hB⟩
          have hW : Below w11.heap.size w11 w12 := bhop (balloc (balloc (balloc (Below.refl w11.heap.size w11) _) _) _) hB
          have HC12 := Lib.hid (HC11.out.below hW (Nat.le_refl _))
          have HB12 : Hid (Below w.heap.size w w12) := HB11.out.trans (hW.mono HB11.out.size)
          clear hW HC11 HB11
          clear hB
          go_wp2_with fail
          refine (wrong_yes (g := gc) _ 2 _ [(0 : Int), (1 : Int)] _ 2 _ [[1], [1, 2]] _ (by exact ((((HC12.out).alloc _).alloc _).alloc _).alloc _) (by exact (((RdV.new w12 (ivs [(0 : Int), (1 : Int)]) 3 (0, 0)).alloc _).alloc _).alloc _) (by have h0 := (mo2 (w12.alloc (.cells #[.int .i64 0, .int .i64 1] 3)) [1] [1, 2] 1 2 rfl rfl).mr; simp only [size_alloc] at h0; exact h0) (by omega) (by omega) (by simp) (.inr (by decide))).mono ?_
          rintro e w13 ⟨rfl, hB⟩
          have hW : Below w12.heap.size w12 w13 := bhop (balloc (balloc (balloc (balloc (Below.refl w12.heap.size w12) _) _) _) _) hB
          have HC13 := Lib.hid (HC12.out.below hW (Nat.le_refl _))
          have HB13 : Hid (Below w.heap.size w w13) := HB12.out.trans (hW.mono HB12.out.size)
          clear hW HC12 HB12
          clear hB
          go_wp2_with fail
          refine (wrong_yes (g := gc) _ 0 _ [] _ 0 _ [] _ (HC13.out) (by exact RdV.nil _ _) (mr_nil _ _) (by omega) (by omega) (by simp) (.inl (by omega))).mono ?_
          rintro e w14 ⟨rfl, hB⟩
          have hW : Below w13.heap.size w13 w14 := hB
          have HC14 := Lib.hid (HC13.out.below hW (Nat.le_refl _))
          have HB14 : Hid (Below w.heap.size w w14) := HB13.out.trans (hW.mono HB13.out.size)
          clear hW HC13 HB13
          clear hB
          go_wp2_with fail
          refine (wrong_yes (g := gc) _ 5 _ [(0 : Int), (1 : Int), (2 : Int), (3 : Int), (0 : Int)] _ 5 _ [[1], [1], [1], [1], [1]] _ (by exact (((((((HC14.out).alloc _).alloc _).alloc _).alloc _).alloc _).alloc _).alloc _) (by exact ((((((RdV.new w14 (ivs [(0 : Int), (1 : Int), (2 : Int), (3 : Int), (0 : Int)]) 3 (0, 0)).alloc _).alloc _).alloc _).alloc _).alloc _).alloc _) (by have h0 := mr5 (w14.alloc (.cells #[.int .i64 0, .int .i64 1, .int .i64 2, .int .i64 3, .int .i64 0] 3)); simp only [size_alloc] at h0; exact h0) (by omega) (by omega) (by simp) (.inr (by decide))).mono ?_
          rintro e w15 ⟨rfl, hB⟩
          have hW : Below w14.heap.size w14 w15 := bhop (balloc (balloc (balloc (balloc (balloc (balloc (balloc (Below.refl w14.heap.size w14) _) _) _) _) _) _) _) hB
          have HC15 := Lib.hid (HC14.out.below hW (Nat.le_refl _))
          have HB15 : Hid (Below w.heap.size w w15) := HB14.out.trans (hW.mono HB14.out.size)
          clear hW HC14 HB14
          clear hB
          go_wp2_with fail
          refine (enc_yes (g := gc) _ _ 0 (fun _ _ => 0) _ (by exact (((HC15.out).alloc _).alloc _).alloc _) (by rw [← t00]; have h0 := (mo2 w15 [] [] 0 0 rfl rfl).mr; exact h0) (by omega)).mono ?_
          rintro e w16 ⟨Ax, cx, rfl, hM, hB⟩
          rw [e00] at hM
          have HCX : Hid (4 ≤ cx) := by
            obtain ⟨vs, hv, _⟩ := hM.out
            exact hv.cap
          have hW : Below w15.heap.size w15 w16 := bhop (balloc (balloc (balloc (Below.refl w15.heap.size w15) _) _) _) hB
          have HC16 := Lib.hid (HC15.out.below hW (Nat.le_refl _))
          have HB16 : Hid (Below w.heap.size w w16) := HB15.out.trans (hW.mono HB15.out.size)
          have Hx16 := Lib.hid (hM.mr)
          clear hW HC15 HB15
          clear hM hB
          go_wp2_with fail
          refine (reb_arg (g := gc) _ 2 2 [0, 1] _ _ 1 (matF [[1], [1]]) (4) _ (by exact ((((HC16.out).alloc _).alloc _).alloc _).alloc _) (by exact (((RdV.new w16 (nvs [0, 1]) 3 (0, 0)).alloc _).alloc _).alloc _) (by rw [← t11]; have h0 := (mo2 (w16.alloc (.cells #[.int .i64 0, .int .i64 1] 3)) [1] [1] 1 1 rfl rfl).mr; simp only [size_alloc] at h0; exact h0) (by omega) (by omega) (by omega) pl01 (by omega) (by omega)).mono ?_
          rintro e w17 ⟨rfl, hB⟩
          have hW : Below w16.heap.size w16 w17 := bhop (balloc (balloc (balloc (balloc (Below.refl w16.heap.size w16) _) _) _) _) hB
          have HC17 := Lib.hid (HC16.out.below hW (Nat.le_refl _))
          have Hx17 := Lib.hid (Hx16.out.below hW (Nat.le_refl _))
          have HB17 : Hid (Below w.heap.size w w17) := HB16.out.trans (hW.mono HB16.out.size)
          clear hW HC16 Hx16 HB16
          clear hB
          go_wp2_with fail
          refine (reb_arg (g := gc) _ 2 2 [0, 1] _ _ 1 (matF [[1], [1]]) (-1) _ (by exact ((((HC17.out).alloc _).alloc _).alloc _).alloc _) (by exact (((RdV.new w17 (nvs [0, 1]) 3 (0, 0)).alloc _).alloc _).alloc _) (by rw [← t11]; have h0 := (mo2 (w17.alloc (.cells #[.int .i64 0, .int .i64 1] 3)) [1] [1] 1 1 rfl rfl).mr; simp only [size_alloc] at h0; exact h0) (by omega) (by omega) (by omega) pl01 (by omega) (by omega)).mono ?_
          rintro e w18 ⟨rfl, hB⟩
          have hW : Below w17.heap.size w17 w18 := bhop (balloc (balloc (balloc (balloc (Below.refl w17.heap.size w17) _) _) _) _) hB
          have HC18 := Lib.hid (HC17.out.below hW (Nat.le_refl _))
          have Hx18 := Lib.hid (Hx17.out.below hW (Nat.le_refl _))
          have HB18 : Hid (Below w.heap.size w w18) := HB17.out.trans (hW.mono HB17.out.size)
          clear hW HC17 Hx17 HB17
          clear hB
          go_wp2_with fail
          refine (split_arg (g := gc) _ 0 0 0 _ HC18.out (by omega)).mono ?_
          rintro e w19 ⟨rfl, hB⟩
          have hW : Below w18.heap.size w18 w19 := hB
          have HC19 := Lib.hid (HC18.out.below hW (Nat.le_refl _))
          have Hx19 := Lib.hid (Hx18.out.below hW (Nat.le_refl _))
          have HB19 : Hid (Below w.heap.size w w19) := HB18.out.trans (hW.mono HB18.out.size)
          clear hW HC18 Hx18 HB18
          clear hB
          go_wp2_with fail
          refine (split_arg (g := gc) _ 0 0 65537 _ HC19.out (by omega)).mono ?_
          rintro e w20 ⟨rfl, hB⟩
          have hW : Below w19.heap.size w19 w20 := hB
          have HC20 := Lib.hid (HC19.out.below hW (Nat.le_refl _))
          have Hx20 := Lib.hid (Hx19.out.below hW (Nat.le_refl _))
          have HB20 : Hid (Below w.heap.size w w20) := HB19.out.trans (hW.mono HB19.out.size)
          clear hW HC19 Hx19 HB19
          clear hB
          go_wp2_with fail
          refine (split_yes (g := gc) none 0 0 5 [] _ HC20.out (Rd.nil _ _) (by omega) (by omega) (by omega) (by omega)).mono ?_
          rintro e w21 ⟨Xs, xs, rfl, hT, hB⟩
          have hns : nst 0 (2 * 5) = 0 := by decide
          rw [hns]
          have hW : Below w20.heap.size w20 w21 := hB
          have HC21 := Lib.hid (HC20.out.below hW (Nat.le_refl _))
          have Hx21 := Lib.hid (Hx20.out.below hW (Nat.le_refl _))
          have HB21 : Hid (Below w.heap.size w w21) := HB20.out.trans (hW.mono HB20.out.size)
          clear hW HC20 Hx20 HB20
          clear hT hB hns
          go_wp2_with fail
          refine (join_any (g := gc) _ 1 _ [[[1]]] 0 _ (by exact (((HC21.out).alloc _).alloc _).alloc _) (tr_one w21) (by omega) (by intro T hT; simp at hT; subst hT; exact ⟨by decide, fun r hr => by simp at hr; subst hr; decide⟩)).mono ?_
          rintro e w22 ⟨hB, hJ⟩
          obtain ⟨_, rfl⟩ : joinB 2 [[[1]]] = false ∧ e = .returned (.tuple #[.slice none 0 0, .int .i64 40]) := by
            rcases hJ with h | h | h
            · exact h
            · exact absurd h.1 (by decide)
            · exact absurd h.1 (by decide)
          have hW : Below w21.heap.size w21 w22 := bhop (balloc (balloc (balloc (Below.refl w21.heap.size w21) _) _) _) hB
          have HC22 := Lib.hid (HC21.out.below hW (Nat.le_refl _))
          have Hx22 := Lib.hid (Hx21.out.below hW (Nat.le_refl _))
          have HB22 : Hid (Below w.heap.size w w22) := HB21.out.trans (hW.mono HB21.out.size)
          clear hW HC21 Hx21 HB21
          clear hB hJ
          go_wp2_with fail
          refine (join_any (g := gc) none 0 0 [] (1) _ HC22.out (tr_nil _ _) (by omega) (by simp)).mono ?_
          rintro e w23 ⟨hB, hJ⟩
          obtain rfl : e = .returned (.tuple #[.slice none 0 0, .int .i64 11]) := by
            rcases hJ with h | h | h
            · exact absurd h.1 (by decide)
            · exact h.2.2
            · exact absurd h.2 (by simp)
          have hW : Below w22.heap.size w22 w23 := hB
          have HC23 := Lib.hid (HC22.out.below hW (Nat.le_refl _))
          have Hx23 := Lib.hid (Hx22.out.below hW (Nat.le_refl _))
          have HB23 : Hid (Below w.heap.size w w23) := HB22.out.trans (hW.mono HB22.out.size)
          clear hW HC22 Hx22 HB22
          clear hB hJ
          go_wp2_with fail
          refine (join_any (g := gc) none 0 0 [] (-1) _ HC23.out (tr_nil _ _) (by omega) (by simp)).mono ?_
          rintro e w24 ⟨hB, hJ⟩
          obtain rfl : e = .returned (.tuple #[.slice none 0 0, .int .i64 11]) := by
            rcases hJ with h | h | h
            · exact absurd h.1 (by decide)
            · exact h.2.2
            · exact absurd h.2 (by simp)
          have hW : Below w23.heap.size w23 w24 := hB
          have HC24 := Lib.hid (HC23.out.below hW (Nat.le_refl _))
          have Hx24 := Lib.hid (Hx23.out.below hW (Nat.le_refl _))
          have HB24 : Hid (Below w.heap.size w w24) := HB23.out.trans (hW.mono HB23.out.size)
          clear hW HC23 Hx23 HB23
          clear hB hJ
          go_wp2_with fail
          refine (join_any (g := gc) none 0 0 [] 0 _ HC24.out (tr_nil _ _) (by omega) (by simp)).mono ?_
          rintro e w25 ⟨hB, hJ⟩
          obtain ⟨Bj, cj, rfl⟩ : ∃ B cb, e = .returned (.tuple #[.slice B 0 cb, .int .i64 0]) := by
            rcases hJ with h | h | h
            · exact absurd h.1 (by decide)
            · exact absurd h.2.1 (by simp)
            · obtain ⟨_, _, _, B, cb, h, _⟩ := h
              exact ⟨B, cb, h⟩
          have hW : Below w24.heap.size w24 w25 := hB
          have HC25 := Lib.hid (HC24.out.below hW (Nat.le_refl _))
          have Hx25 := Lib.hid (Hx24.out.below hW (Nat.le_refl _))
          have HB25 : Hid (Below w.heap.size w w25) := HB24.out.trans (hW.mono HB24.out.size)
          clear hW HC24 Hx24 HB24
          clear hB hJ
          have hft := fits_any (g := gc) Ax 4 cx [[], [], [], []] w25 HC25.out Hx25.out (by omega) HCX.out (by simp)
          rw [f00] at hft
          have HFT := Lib.hid hft
          clear hft
          go_wp2_with fail
          refine (HFT.out).mono ?_
          rintro e w26 ⟨rfl, hB⟩
          have hW : Below w25.heap.size w25 w26 := hB
          have HB26 : Hid (Below w.heap.size w w26) := HB25.out.trans (hW.mono HB25.out.size)
          clear hW HC25 Hx25 HB25
          clear hB HFT
          go_wp2_with fail
          refine (awake_any _).mono ?_
          rintro e w27 ⟨rfl, hB⟩
          have hW : Below w26.heap.size w26 w27 := hB
          have HB27 : Hid (Below w.heap.size w w27) := HB26.out.trans (hW.mono HB26.out.size)
          clear hW  HB26
          clear hB
          go_wp2
          go_ret
          exact ⟨rfl, HB27.out⟩
end Go.Proofs.Ytobbjeephmfdeaa
