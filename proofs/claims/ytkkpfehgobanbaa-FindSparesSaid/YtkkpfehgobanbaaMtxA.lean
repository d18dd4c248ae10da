import Derived.Test.YtkkpfehgobanbaaMat
import Derived.Deep.LoopGhost
namespace Go.Proofs.Ytkkpfehgobanbaa
open Go.RowKit Go.Coop
set_option maxRecDepth 100000

theorem side_yes (x : Int) (w : World) (h1 : 1 ≤ x) (h2 : x ≤ 255) : Calls Try.prog 55 #[.int .i64 x] w fun e w' => e = .returned (.bool true) ∧ w = w' := by
  go_enter Try.func55, Try.ntmps55
  go_wp2
  go_ret
  exact ⟨rfl, rfl⟩
theorem side_low (x : Int) (w : World) (h1 : x < 1) : Calls Try.prog 55 #[.int .i64 x] w fun e w' => e = .returned (.bool false) ∧ w = w' := by
  go_enter Try.func55, Try.ntmps55
  go_wp2
  go_ret
  exact ⟨rfl, rfl⟩
theorem side_high (x : Int) (w : World) (h1 : 255 < x) : Calls Try.prog 55 #[.int .i64 x] w fun e w' => e = .returned (.bool false) ∧ w = w' := by
  have h2 : decide (x ≤ 255) = false := by simp; omega
  go_enter Try.func55, Try.ntmps55
  go_wp2
  go_ret
  exact ⟨rfl, rfl⟩
theorem side_no (x : Int) (w : World) (h : x < 1 ∨ 255 < x) : Calls Try.prog 55 #[.int .i64 x] w fun e w' => e = .returned (.bool false) ∧ w = w' := by
  rcases h with h | h
  · exact side_low x w h
  · exact side_high x w h

/-- there is a field -/
theorem mmade_yes (g : Nat) (w : World) (h : FldAt w g) : Calls Try.prog 57 #[.pointer (some ⟨g, 0, none⟩)] w (Still w (.bool true)) := by
  go_enter Try.func57, Try.ntmps57
  go_wp2_with (go_at_call 40; refine (inv_any _ 1 _ h (by omega) (by omega)).mono ?_; rintro e w' ⟨rfl, n, rfl⟩)
  go_ret
  exact ⟨rfl, n, rfl⟩

theorem made_rowC (k : Nat) : madeCells (Value.int .u8 0).cells (k * 1) = rowC k (fun _ => 0) := by
  apply Array.ext_getElem?
  intro j
  by_cases h : j < k
  · rw [rowC_at _ h]
    simp [madeCells, h, Value.cells, BV, Nat.mod_one]
  · rw [Array.getElem?_eq_none (by simp [madeCells]; omega), Array.getElem?_eq_none (by simp [rowC, bvs, rowL]; omega)]
theorem made_outC (g n k : Nat) : madeCells (Value.slice none 0 0).cells (n * 1) = outC g n k 0 := by
  apply Array.ext_getElem?
  intro j
  by_cases h : j < n
  · rw [outC_at h, if_neg (by omega)]
    simp [madeCells, h, Value.cells, Nat.mod_one]
  · rw [Array.getElem?_eq_none (by simp [madeCells]; omega), Array.getElem?_eq_none (by simp [outC]; omega)]
theorem make31 (k : Nat) (hk : k ≤ 140737488355328) (W : World) : (Instr.makeSlice 35 (.int .i64 (k : Int)) (.int .i64 (k : Int))).run Try.prog W = .ok (.slice (some ⟨W.heap.size, 0, none⟩) k k) (W.alloc (.cells (rowC k (fun _ => 0)) 5)) := by
  obtain ⟨i, hi, hz, hs, hb⟩ := info5b
  have := run_make (P := Try.prog) W 35 5 i (.int .u8 0) Try.underlying35 hi hz .i64 .i64 k k (by omega) (by omega) (by rw [hb]; omega) (by omega)
  rw [hs, Int.toNat_natCast, made_rowC] at this
  exact this
theorem make47 (n k : Nat) (hk : n ≤ 1099511627776) (W : World) : (Instr.makeSlice 86 (.int .i64 (n : Int)) (.int .i64 (n : Int))).run Try.prog W = .ok (.slice (some ⟨W.heap.size, 0, none⟩) n n) (W.alloc (.cells (outC W.heap.size n k 0) 35)) := by
  obtain ⟨i, hi, hz, hs, hb⟩ := info_parts info31
  have := run_make (P := Try.prog) W 86 35 i (.slice none 0 0) Try.underlying86 hi hz .i64 .i64 n n (by omega) (by omega) (by rw [hb]; omega) (by omega)
  rw [hs, Int.toNat_natCast, made_outC W.heap.size n k] at this
  exact this
theorem outC_set (g n k q : Nat) : (outC g n k q).setIfInBounds q (.slice (some ⟨g + 1 + q, 0, none⟩) k k) = outC g n k (q + 1) := by
  apply Array.ext_getElem?
  intro b
  by_cases hb : b < n
  · rw [outC_at hb, Array.getElem?_setIfInBounds]
    by_cases e : q = b
    · subst e
      rw [if_pos rfl, if_pos (by simp [outC]; omega), if_pos (by omega)]
    · rw [if_neg e, outC_at hb]
      by_cases h : b < q
      · rw [if_pos h, if_pos (by omega)]
      · rw [if_neg h, if_neg (by omega)]
  · rw [Array.getElem?_eq_none (by simp [outC]; omega), Array.getElem?_eq_none (by simp [outC]; omega)]

structure Mid (w : World) (g n k q : Nat) : Prop where
  out : w.heap[g]? = some (.cells (outC g n k q) 35 (0, 0))
  rows : ∀ i, i < q → w.heap[g + 1 + i]? = some (.cells (rowC k (fun _ => 0)) 5 (0, 0))
theorem Mid.step {w : World} {g n k q : Nat} (h : Mid w g n k q) (hs : w.heap.size = g + 1 + q) : Mid ((w.alloc (.cells (rowC k (fun _ => 0)) 5)).setCell ⟨g, q, none⟩ (.slice (some ⟨w.heap.size, 0, none⟩) k k)) g n k (q + 1) := by
  have hg : (w.alloc (.cells (rowC k (fun _ => 0)) 5)).heap[g]? = some (.cells (outC g n k q) 35 (0, 0)) := (Below.heap_alloc _ _ _ (by omega)).trans h.out
  refine ⟨?_, fun i hi => ?_⟩
  · rw [heap_setCell_same _ g q _ 35 _ hg, hs, outC_set]
  · rw [Below.heap_setCell _ _ _ _ (by show g + 1 + i ≠ g; omega)]
    by_cases e : i < q
    · exact (Below.heap_alloc _ _ _ (by omega)).trans (h.rows i e)
    · have : g + 1 + i = w.heap.size := by omega
      rw [this]
      exact heap_alloc_new w _
def Noughts (w : World) (n k : Nat) (e : Ending) (w' : World) : Prop := e = .returned (.slice (some ⟨w.heap.size, 0, none⟩) n n) ∧ Grid w' w.heap.size n k (fun _ _ => 0) ∧ Below w.heap.size w w'

set_option maxRecDepth 100000 in
theorem noughts_any (n k : Nat) (w : World) (hn : n ≤ 256) (hk : k ≤ 256) : Calls Try.prog 56 #[.int .i64 (n : Int), .int .i64 (k : Int)] w (Noughts w n k) := by
  have hm1 := make47 n k (by omega)
  have hm2 := make31 k (by omega)
  go_enter Try.func56, Try.ntmps56
  go_wp2
  go_loopw [11] (fun i wr => ∃ q : Nat, q ≤ n ∧ i = .int .i64 q ∧ Hid (Mid wr w.heap.size n k q) ∧ Hid (Below w.heap.size w wr) ∧ wr.heap.size = w.heap.size + 1 + q) (fun i _ => n - (intOf i).toNat)
  case atStart => exact ⟨0, by omega, rfl, ⟨heap_alloc_new w _, fun i hi => by omega⟩, (Below.refl _ _).alloc (Nat.le_refl _) _, by simp⟩
  case round =>
    obtain ⟨q, hq, rfl, HM, HB, hs⟩ := hrel
    have HS := Lib.hid hs
    clear hs hm1
    by_cases hlt : q < n
    · have hg : (wr.alloc (.cells (rowC k (fun _ => 0)) 5)).heap[w.heap.size]? = some (.cells (outC w.heap.size n k q) 35 (0, 0)) := (Below.heap_alloc _ _ _ (by have := HS.out; omega)).trans HM.out.out
      have hc := cell_of_row _ _ q _ 35 (0, 0) hg
      rw [outC_at hlt, if_neg (by omega)] at hc
      have hf := frozen_of_row _ _ q _ 35 hg
      clear hg
      generalize hR : rowC k (fun _ => (0 : UInt8)) = R at *
      have HR := Lib.hid hR
      clear hR
      go_wp2
      go_roundw
      case rel =>
        rw [← HR.out]
        refine ⟨q + 1, by omega, by go_num, HM.out.step HS.out, ?_, ?_⟩
        · exact (HB.out.alloc HB.out.size _).setCell (Nat.le_refl _) _
        · have := HS.out
          simp [World.setCell]
          omega
      case measure => simp [intOf]; omega
    · obtain rfl : q = n := by omega
      go_wp2
      go_ret
      exact ⟨rfl, ⟨HM.out.out, HM.out.rows⟩, HB.out⟩
end Go.Proofs.Ytkkpfehgobanbaa
