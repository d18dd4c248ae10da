/- CodeNone. -/
import Derived.Test.YtobbjeephmfdeaaAwkA
namespace Go.Proofs.Ytobbjeephmfdeaa
open Go.RowKit Go.Coop
set_option maxRecDepth 100000

theorem NoCode.below {w w' : World} {p : Option Addr} (h : NoCode w p) (hb : Below w.heap.size w w') : NoCode w' p := by
  rcases h with rfl | ⟨g, rfl, hc⟩
  · exact .inl rfl
  · exact .inr ⟨g, rfl, (hb.cell (p := ⟨g, 0, none⟩) (block_lt_of_cell hc)).trans hc⟩
theorem info62 : (Try.prog.info? 62).map (fun i => (i.zero, i.size)) = some (some (.agg #[.pointer none, .int .i64 0, .int .i64 0, .slice none 0 0]), 4) := by kernel_rfl
set_option maxHeartbeats 4000000 in
theorem none_law (A : Option Addr) (n c : Nat) (B : Option Addr) (m d : Nat) (x : Int) (w : World) :
    Calls Try.prog 5 #[.slice A n c, .slice B m d, .int .i64 x] w fun e w' => e = .returned (.bool true) ∧ Below w.heap.size w w' := by
  have hz := (zero_of_info info62).1
  go_enter Try.func5, Try.ntmps5
  go_wp2
  obtain ⟨w1, hw1⟩ : ∃ w1, (w.alloc (.cells #[.pointer none, .int .i64 0, .int .i64 0, .slice none 0 0] 62)).alloc (.cells #[.pointer none, .pointer (some ⟨w.heap.size, 0, none⟩)] 26) = w1 := ⟨_, rfl⟩
  have HB1 : Hid (Below w.heap.size w w1) := by rw [← hw1]; exact balloc (balloc (Below.refl _ _) _) _
  have hs1 : w1.heap.size = w.heap.size + 2 := by rw [← hw1, size_alloc, size_alloc]
  have HE : Hid (∀ q, q < 2 → ∃ p, w1.cell? ⟨w.heap.size + 1, q, none⟩ = some (.pointer p) ∧ NoCode w1 p) := by
    intro q hq
    have e : (w.alloc (.cells #[.pointer none, .int .i64 0, .int .i64 0, .slice none 0 0] 62)).heap.size = w.heap.size + 1 := size_alloc _ _
    have hb : w1.heap[w.heap.size + 1]? = some (.cells #[.pointer none, .pointer (some ⟨w.heap.size, 0, none⟩)] 26 (0, 0)) := by rw [← hw1, ← e]; exact heap_alloc_new _ _
    have hcz : w1.cell? ⟨w.heap.size, 0, none⟩ = some (.pointer none) := by
      rw [← hw1, World.cell?_alloc_lt _ _ _ (by show w.heap.size < _; rw [e]; omega)]
      exact cell_of_row _ w.heap.size 0 _ 62 (0, 0) (heap_alloc_new w _)
    match q, hq with
    | 0, _ => exact ⟨none, cell_of_row _ _ 0 _ 26 (0, 0) hb, .inl rfl⟩
    | 1, _ => exact ⟨some ⟨w.heap.size, 0, none⟩, cell_of_row _ _ 1 _ 26 (0, 0) hb, .inr ⟨_, rfl, hcz⟩⟩
  have HS1 := Lib.hid hs1
  (try rw [hw1])
  clear hw1 hz hs1
  go_loopw [25] (fun i wr => ∃ q : Nat, q ≤ 2 ∧ i = .int .i64 q ∧ Hid (Below w1.heap.size w1 wr)) (fun i _ => 2 - (intOf i).toNat)
  case atStart => exact ⟨0, by omega, rfl, Below.refl _ _⟩
  case round =>
    obtain ⟨q, hq, rfl, HW⟩ := hrel
    by_cases hlt : q < 2
    · obtain ⟨p, hp1, hp2⟩ := HE.out q hlt
      have hcp : wr.cell? ⟨w.heap.size + 1, q, none⟩ = some (.pointer p) := (HW.out.cell (p := ⟨w.heap.size + 1, q, none⟩) (by show w.heap.size + 1 < _; have := HS1.out; omega)).trans hp1
      have HN0 := Lib.hid (hp2.below HW.out)
      have hq2 : (q : Int) < 2 := by omega
      have hq0 : (0 : Int) ≤ (q : Int) := by omega
      clear hp1 hp2
      go_wp2_with fail
      refine (enc_none p B m d wr HN0.out).mono ?_
      rintro e v1 ⟨rfl, hB⟩
      have hW : Below wr.heap.size wr v1 := hB
      have HN1 := Lib.hid (HN0.out.below hW)
      have HC1 : Hid (Below wr.heap.size wr v1) := hW
      clear hW hB HN0 hcp
      go_wp2_with fail
      refine (dec_none p A n c B m d v1 HN1.out).mono ?_
      rintro e v2 ⟨rfl, hB⟩
      have hW : Below v1.heap.size v1 v2 := hB
      have HN2 := Lib.hid (HN1.out.below hW)
      have HC2 : Hid (Below wr.heap.size wr v2) := HC1.out.trans (hW.mono HC1.out.size)
      clear hW hB HN1 HC1
      go_wp2_with fail
      refine (reb_none p A n c B m d x v2 HN2.out).mono ?_
      rintro e v3 ⟨rfl, hB⟩
      have hW : Below v2.heap.size v2 v3 := hB
      have HN3 := Lib.hid (HN2.out.below hW)
      have HC3 : Hid (Below wr.heap.size wr v3) := HC2.out.trans (hW.mono HC2.out.size)
      clear hW hB HN2 HC2
      go_wp2_with fail
      refine (split_none p none 0 0 x v3 HN3.out).mono ?_
      rintro e v4 ⟨rfl, hB⟩
      have hW : Below v3.heap.size v3 v4 := hB
      have HN4 := Lib.hid (HN3.out.below hW)
      have HC4 : Hid (Below wr.heap.size wr v4) := HC3.out.trans (hW.mono HC3.out.size)
      clear hW hB HN3 HC3
      go_wp2_with fail
      refine (join_none p _ 1 1 x (v4.alloc _) (HN4.out.below (balloc (Below.refl _ _) _))).mono ?_
      rintro e v5 ⟨rfl, hB⟩
      have hW : Below v4.heap.size v4 v5 := bhop (balloc (Below.refl _ _) _) hB
      have HN5 := Lib.hid (HN4.out.below hW)
      have HC5 : Hid (Below wr.heap.size wr v5) := HC4.out.trans (hW.mono HC4.out.size)
      clear hW hB HN4 HC4
      go_wp2_with (first
        | (go_at_call 12; refine (need_no _ _ HN5.out).mono ?_; rintro e w' ⟨rfl, rfl⟩)
        | (go_at_call 13; refine (all_no _ _ HN5.out).mono ?_; rintro e w' ⟨rfl, rfl⟩)
        | (go_at_call 31; refine (matrix_no _ _ HN5.out).mono ?_; rintro e w' ⟨rfl, rfl⟩)
        | (go_at_call 15; refine (fits_none _ B m d _ HN5.out).mono ?_; rintro e w' ⟨rfl, rfl⟩))
      go_roundw
      case rel => exact ⟨q + 1, by omega, by go_num, HW.out.trans (HC5.out.mono HW.out.size)⟩
      case measure => simp [intOf]; omega
    · obtain rfl : q = 2 := by omega
      go_wp2_with fail
      refine (awake_any wr).mono ?_
      rintro e w2 ⟨rfl, hB⟩
      go_wp2
      go_ret
      exact ⟨rfl, (bhop HB1.out HW.out).trans (hB.mono (bhop HB1.out HW.out).size)⟩
end Go.Proofs.Ytobbjeephmfdeaa
