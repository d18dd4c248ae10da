/- The law ClockNone. -/
import Derived.Test.YtncjbohpaanpaaaAwk
import Derived.Deep.CutRange
import Derived.Deep.CutBlock
namespace Go.Proofs.Ytncjbohpaanpaaa
open Go.RowKit Go.Coop Go.Maps
set_option maxRecDepth 100000
/-- the two clocks that New did not make -/
structure Nones (w : World) (b : Nat) : Prop where
  lt : b < w.heap.size
  at_ : ∀ k, k < 2 → ∃ p, w.cell? ⟨b, k, none⟩ = some (.pointer p) ∧ NoC w p
theorem Nones.below {w w' : World} {b : Nat} (h : Nones w b) (hb : Below w.heap.size w w') : Nones w' b :=
  ⟨Nat.lt_of_lt_of_le h.lt hb.size, fun k hk => by
    obtain ⟨p, hc, hn⟩ := h.at_ k hk
    exact ⟨p, (hb.cell (p := ⟨b, k, none⟩) h.lt).trans hc, hn.below hb (Nat.le_refl _)⟩⟩
structure Non (w0 w : World) (bl : Nat) : Prop where
  ns : Nones w bl
  bel : Below w0.heap.size w0 w
theorem Non.below {w0 w w' : World} {bl : Nat} (h : Non w0 w bl) (hb : Below w.heap.size w w') : Non w0 w' bl := ⟨h.ns.below hb, h.bel.trans (hb.mono h.bel.size)⟩
theorem rowk {w w' : World} (hb : Below w.heap.size w w') {b : Nat} {o : Obj} (h : w.heap[b]? = some o) : w'.heap[b]? = some o := (hb.block _ (Array.getElem?_eq_some_iff.1 h).1).trans h
theorem non_new (w : World) : Non w ((w.alloc (.cells #[.pointer none, .int .i64 0, .int .i64 0, .map none, .slice none 0 0] 57)).alloc (.cells #[.pointer none, .pointer (some ⟨w.heap.size, 0, none⟩)] 23)) (w.heap.size + 1) := by
  obtain ⟨w2, h2⟩ : ∃ v, w.alloc (.cells #[.pointer none, .int .i64 0, .int .i64 0, .map none, .slice none 0 0] 57) = v := ⟨_, rfl⟩
  have s2 : w2.heap.size = w.heap.size + 1 := by rw [← h2]; simp
  have r2 : w2.heap[w.heap.size]? = some (.cells #[.pointer none, .int .i64 0, .int .i64 0, .map none, .slice none 0 0] 57 (0, 0)) := h2 ▸ heap_alloc_new _ _
  have b2 : Below w.heap.size w w2 := h2 ▸ (Below.refl _ _).alloc (Nat.le_refl _) _
  rw [h2, ← s2]
  obtain ⟨w3, h3⟩ : ∃ v, w2.alloc (.cells #[.pointer none, .pointer (some ⟨w.heap.size, 0, none⟩)] 23) = v := ⟨_, rfl⟩
  have r3 : w3.heap[w2.heap.size]? = some (.cells #[.pointer none, .pointer (some ⟨w.heap.size, 0, none⟩)] 23 (0, 0)) := h3 ▸ heap_alloc_new _ _
  have b3 : Below w2.heap.size w2 w3 := h3 ▸ (Below.refl _ _).alloc (Nat.le_refl _) _
  rw [h3]
  refine ⟨⟨(Array.getElem?_eq_some_iff.1 r3).1, fun k hk => ?_⟩, b2.trans (b3.mono b2.size)⟩
  have hc := cell_of_row _ _ k _ 23 (0, 0) r3
  rw [hc]
  match k, hk with
  | 0, _ => exact ⟨none, rfl, .inl rfl⟩
  | 1, _ => exact ⟨_, rfl, .inr ⟨_, rfl, (cell_of_row _ _ 0 _ 57 (0, 0) (rowk b3 r2)).trans rfl⟩⟩
set_option maxHeartbeats 1000000 in
theorem none_law (i d : Int) (w : World) : Calls Try.prog 5 #[.int .i64 i, .int .i64 d] w (Awake w) := by
  have h0 := Lib.hid (non_new w)
  obtain ⟨ws, hs⟩ : ∃ v, (w.alloc (.cells #[.pointer none, .int .i64 0, .int .i64 0, .map none, .slice none 0 0] 57)).alloc (.cells #[.pointer none, .pointer (some ⟨w.heap.size, 0, none⟩)] 23) = v := ⟨_, rfl⟩
  go_enter Try.func5, Try.ntmps5
  go_wp2
  obtain ⟨bl, hbl⟩ : ∃ b, w.heap.size + 1 = b := ⟨_, rfl⟩
  have h0 : Hid (Non w ws bl) := by
    have := h0.out
    rw [hs, hbl] at this
    exact this
  (try rw [hbl])
  clear hbl hs
  go_loopw [17] (fun k wr => ∃ j : Nat, j ≤ 2 ∧ k = .int .i64 j ∧ Hid (Non w wr bl)) (fun k _ => 2 - (Go.RowKit.intOf k).toNat)
  case atStart => exact ⟨0, by omega, rfl, h0.out⟩
  case round =>
    obtain ⟨j, hj, rfl, HN⟩ := hrel
    clear h0
    by_cases hlt : j < 2
    · obtain ⟨p, hc, hn⟩ := HN.out.ns.at_ j hlt
      have hji : (0 : Int) ≤ (j : Int) := by omega
      have hjj : (j : Int) < 2 := by omega
      have hw1 : IntKind.i64.wrap ((j : Int) + 1) = (j : Int) + 1 := IntWalk.i64_in _ (by omega)
      have hneq := fun W => neq36 W noT noT
      have hgrd := eqg36
      simp only [noT, show tmB ⟨0, 0⟩ ⟨0, 0⟩ = true by decide, Bool.not_true] at hneq
      have HP := Lib.hid (And.intro hn hlt)
      clear hn hlt
      go_wp2_with fail
      refine (due_none _ HP.out.1 i).mono ?_
      rintro e _ ⟨rfl, rfl⟩
      go_wp2_with fail
      refine (next_none _ HP.out.1).mono ?_
      rintro e w1 ⟨rfl, hb⟩
      dsimp only [TV, noT]
      obtain ⟨w2, hw⟩ : ∃ v, w1.alloc (.cells #[.int .i64 0, .int .i64 0] 36) = v := ⟨_, rfl⟩
      have hb2 : Below w1.heap.size w1 w2 := hw ▸ (Below.refl _ _).alloc (Nat.le_refl _) _
      have hr2 : w2.heap[w1.heap.size]? = some (.cells #[.int .i64 0, .int .i64 0] 36 (0, 0)) := hw ▸ heap_alloc_new _ _
      obtain ⟨k0, k1⟩ := two36 hr2
      have H2 := Lib.hid (And.intro ((HN.out.below hb).below hb2) (And.intro ((HP.out.1.below hb (Nat.le_refl _)).below hb2 (Nat.le_refl _)) HP.out.2))
      have HW := Lib.hid hw
      clear hb hb2 hr2 HN HP hc hw
      go_wp2_with fail
      rw [HW.out]
      refine (set_none _ H2.out.2.1 i d).mono ?_
      rintro e _ ⟨rfl, rfl⟩
      go_wp2_with fail
      refine (unset_none _ H2.out.2.1 i).mono ?_
      rintro e _ ⟨rfl, rfl⟩
      go_wp2_with fail
      refine (tick_none _ H2.out.2.1).mono ?_
      rintro e _ ⟨rfl, rfl⟩
      go_wp2_with fail
      refine (skip_none _ H2.out.2.1).mono ?_
      rintro e w3 ⟨rfl, hb3⟩
      have H3 := Lib.hid (And.intro (H2.out.1.below hb3) (And.intro (H2.out.2.1.below hb3 (Nat.le_refl _)) H2.out.2.2))
      clear hb3 k0 k1 HW H2
      go_wp2_with fail
      refine (all_none _ H3.out.2.1).mono ?_
      rintro e _ ⟨rfl, rfl⟩
      go_wp2_with fail
      refine (now_none _ H3.out.2.1).mono ?_
      rintro e _ ⟨rfl, rfl⟩
      go_wp2
      go_roundw
      case rel => exact ⟨j + 1, by have := H3.out.2.2; omega, by go_num, H3.out.1⟩
      case measure =>
        have := H3.out.2.2
        simp [Go.RowKit.intOf]; omega
    · obtain rfl : j = 2 := by omega
      go_wp2_with fail
      refine (awake_is _).mono ?_
      rintro e w9 ⟨rfl, hb⟩
      have HB := Lib.hid (HN.out.bel.trans (hb.mono HN.out.bel.size))
      clear hb
      go_wp2
      go_ret
      exact ⟨rfl, HB.out⟩
end Go.Proofs.Ytncjbohpaanpaaa
