/- The law DiskNone. -/
import Derived.Test.YtlhhijhmjkgnaaaDskX
namespace Go.Proofs.Ytlhhijhmjkgnaaa
open Go.RowKit Go.Coop
set_option maxRecDepth 100000
def LawP (w : World) (e : Ending) (w' : World) : Prop := e = .returned (.bool true) ∧ Below w.heap.size w w'
/-- the two disks that New did not make -/
structure Nones (w : World) (b : Nat) : Prop where
  lt : b < w.heap.size
  at_ : ∀ k, k < 2 → ∃ p, w.cell? ⟨b, k, none⟩ = some (.pointer p) ∧ NoD w p
theorem Nones.below {w w' : World} {b : Nat} (h : Nones w b) (hb : Below w.heap.size w w') : Nones w' b :=
  ⟨Nat.lt_of_lt_of_le h.lt hb.size, fun k hk => by
    obtain ⟨p, hc, hn⟩ := h.at_ k hk
    exact ⟨p, (hb.cell (p := ⟨b, k, none⟩) h.lt).trans hc, hn.below hb (Nat.le_refl _)⟩⟩
theorem nones_new (w : World) : Nones ((w.alloc (.cells #[.slice none 0 0, .map none, .bool false, .int .i64 0, .bool false] 59)).alloc (.cells #[.pointer none, .pointer (some ⟨w.heap.size, 0, none⟩)] 23)) (w.heap.size + 1) := by
  have hc : ∀ k, ((w.alloc (.cells #[.slice none 0 0, .map none, .bool false, .int .i64 0, .bool false] 59)).alloc (.cells #[.pointer none, .pointer (some ⟨w.heap.size, 0, none⟩)] 23)).cell? ⟨w.heap.size + 1, k, none⟩ = #[Value.pointer none, .pointer (some ⟨w.heap.size, 0, none⟩)][k]? := by
    intro k
    have := heap_alloc_new (w.alloc (.cells #[.slice none 0 0, .map none, .bool false, .int .i64 0, .bool false] 59)) (.cells #[.pointer none, .pointer (some ⟨w.heap.size, 0, none⟩)] 23)
    rw [World.size_alloc] at this
    exact cell_of_row _ _ k _ 23 (0, 0) this
  refine ⟨by simp, fun k hk => ?_⟩
  rw [hc k]
  match k, hk with
  | 0, _ => exact ⟨none, rfl, .inl rfl⟩
  | 1, _ =>
    refine ⟨_, rfl, .inr ⟨_, rfl, ?_⟩⟩
    rw [cell_of_row _ w.heap.size 0 _ 59 (0, 0) ((Below.heap_alloc _ _ _ (by simp)).trans (heap_alloc_new w _))]
    rfl
theorem none_law (i n : Int) (b : UInt8) (w : World) : Calls Try.prog 5 #[.int .i64 i, .int .i64 n, .int .u8 (b.toNat : Int)] w (LawP w) := by
  go_enter Try.func5, Try.ntmps5
  go_wp2
  have h0 := Lib.hid (nones_new w)
  have HB0 : Hid (Below w.heap.size w ((w.alloc (.cells #[.slice none 0 0, .map none, .bool false, .int .i64 0, .bool false] 59)).alloc (.cells #[.pointer none, .pointer (some ⟨w.heap.size, 0, none⟩)] 23))) := ((Below.refl _ _).alloc (Nat.le_refl _) _).alloc (by simp) _
  go_loopw [17] (fun k wr => ∃ j : Nat, j ≤ 2 ∧ k = .int .i64 j ∧ Hid (Nones wr (w.heap.size + 1) ∧ Below w.heap.size w wr)) (fun k _ => 2 - (Go.RowKit.intOf k).toNat)
  case atStart => exact ⟨0, by omega, rfl, h0.out, HB0.out⟩
  case round =>
    obtain ⟨j, hj, rfl, HN⟩ := hrel
    clear h0 HB0
    by_cases hlt : j < 2
    · obtain ⟨p, hc, hn⟩ := HN.out.1.at_ j hlt
      have HP := Lib.hid hn
      clear hn
      go_wp2_with fail
      refine (arm_none _ HP.out _).mono ?_
      rintro e w1 ⟨rfl, rfl⟩
      have hba : Below wr.heap.size wr (wr.alloc (.cells #[.bool true] 4)) := (Below.refl _ _).alloc (Nat.le_refl _) _
      have HPa := Lib.hid (HP.out.below hba (Nat.le_refl _))
      have HNa := Lib.hid (And.intro (HN.out.1.below hba) (HN.out.2.trans (hba.mono HN.out.2.size)))
      clear hba
      go_wp2_with fail
      refine (crash_none _ HPa.out _).mono ?_
      rintro e w1 ⟨rfl, rfl⟩
      go_wp2_with fail
      refine (read_none _ HPa.out _).mono ?_
      rintro e w1 ⟨rfl, rfl⟩
      go_wp2_with fail
      refine (of_any b _).mono ?_
      rintro e w5 ⟨rfl, hw⟩
      have hbb := (Below.refl (wr.alloc (.cells #[.bool true] 4)).heap.size (wr.alloc (.cells #[.bool true] 4))).alloc (Nat.le_refl _) (.cells (bvs (ofB b)).toArray 5)
      rw [← hw] at hbb
      have HPb := Lib.hid (HPa.out.below hbb (Nat.le_refl _))
      have HNb := Lib.hid (And.intro (HNa.out.1.below hbb) (HNa.out.2.trans (hbb.mono HNa.out.2.size)))
      clear hbb hw
      go_wp2_with fail
      refine (write_none _ HPb.out _ _).mono ?_
      rintro e w1 ⟨rfl, rfl⟩
      go_wp2_with fail
      refine (flush_none _ HPb.out).mono ?_
      rintro e w1 ⟨rfl, rfl⟩
      go_wp2_with fail
      refine (spoil_none _ HPb.out _ _ _).mono ?_
      rintro e w1 ⟨rfl, rfl⟩
      go_wp2_with fail
      refine (down_none _ HPb.out).mono ?_
      rintro e w1 ⟨rfl, rfl⟩
      go_wp2_with fail
      refine (size_none _ HPb.out).mono ?_
      rintro e w1 ⟨rfl, rfl⟩
      go_wp2_with fail
      refine (cached_none _ HPb.out).mono ?_
      rintro e w1 ⟨rfl, rfl⟩
      go_wp2
      go_roundw
      case rel => exact ⟨j + 1, by omega, by go_num, HNb.out⟩
      case measure => simp [Go.RowKit.intOf]; omega
    · obtain rfl : j = 2 := by omega
      go_wp2_with fail
      refine (awake_any _).mono ?_
      rintro e wz ⟨rfl, hz⟩
      have HZ := Lib.hid hz
      clear hz
      go_wp2
      go_ret
      exact ⟨rfl, HN.out.2.trans (HZ.out.mono HN.out.2.size)⟩
end Go.Proofs.Ytlhhijhmjkgnaaa
