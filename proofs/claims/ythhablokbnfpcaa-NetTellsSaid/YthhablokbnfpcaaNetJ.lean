/- Forget. -/
import Derived.Test.YthhablokbnfpcaaNetI
namespace Go.Proofs.Ythhablokbnfpcaa
open Go.RowKit Go.Coop Go.Maps
set_option maxRecDepth 100000
section
variable (w : World) {B g c cap : Nat} {A : Option Addr} {S : NS}
theorem forget_none {p : Option Addr} (h : NoN w p) (k : Int) : Calls Try.prog 19 #[.pointer p, .int .i64 k] w fun e w' => e = .returned (.int .i64 0) ∧ Below w.heap.size w w' := by
  obtain ⟨w1, hw1⟩ : ∃ w1, w.alloc (.cells #[.int .i64 k] 3) = w1 := ⟨_, rfl⟩
  have hx : w1.heap[w.heap.size]? = some (.cells #[.int .i64 k] 3 (0, 0)) := hw1 ▸ heap_alloc_new w _
  have hb : Below w.heap.size w w1 := hw1 ▸ (Below.refl _ w).alloc (Nat.le_refl _) _
  have hc := cell_of_row _ _ 0 _ 3 (0, 0) hx
  simp at hc
  have H := Lib.hid (And.intro (h.below hb (Nat.le_refl _)) hb)
  clear h hx hb
  go_enter Try.func19, Try.ntmps19
  go_wp2_with fail
  refine (waiting_none _ H.out.1 k).mono ?_
  rintro e w' ⟨rfl, rfl⟩
  go_wp2
  go_ret
  exact ⟨rfl, H.out.2⟩
theorem forget_mid {w w6 : World} {B g c cap : Nat} {A : Option Addr} {S : NS} {D : DataW Value} {k : Int} (hok : S.Ok) (h5 : NetRaw w B g A cap c (S.forget k) D) (hw : WaitIs D S.ends S.wait)
    (hown : w6.ownsMap Try.prog 3 (plainElem Try.prog 3) c S.ends (D.del (.int .i64 k))) (hgr : w.grownBy w6 (some c)) : NetAt w6 B g A cap c (S.forget k) := by
  have hw' : WaitIs (D.del (.int .i64 k)) S.ends (S.forget k).wait := hw.del (by rw [NS.wait_forget, if_pos rfl]) (fun j hj => by rw [NS.wait_forget, if_neg hj])
  exact ⟨NS.forget_ok hok k, _, h5.map_ hown (grown_but hgr), hw'⟩
set_option maxHeartbeats 1000000 in
theorem forget_is (h : NetAt w B g A cap c S) {k : Int} (h1 : -9223372036854775808 ≤ k) (h2 : k ≤ 9223372036854775807) : Calls Try.prog 19 #[.pointer (some ⟨g, 0, none⟩), .int .i64 k] w (NetDid w B g A c (S.forget k) (.int .i64 (S.wait k : Int))) := by
  obtain ⟨w1, hw1⟩ : ∃ w1, w.alloc (.cells #[.int .i64 k] 3) = w1 := ⟨_, rfl⟩
  have hx : w1.heap[w.heap.size]? = some (.cells #[.int .i64 k] 3 (0, 0)) := hw1 ▸ heap_alloc_new w _
  have hb : Below w.heap.size w w1 := hw1 ▸ (Below.refl _ w).alloc (Nat.le_refl _) _
  have hc := cell_of_row _ _ 0 _ 3 (0, 0) hx
  simp at hc
  have hA := h.below hb
  have H := Lib.hid (And.intro hA (And.intro hb (And.intro hx (And.intro h1 h2))))
  by_cases h0 : S.wait k = 0
  · have e : S.forget k = S := NS.forget_zero S h0
    rw [e, h0]
    have HW : Hid (S.wait k = 0) := h0
    have hz : (S.wait k : Int) = 0 := by omega
    have hwt := waiting_is w1 hA h1 h2
    rw [hz] at hwt
    have HC := Lib.hid hwt
    clear hwt hA hb hx e h0 hz
    go_enter Try.func19, Try.ntmps19
    go_wp2_with fail
    refine HC.out.mono ?_
    rintro e w' ⟨rfl, rfl⟩
    go_wp2
    go_ret
    exact NetDid.same h H.out.2.1 _
  · have hex : ∃ d ∈ S.heap, d.for_ k = true := by
      have hp : 0 < (S.heap.filter fun d => decide ((d.to : Int) = k)).length := Nat.pos_of_ne_zero h0
      obtain ⟨d, hd⟩ := List.exists_mem_of_length_pos hp
      obtain ⟨hd1, hd2⟩ := List.mem_filter.1 hd
      exact ⟨d, hd1, hd2⟩
    have hpos : 0 < S.heap.length := by obtain ⟨d, hd, _⟩ := hex; exact List.length_pos_of_mem hd
    obtain ⟨D, hr1, hW1⟩ := hA.raw
    obtain ⟨r, sp, rfl, _, _, hblk, _⟩ := hr1.row.head hpos
    have hNr : w.heap.size ≠ r := by
      rintro rfl
      have := hx.symm.trans hblk
      injection this with e
      injection e with _ e _
      cases e
    have hst := strike_is w1 rfl hr1.row hc hNr (by have := hA.ok.len; omega) hex
    have c3 := hA.c3
    have hz : ((S.wait k : Int) == 0) = false := by simp; exact h0
    have hwt := waiting_is w1 hA h1 h2
    have HC := Lib.hid hwt
    have HS := Lib.hid (And.intro hst (And.intro hr1 (And.intro hW1 hNr)))
    clear hwt hA hb hx h0 hex hpos hr1 hW1 hblk hNr hst h
    go_enter Try.func19, Try.ntmps19
    go_wp2_with fail
    refine HC.out.mono ?_
    rintro e w' ⟨rfl, rfl⟩
    go_wp2_with fail
    refine HS.out.1.mono ?_
    rintro e w2 ⟨m, hm, rfl, hrow, hbt⟩
    have hblk2 := hbt.cells HS.out.2.1.blk (by simp; rintro rfl; exact HS.out.2.1.Ag rfl)
    have c33 := cell_of_row w2 g 3 _ 59 (0, 0) hblk2
    have f33 := frozen_of_row w2 g 3 _ 59 hblk2
    have hx2 := hbt.cells H.out.2.2.1 (by simp; exact HS.out.2.2.2)
    have hrw := HS.out.2.1.row_ (w1 := w2) (A' := some ⟨r, 0, none⟩) (c' := cap) (l := S.heap.filter fun d => !d.for_ k) (by rw [← hm]; exact hrow) hbt (by simp) (.inl rfl)
    rw [← hm] at hrw
    obtain ⟨w3, hw3⟩ : ∃ w3, w2.setCell ⟨g, 3, none⟩ (.slice (some ⟨r, 0, none⟩) m cap) = w3 := ⟨_, rfl⟩
    rw [hw3] at hrw
    have hr3 : NetRaw w3 B g (some ⟨r, 0, none⟩) cap c (S.forget k) D := hrw.1
    have hx3 : w3.heap[w.heap.size]? = some (.cells #[.int .i64 k] 3 (0, 0)) := by
      rw [← hw3, Below.heap_setCell _ _ _ _ (by
        intro e
        have e : w.heap.size = g := e
        have := H.out.1.blk
        rw [← e, H.out.2.2.1] at this
        injection this with e
        injection e with _ e _
        cases e)]
      exact hx2
    obtain ⟨w4, hw4⟩ : ∃ w4, w3.drew = w4 := ⟨_, rfl⟩
    have hr4 : NetRaw w4 B g (some ⟨r, 0, none⟩) cap c (S.forget k) D := hr3.but (gs := []) (w' := w4) (But.of_below (by rw [← hw4]; exact ⟨rfl, rfl, rfl, Nat.le_refl _, fun _ _ => rfl⟩)) (by simp)
    have c44 : w4.cell? ⟨g, 4, none⟩ = some (.map (some c)) := cell_of_row _ g 4 _ 59 (0, 0) hr4.blk
    have hx4 : w4.cell? ⟨w.heap.size, 0, none⟩ = some (.int .i64 k) := by
      have : w4.heap[w.heap.size]? = some (.cells #[.int .i64 k] 3 (0, 0)) := by rw [← hw4]; exact hx3
      exact cell_of_row _ _ 0 _ 3 (0, 0) this
    have HB4 : Hid (But (Nb g (some ⟨r, 0, none⟩) c) w w4) := (But.of_below H.out.2.1).trans (hrw.2.trans (by rw [← hw4]; exact But.of_below ⟨rfl, rfl, rfl, Nat.le_refl _, fun _ _ => rfl⟩))
    have HR4 := Lib.hid hr4
    have HK := Lib.hid (key3 H.out.2.2.2.1 H.out.2.2.2.2)
    clear hm hrow hbt hblk2 hx2 hrw hr3 hx3 hr4 c3 hc
    go_wp2
    refine wp_region_still_tail 5 (by kernel_rfl) (by kernel_rfl) ?_
    simp only [List.take_succ_cons, List.take_zero, List.drop_succ_cons, List.drop_zero]
    show wpStill Try.prog _ w3.drew (fun a' => wpList Try.prog _ _ _ a' w3.drew) _ _
    rw [hw4]
    clear hw4 hw3
    iterate 5 still_step
    refine wpStill_nil ?_
    refine wpList_delete_own _ rfl _ _ 57 3 rfl 3 (Maps.int_keyed Try.underlying3) Try.underlying57 (plainElem Try.prog 3) c S.ends D rfl HR4.out.map _ _ rfl HK.out ?_
    intro w5 hown5 hg5
    have HZ := Lib.hid (And.intro hown5 hg5.grown)
    clear hown5 hg5 c33 f33 c44 hx4
    go_wp2
    go_ret
    exact ⟨rfl, HB4.out.trans ((grown_but HZ.out.2).mono (by simp [Nb])), some ⟨r, 0, none⟩, cap, forget_mid H.out.1.ok HR4.out HS.out.2.2.1 HZ.out.1 HZ.out.2, .inl rfl⟩
end
end Go.Proofs.Ythhablokbnfpcaa
