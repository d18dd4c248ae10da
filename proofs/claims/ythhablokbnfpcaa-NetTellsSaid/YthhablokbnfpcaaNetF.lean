/- Drop; Take. -/
import Derived.Test.YthhablokbnfpcaaNetE
namespace Go.Proofs.Ythhablokbnfpcaa
open Go.RowKit Go.Coop Go.Maps
set_option maxRecDepth 100000
section
variable (w : World) {B g c cap : Nat} {A : Option Addr} {S : NS}
theorem drop_none {p : Option Addr} (h : NoN w p) (i : Int) : Calls Try.prog 13 #[.pointer p, .int .i64 i] w fun e w' => e = .returned (.bool false) ∧ w = w' := by
  have H := Lib.hid h
  clear h
  go_enter Try.func13, Try.ntmps13
  go_wp2_with fail
  refine (has_no _ H.out i).mono ?_
  rintro e w' ⟨rfl, rfl⟩
  go_wp2
  go_ret
  exact ⟨rfl, rfl⟩
theorem drop_out (h : NetAt w B g A cap c S) {i : Int} (hl : S.look i = none) : Calls Try.prog 13 #[.pointer (some ⟨g, 0, none⟩), .int .i64 i] w fun e w' => e = .returned (.bool false) ∧ w = w' := by
  have H := Lib.hid h
  have HL : Hid ((S.look i).isSome = false) := by rw [hl]; rfl
  clear h hl
  go_enter Try.func13, Try.ntmps13
  go_wp2_with fail
  refine (has_is _ H.out i HL.out).mono ?_
  rintro e w' ⟨rfl, rfl⟩
  go_wp2
  go_ret
  exact ⟨rfl, rfl⟩
/-- a datagram has gone from the map's count -/
theorem drop_mid {w w6 : World} {B g c cap r : Nat} {S : NS} {D : DataW Value} {i : Nat} {d : Dt} (hok : S.Ok) (hd : S.heap[i]? = some d) (h5 : NetRaw w B g (some ⟨r, 0, none⟩) cap c S D) (hw : WaitIs D S.ends S.wait)
    (hown : w6.ownsMap Try.prog 3 (plainElem Try.prog 3) c (S.ends + 1) (D.put (.int .i64 (d.to : Int)) (.lit (.int .i64 ((S.wait d.to : Int) - 1))))) (hgr : w.grownBy w6 (some c)) : ∃ D', NetRaw w6 B g (some ⟨r, 0, none⟩) cap c S D' ∧ WaitIs D' S.ends (S.without i).wait := by
  have hits := hok.its d (List.mem_of_getElem? hd)
  have h1 := NS.wait_without S hd (d.to : Int)
  rw [if_pos rfl] at h1
  have hw' : WaitIs (D.put (.int .i64 (d.to : Int)) (.lit (.int .i64 ((S.wait d.to : Int) - 1)))) S.ends (S.without i).wait := by
    have := hw.put (g := (S.without i).wait) (h5.map.isMap) (k := (d.to : Int)) (by omega) (by omega) (x := S.wait d.to - 1) (by omega) (fun j hj => by
      have := NS.wait_without S hd j
      rw [if_neg (fun e => hj e.symm)] at this
      omega)
    rwa [show ((S.wait d.to - 1 : Nat) : Int) = (S.wait d.to : Int) - 1 by omega] at this
  exact ⟨_, h5.map_ (owns_exact hown (owns_size hown hw')) (grown_but hgr), hw'⟩
theorem drop_is (h : NetAt w B g A cap c S) {i : Nat} {d : Dt} (hd : S.heap[i]? = some d) : Calls Try.prog 13 #[.pointer (some ⟨g, 0, none⟩), .int .i64 (i : Int)] w (NetDid w B g A c (S.without i) (.bool true)) := by
  obtain ⟨w1, hw1⟩ : ∃ w1, w.drew = w1 := ⟨_, rfl⟩
  have h1 : NetAt w1 B g A cap c S := hw1 ▸ h.drew
  have hB1 : Below w.heap.size w w1 := hw1 ▸ ⟨rfl, rfl, rfl, Nat.le_refl _, fun _ _ => rfl⟩
  have hl : S.look (i : Int) = some d := by rw [NS.look_at]; exact hd
  have HL : Hid ((S.look (i : Int)).isSome = true) := by rw [hl]; rfl
  obtain ⟨r, rfl, d0, d1, d2⟩ := h1.get hd
  have c3 := h1.c3
  have c4 := h1.c4
  have hits := h.ok.its d (List.mem_of_getElem? hd)
  have h300 := h.ok.n2
  have hlen := h.ok.len
  have hlk := h1.look_run (k := (d.to : Int)) (by omega) (by omega)
  have hj1 : (0 : Int) ≤ (i : Int) := by omega
  have hj2 : (i : Int) < (S.heap.length : Int) := by have := (List.getElem?_eq_some_iff.1 hd).1; omega
  have hwt := NS.wait_le S (d.to : Int)
  have hwr : IntKind.i64.wrap ((S.wait (d.to : Int) : Int) - 1) = (S.wait (d.to : Int) : Int) - 1 := IntWalk.i64_in _ (by omega)
  have hwr2 : IntKind.i64.wrap ((i : Int) + 1) = (i : Int) + 1 := IntWalk.i64_in _ (by omega)
  have HK := Lib.hid (And.intro (key3 (k := (d.to : Int)) (by omega) (by omega)) (And.intro (pe3 (k := (S.wait (d.to : Int) : Int) - 1) (by omega) (by omega)) (by unfold maxLen; omega : S.ends < maxLen)))
  obtain ⟨D, hr1, hW1⟩ := h1.raw
  have H := Lib.hid (And.intro h (And.intro hd (And.intro hr1 (And.intro hW1 hB1))))
  obtain ⟨m, hm⟩ : ∃ m, S.heap.length = m + 1 := ⟨S.heap.length - 1, by omega⟩
  have HM := Lib.hid (And.intro hm hlen)
  clear h hd hl h1 hB1 hits h300 hlen hwt hr1 hW1 hm
  go_enter Try.func13, Try.ntmps13
  go_wp2_with fail
  refine (has_is _ H.out.1 _ HL.out).mono ?_
  rintro e w' ⟨rfl, rfl⟩
  go_wp2
  refine wp_region_still_tail 14 (by kernel_rfl) (by kernel_rfl) ?_
  simp only [List.take_succ_cons, List.take_zero, List.drop_succ_cons, List.drop_zero]
  show wpStill Try.prog _ w.drew (fun a' => wpList Try.prog _ _ _ a' w.drew) _ _
  rw [hw1]
  clear hw1
  iterate 12 still_step
  refine wpStill_lookup rfl 57 _ _ _ rfl _ _ rfl rfl _ hlk ?_
  iterate 1 still_step
  refine wpStill_nil ?_
  refine wpList_mapUpdate_in _ rfl _ _ _ 57 rfl 3 3 (Maps.int_keyed Try.underlying3) Try.underlying57 (plainElem Try.prog 3) c S.ends D rfl H.out.2.2.1.map HK.out.2.2 _ _ _ rfl rfl HK.out.1 _ [] HK.out.2.1 ?_
  intro w2 hown2 hg2
  obtain ⟨D', hr2, hW2⟩ := drop_mid H.out.1.ok H.out.2.1 H.out.2.2.1 H.out.2.2.2.1 hown2 hg2.grown
  have c32 := cell_of_row _ g 3 _ 59 (0, 0) hr2.blk
  have hdel := delete_one w2 (m := m) rfl hr2.row H.out.2.1 (by have := HM.out; omega) HM.out.1
  have HR := Lib.hid (And.intro hr2 (And.intro hW2 (And.intro hdel hg2.grown)))
  clear hown2 hg2 hr2 hW2 hlk c3 c4 d0 d1 d2 hdel
  simp at c32
  go_wp2_with fail
  refine HR.out.2.2.1.mono ?_
  rintro e w3 ⟨rfl, hrow, hbut⟩
  have hmid : w3.cell? ⟨g, 3, none⟩ = some (.slice (some ⟨r, 0, none⟩) S.heap.length cap) ∧ w3.frozen? ⟨g, 3, none⟩ = false := by
    have hb := hbut.cells HR.out.1.blk (by simp; rintro rfl; exact HR.out.1.Ag rfl)
    exact ⟨cell_of_row _ g 3 _ 59 (0, 0) hb, frozen_of_row w3 g 3 _ 59 hb⟩
  obtain ⟨c33, f33⟩ := hmid
  have HZ := Lib.hid (And.intro hrow hbut)
  clear hrow hbut
  go_wp2
  go_ret
  have hlen2 : (S.heap.eraseIdx i).length = m := by
    rw [List.length_eraseIdx, if_pos (by have := (List.getElem?_eq_some_iff.1 H.out.2.1).1; exact this), HM.out.1]
    rfl
  have hr := HR.out.1.row_ (w1 := w3) (A' := some ⟨r, 0, none⟩) (c' := cap) (l := S.heap.eraseIdx i) (by rw [hlen2]; exact HZ.out.1) HZ.out.2 (by simp) (.inl rfl)
  rw [hlen2] at hr
  refine ⟨rfl, ?_, some ⟨r, 0, none⟩, cap, ⟨NS.without_ok H.out.1.ok i, D', hr.1, HR.out.2.1⟩, .inl rfl⟩
  exact (But.of_below H.out.2.2.2.2).trans (((grown_but HR.out.2.2.2).mono (by simp [Nb])).trans hr.2)
end
end Go.Proofs.Ythhablokbnfpcaa
