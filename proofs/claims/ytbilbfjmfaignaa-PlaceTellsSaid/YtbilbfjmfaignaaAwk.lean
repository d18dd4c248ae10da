/- awake: the chapter's examples. -/
import Derived.Test.YtbilbfjmfaignaaPlcM
namespace Go.Proofs.Ytbilbfjmfaignaa
open Go.RowKit Go.Coop
set_option maxRecDepth 100000
abbrev L0 : List Pl := [⟨1, [0, 1, 2]⟩, ⟨1, [1, 2, 3]⟩, ⟨1, [2, 3, 0]⟩, ⟨1, [3, 0, 1]⟩]
abbrev L1 : List Pl := [⟨2, [5, 1, 2]⟩, ⟨1, [1, 2, 3]⟩, ⟨2, [2, 3, 5]⟩, ⟨2, [3, 5, 1]⟩]
theorem first434 : firstP 4 3 4 = (L0, 0) := by kernel_rfl
theorem of6 : ofP L0 6 = (⟨1, [2, 3, 0]⟩, true) := by kernel_rfl
theorem move05 : moveP L0 0 5 = (L1, [0, 2, 3], 0) := by kernel_rfl
theorem move12 : moveP L0 1 2 = ([], [], 100) := by kernel_rfl
theorem idx3 : idxP 3 [2, 3, 0] = 1 := by kernel_rfl
set_option maxHeartbeats 2000000 in
theorem awake_is (w : World) : Calls Try.prog 18 #[] w (Told w true) := by
  go_enter Try.func18, Try.ntmps18
  go_wp2_with fail
  refine (first_is w 4 3 4).mono ?_
  rintro e w1 ⟨A, n, ps, rfl, hpo, hpl, _, hb1⟩
  rw [first434] at hpl ⊢
  simp only at hpl
  obtain rfl : n = 4 := by
    have h1 := hpo.len
    have h2 := congrArg List.length hpl
    rw [List.length_map] at h2
    rw [← h1, h2]
    rfl
  obtain ⟨hb2, hC⟩ := has_six w1 (ca := 4) hpo.pl 1 1 1 1 [0, 1, 2] [1, 2, 3] [2, 3, 0] [3, 0, 1] hpl (by decide) rfl rfl
  have HC := Lib.hid hC
  have HP := Lib.hid (And.intro hpo.pl (And.intro hpl (And.intro hb1 hb2)))
  clear hpo hpl hb1 hb2 hC
  go_wp2_with fail
  change Calls Try.prog 16 _ (w6 w1 [1, 1, 1, 1] [0, 1, 2] [1, 2, 3] [2, 3, 0] [3, 0, 1] w1.heap.size) _
  generalize w6 w1 [1, 1, 1, 1] [0, 1, 2] [1, 2, 3] [2, 3, 0] [3, 0, 1] w1.heap.size = W at *
  refine HC.out.mono ?_
  rintro e W' ⟨rfl, d, hW'⟩
  have hbW : Below W.heap.size W W' := by rw [hW']; exact ⟨rfl, rfl, rfl, Nat.le_refl _, fun _ _ => rfl⟩
  have hB2 : Below w1.heap.size w1 W' := HP.out.2.2.2.trans (hbW.mono HP.out.2.2.2.size)
  have HQ := Lib.hid (And.intro (HP.out.1.below hB2 (Nat.le_refl _)) (And.intro HP.out.2.1 (HP.out.2.2.1.trans (hB2.mono HP.out.2.2.1.size))))
  clear HC HP hW' hbW hB2
  go_wp2_with fail
  refine (of_is _ HQ.out.1 (by omega) 6 (by omega)).mono ?_
  rintro e w2 ⟨X, cX, rfl, hX, hb2⟩
  rw [HQ.out.2.1, of6] at hX ⊢
  simp only [List.length_cons, List.length_nil, Nat.zero_add, Nat.reduceAdd] at hX ⊢
  obtain ⟨w3, hw3⟩ : ∃ v, w2.alloc (.cells #[.int .i64 1, .slice X 3 cX] 30) = v := ⟨_, rfl⟩
  obtain ⟨hb3, hx3⟩ := box_new hw3
  have hB3 : Below W'.heap.size W' w3 := hb2.trans (hb3.mono hb2.size)
  have hX3 := hX.rd.below hb3 (Nat.le_refl _)
  have HR := Lib.hid (And.intro (HQ.out.1.below hB3 (Nat.le_refl _)) (And.intro HQ.out.2.1 (And.intro (HQ.out.2.2.trans (hB3.mono HQ.out.2.2.size)) (And.intro hX3 hx3))))
  obtain ⟨b, hbb⟩ : ∃ b, w2.heap.size = b := ⟨_, rfl⟩
  rw [hbb] at HR
  have HW := Lib.hid hw3
  clear HQ hX hb2 hw3 hb3 hx3 hB3 hX3
  go_wp2_with fail
  (try rw [hbb])
  rw [HW.out]
  refine (move_is _ HR.out.1 (by omega) 0 5).mono ?_
  rintro e w4 ⟨A4, n4, qs, G, m, mc, rfl, hpo, hq, _, hG, _, hb4⟩
  rw [HR.out.2.1, move05] at hq hG ⊢
  simp only at hq hG ⊢
  obtain rfl : n4 = 4 := by
    have h1 := hpo.len
    have h2 := congrArg List.length hq
    rw [List.length_map] at h2
    rw [← h1, h2]
    rfl
  obtain rfl : m = 3 := by have := hG.len; simpa using this.symm
  have HS := Lib.hid (And.intro (HR.out.1.below hb4 (Nat.le_refl _)) (And.intro (HR.out.2.2.1.trans (hb4.mono HR.out.2.2.1.size)) (And.intro (HR.out.2.2.2.1.below hb4 (Nat.le_refl _)) (And.intro ((hb4.block _ (lt_of_block HR.out.2.2.2.2)).trans HR.out.2.2.2.2) (And.intro hpo.pl (And.intro hq hG))))))
  have HL := Lib.hid HR.out.2.1
  clear HR HW hpo hq hG hb4 hbb
  go_wp2_with fail
  refine (move_is _ HS.out.1 (by omega) 1 2).mono ?_
  rintro e w5 ⟨A5, n5, qs5, G5, m5, mc5, rfl, hpo5, hq5, _, hG5, _, hb5⟩
  rw [HL.out, move12] at hq5 hG5 ⊢
  simp only at hq5 hG5 ⊢
  obtain rfl : n5 = 0 := by
    have h1 := hpo5.len
    have h2 := congrArg List.length hq5
    rw [List.length_map] at h2
    rw [← h1, h2]
    rfl
  obtain rfl : m5 = 0 := by have := hG5.len; simpa using this.symm
  have HT := Lib.hid (And.intro (HS.out.2.1.trans (hb5.mono HS.out.2.1.size)) (And.intro (HS.out.2.2.1.below hb5 (Nat.le_refl _)) (And.intro ((hb5.block _ (lt_of_block HS.out.2.2.2.1)).trans HS.out.2.2.2.1) (And.intro (HS.out.2.2.2.2.1.below hb5 (Nat.le_refl _)) (And.intro HS.out.2.2.2.2.2.1 (HS.out.2.2.2.2.2.2.below hb5 (Nat.le_refl _)))))))
  obtain ⟨⟨c0, c1⟩, _⟩ := two30 HT.out.2.2.1
  clear HS HL hpo5 hq5 hG5 hb5
  obtain ⟨w6, hw6⟩ : ∃ v, w5.alloc (.cells #[.int .i64 2, .int .i64 3, .int .i64 0] 3) = v := ⟨_, rfl⟩
  obtain ⟨hb6, hx6⟩ := box_new hw6
  have h6 : RdV w6 (some ⟨w5.heap.size, 0, none⟩) 3 ([2, 3, 0].map IV) := by rw [← hw6]; exact ints_new w5 [2, 3, 0]
  have HU := Lib.hid (And.intro (HT.out.1.trans (hb6.mono HT.out.1.size)) (And.intro (HT.out.2.1.below hb6 (Nat.le_refl _)) (And.intro ((hb6.block _ (lt_of_block HT.out.2.2.1)).trans HT.out.2.2.1) (And.intro (HT.out.2.2.2.1.below hb6 (Nat.le_refl _)) (And.intro HT.out.2.2.2.2.1 (And.intro (HT.out.2.2.2.2.2.below hb6 (Nat.le_refl _)) h6))))))
  have HW := Lib.hid hw6
  clear HT hw6 hb6 hx6 h6
  go_wp2_with fail
  rw [HW.out]
  refine (sameInts_is w6 HU.out.2.1 HU.out.2.2.2.2.2.2 (by omega) (q := true) (by decide)).mono ?_
  rintro e w7 ⟨rfl, d7, hw7⟩
  have hb7 : Below w6.heap.size w6 w7 := by rw [hw7]; exact ⟨rfl, rfl, rfl, Nat.le_refl _, fun _ _ => rfl⟩
  have HV := Lib.hid (And.intro (HU.out.1.trans (hb7.mono HU.out.1.size)) (And.intro (HU.out.2.1.below hb7 (Nat.le_refl _)) (And.intro ((hb7.block _ (lt_of_block HU.out.2.2.1)).trans HU.out.2.2.1) (And.intro (HU.out.2.2.2.1.below hb7 (Nat.le_refl _)) (And.intro HU.out.2.2.2.2.1 (HU.out.2.2.2.2.2.1.below hb7 (Nat.le_refl _)))))))
  clear HU HW hw7 hb7 c0 c1
  obtain ⟨⟨c0, c1⟩, _⟩ := two30 HV.out.2.2.1
  go_wp2_with fail
  refine (index_is _ 1 HV.out.2.1 (by omega) 3 (q := 1) idx3).mono ?_
  rintro e w8 ⟨rfl, hb8⟩
  have HV2 := Lib.hid (And.intro (HV.out.1.trans (hb8.mono HV.out.1.size)) (And.intro (HV.out.2.2.2.1.below hb8 (Nat.le_refl _)) (And.intro HV.out.2.2.2.2.1 (HV.out.2.2.2.2.2.below hb8 (Nat.le_refl _)))))
  clear HV hb8 c0 c1
  obtain ⟨hb9, hC⟩ := has_six w8 (ca := 4) HV2.out.2.1 2 1 2 2 [5, 1, 2] [1, 2, 3] [2, 3, 5] [3, 5, 1] HV2.out.2.2.1 (by decide) rfl rfl
  have HC := Lib.hid hC
  have HB9 := Lib.hid hb9
  clear hC hb9
  go_wp2_with fail
  change Calls Try.prog 16 _ (Go.Proofs.Ytbilbfjmfaignaa.w6 w8 [2, 1, 2, 2] [5, 1, 2] [1, 2, 3] [2, 3, 5] [3, 5, 1] w8.heap.size) _
  generalize Go.Proofs.Ytbilbfjmfaignaa.w6 w8 [2, 1, 2, 2] [5, 1, 2] [1, 2, 3] [2, 3, 5] [3, 5, 1] w8.heap.size = W at *
  refine HC.out.mono ?_
  rintro e W' ⟨rfl, d', hW'⟩
  have hbW : Below W.heap.size W W' := by rw [hW']; exact ⟨rfl, rfl, rfl, Nat.le_refl _, fun _ _ => rfl⟩
  have hB2 : Below w8.heap.size w8 W' := HB9.out.trans (hbW.mono HB9.out.size)
  obtain ⟨wa, hwa⟩ : ∃ v, W'.alloc (.cells #[.int .i64 0, .int .i64 2, .int .i64 3] 3) = v := ⟨_, rfl⟩
  obtain ⟨hba, _⟩ := box_new hwa
  have ha : RdV wa (some ⟨W'.heap.size, 0, none⟩) 3 ([0, 2, 3].map IV) := by rw [← hwa]; exact ints_new W' [0, 2, 3]
  have hB3 := hB2.trans (hba.mono hB2.size)
  have HZ := Lib.hid (And.intro (HV2.out.1.trans (hB3.mono HV2.out.1.size)) (And.intro (HV2.out.2.2.2.below hB3 (Nat.le_refl _)) ha))
  have HW := Lib.hid hwa
  clear HC HB9 HV2 hW' hbW hB2 hwa hba ha hB3
  go_wp2_with fail
  rw [HW.out]
  refine (sameInts_is wa HZ.out.2.1 HZ.out.2.2 (by omega) (q := true) (by decide)).mono ?_
  rintro e wb ⟨rfl, db, hwb⟩
  have HF : Hid (Below w.heap.size w wb) := by
    have h : Below wa.heap.size wa wb := by rw [hwb]; exact ⟨rfl, rfl, rfl, Nat.le_refl _, fun _ _ => rfl⟩
    exact HZ.out.1.trans (h.mono HZ.out.1.size)
  clear HZ HW hwb
  go_wp2
  go_ret
  exact ⟨rfl, HF.out⟩
end Go.Proofs.Ytbilbfjmfaignaa
