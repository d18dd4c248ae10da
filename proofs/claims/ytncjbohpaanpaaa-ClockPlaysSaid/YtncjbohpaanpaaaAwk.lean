/- The chapter's examples: awake. -/
import Derived.Test.YtncjbohpaanpaaaClkI
namespace Go.Proofs.Ytncjbohpaanpaaa
open Go.RowKit Go.Coop Go.Maps
set_option maxRecDepth 100000
/-- it returns true, and leaves what there was -/
def Awake (w : World) (e : Ending) (w' : World) : Prop := e = .returned (.bool true) ∧ Below w.heap.size w w'
theorem awake_is (w : World) : Calls Try.prog 20 #[] w (Awake w) := by
  have hneq := fun W => neq36 W ⟨3, 2⟩ ⟨3, 2⟩
  have hgrd := eqg36
  simp only [show tmB ⟨3, 2⟩ ⟨3, 2⟩ = true by decide, Bool.not_true] at hneq
  go_enter Try.func20, Try.ntmps20
  go_wp2_with fail
  refine (ck_new _ 3 (by decide) (by decide)).mono ?_
  rintro e w1 ⟨g, c, rfl, hC, hb, hg1, hg2, hc1, hc2⟩
  have HG := Lib.hid (And.intro hg1 hc1)
  have HN1 := Lib.hid ((hC : Ck w1 w.heap.size g c none ⟨3, 0, []⟩))
  have HB1 : Hid (Below w.heap.size w w1) := Lib.hid (hb)
  clear hC hb hg1 hg2 hc1 hc2
  go_wp2_with fail
  refine (ck_set _ HN1.out (i := 1) (by decide) (by decide) (5) (q := 0) (by kernel_rfl) (S' := ⟨3, 0, [⟨5, 1⟩]⟩) (by kernel_rfl)).mono ?_
  rintro e w2 ⟨rfl, a2, hC, hb, hk⟩
  have HN2 := Lib.hid (hC)
  have HB2 : Hid (Below w.heap.size w w2) := Lib.hid (HB1.out.trans (hb))
  clear HN1 HB1 hC hb hk
  go_wp2_with fail
  refine (ck_set _ HN2.out (i := 2) (by decide) (by decide) (3) (q := 0) (by kernel_rfl) (S' := ⟨3, 0, [⟨3, 2⟩, ⟨5, 1⟩]⟩) (by kernel_rfl)).mono ?_
  rintro e w3 ⟨rfl, a3, hC, hb, hk⟩
  have HN3 := Lib.hid (hC)
  have HB3 : Hid (Below w.heap.size w w3) := Lib.hid (HB2.out.trans (hb))
  clear HN2 HB2 hC hb hk
  go_wp2_with fail
  refine (ck_set _ HN3.out (i := 0) (by decide) (by decide) (5) (q := 0) (by kernel_rfl) (S' := ⟨3, 0, [⟨3, 2⟩, ⟨5, 0⟩, ⟨5, 1⟩]⟩) (by kernel_rfl)).mono ?_
  rintro e w4 ⟨rfl, a4, hC, hb, hk⟩
  have HN4 := Lib.hid (hC)
  have HB4 : Hid (Below w.heap.size w w4) := Lib.hid (HB3.out.trans (hb))
  clear HN3 HB3 hC hb hk
  go_wp2_with fail
  refine (ck_next _ HN4.out (o := some ⟨3, 2⟩) (by kernel_rfl)).mono ?_
  rintro e w5 ⟨rfl, hW⟩
  have HN5 := Lib.hid (HN4.out.below hW)
  have HB5 : Hid (Below w.heap.size w w5) := Lib.hid (HB4.out.trans (hW.mono HB4.out.size))
  clear HN4 HB4 hW
  dsimp only [Option.getD, Option.isSome, noT]
  obtain ⟨w6, hwr⟩ : ∃ v, w5.alloc (.cells #[.int .i64 3, .int .i64 2] 36) = v := ⟨_, rfl⟩
  have hW : Below w5.heap.size w5 w6 := hwr ▸ (Below.refl _ _).alloc (Nat.le_refl _) _
  have HN6 := Lib.hid (HN5.out.below hW)
  have HB6 : Hid (Below w.heap.size w w6) := Lib.hid (HB5.out.trans (hW.mono HB5.out.size))
  clear HN5 HB5 hW
  have hx3 : w6.heap[w5.heap.size]? = some (.cells #[.int .i64 3, .int .i64 2] 36 (0, 0)) := hwr ▸ heap_alloc_new _ _
  obtain ⟨k0, k1⟩ := two36 hx3
  clear hx3
  go_wp2_with fail
  refine (ck_tick _ HN6.out (S' := ⟨3, 1, [⟨3, 2⟩, ⟨5, 0⟩, ⟨5, 1⟩]⟩) (by kernel_rfl) (l := []) (by kernel_rfl)).mono ?_
  rintro e w7 ⟨_, rfl, ⟨A, ca, rfl, hT⟩, hC, hb, hk⟩
  dsimp only [List.length] at hT ⊢
  have HN7 := Lib.hid (hC)
  have HB7 : Hid (Below w.heap.size w w7) := Lib.hid (HB6.out.trans (hb))
  clear HN6 HB6 hC hb hk
  have HL7 := Lib.hid (hT.lower (Nat.zero_le _))
  clear hT
  clear k0 k1 hwr
  go_wp2_with fail
  refine (ids_is _ HL7.out (RdV.nil _ _) (by decide) (k := []) (q := true) (by kernel_rfl)).mono ?_
  rintro e w8 ⟨rfl, hW⟩
  have HN8 := Lib.hid (HN7.out.below hW)
  have HB8 : Hid (Below w.heap.size w w8) := Lib.hid (HB7.out.trans (hW.mono HB7.out.size))
  clear HN7 HB7 hW HL7
  go_wp2_with fail
  refine (ck_tick _ HN8.out (S' := ⟨3, 2, [⟨3, 2⟩, ⟨5, 0⟩, ⟨5, 1⟩]⟩) (by kernel_rfl) (l := []) (by kernel_rfl)).mono ?_
  rintro e w9 ⟨_, rfl, ⟨A, ca, rfl, hT⟩, hC, hb, hk⟩
  dsimp only [List.length] at hT ⊢
  have HN9 := Lib.hid (hC)
  have HB9 : Hid (Below w.heap.size w w9) := Lib.hid (HB8.out.trans (hb))
  clear HN8 HB8 hC hb hk
  have HL9 := Lib.hid (hT.lower (Nat.zero_le _))
  clear hT
  go_wp2_with fail
  refine (ids_is _ HL9.out (RdV.nil _ _) (by decide) (k := []) (q := true) (by kernel_rfl)).mono ?_
  rintro e w10 ⟨rfl, hW⟩
  have HN10 := Lib.hid (HN9.out.below hW)
  have HB10 : Hid (Below w.heap.size w w10) := Lib.hid (HB9.out.trans (hW.mono HB9.out.size))
  clear HN9 HB9 hW HL9
  go_wp2_with fail
  refine (ck_tick _ HN10.out (S' := ⟨3, 3, [⟨5, 0⟩, ⟨5, 1⟩]⟩) (by kernel_rfl) (l := [⟨3, 2⟩]) (by kernel_rfl)).mono ?_
  rintro e w11 ⟨_, rfl, ⟨A, ca, rfl, hT⟩, hC, hb, hk⟩
  dsimp only [List.length] at hT ⊢
  have HN11 := Lib.hid (hC)
  have HB11 : Hid (Below w.heap.size w w11) := Lib.hid (HB10.out.trans (hb))
  clear HN10 HB10 hC hb hk
  have HL11 := Lib.hid (hT.lower (Nat.zero_le _))
  clear hT
  obtain ⟨w12, hwr⟩ : ∃ v, w11.alloc (.cells #[.int .i64 2] 3) = v := ⟨_, rfl⟩
  have hW : Below w11.heap.size w11 w12 := hwr ▸ (Below.refl _ _).alloc (Nat.le_refl _) _
  have HN12 := Lib.hid (HN11.out.below hW)
  have HB12 : Hid (Below w.heap.size w w12) := Lib.hid (HB11.out.trans (hW.mono HB11.out.size))
  clear HN11 HB11 hW
  have hw0 : RdV w12 (some ⟨w11.heap.size, 0, none⟩) 1 ([2].map IV) := hwr ▸ RdV.new w11 _ 3 (0, 0)
  have HW0 := Lib.hid hw0
  have hl0 := HL11.out.below (hwr ▸ (Below.refl _ _).alloc (Nat.le_refl _) _ : Below w11.heap.size w11 w12)
  have HL12 := Lib.hid hl0
  clear hw0 hl0 HL11
  go_wp2_with fail
  refine (ids_is _ HL12.out HW0.out (by decide) (k := [2]) (q := true) (by kernel_rfl)).mono ?_
  rintro e w13 ⟨rfl, hW⟩
  clear hwr HW0
  have HN13 := Lib.hid (HN12.out.below hW)
  have HB13 : Hid (Below w.heap.size w w13) := Lib.hid (HB12.out.trans (hW.mono HB12.out.size))
  clear HN12 HB12 hW HL12
  go_wp2_with fail
  refine (ck_set _ HN13.out (i := 1) (by decide) (by decide) (9) (q := 0) (by kernel_rfl) (S' := ⟨3, 3, [⟨5, 0⟩, ⟨12, 1⟩]⟩) (by kernel_rfl)).mono ?_
  rintro e w14 ⟨rfl, a14, hC, hb, hk⟩
  have HN14 := Lib.hid (hC)
  have HB14 : Hid (Below w.heap.size w w14) := Lib.hid (HB13.out.trans (hb))
  clear HN13 HB13 hC hb hk
  go_wp2_with fail
  refine (ck_due _ HN14.out (i := 1) (by decide) (by decide) (o := some 12) (by kernel_rfl)).mono ?_
  rintro e _ ⟨rfl, rfl⟩
  dsimp only [Option.getD, Option.isSome]
  go_wp2_with fail
  refine (ck_skip _ HN14.out (S' := ⟨3, 5, [⟨12, 1⟩]⟩) (by kernel_rfl) (l := [⟨5, 0⟩]) (by kernel_rfl)).mono ?_
  rintro e w15 ⟨_, rfl, ⟨A, ca, rfl, hT⟩, hC, hb, hk⟩
  dsimp only [List.length] at hT ⊢
  have HN15 := Lib.hid (hC)
  have HB15 : Hid (Below w.heap.size w w15) := Lib.hid (HB14.out.trans (hb))
  clear HN14 HB14 hC hb hk
  have HL15 := Lib.hid (hT.lower (Nat.zero_le _))
  clear hT
  obtain ⟨w16, hwr⟩ : ∃ v, w15.alloc (.cells #[.int .i64 0] 3) = v := ⟨_, rfl⟩
  have hW : Below w15.heap.size w15 w16 := hwr ▸ (Below.refl _ _).alloc (Nat.le_refl _) _
  have HN16 := Lib.hid (HN15.out.below hW)
  have HB16 : Hid (Below w.heap.size w w16) := Lib.hid (HB15.out.trans (hW.mono HB15.out.size))
  clear HN15 HB15 hW
  have hw0 : RdV w16 (some ⟨w15.heap.size, 0, none⟩) 1 ([0].map IV) := hwr ▸ RdV.new w15 _ 3 (0, 0)
  have HW0 := Lib.hid hw0
  have hl0 := HL15.out.below (hwr ▸ (Below.refl _ _).alloc (Nat.le_refl _) _ : Below w15.heap.size w15 w16)
  have HL16 := Lib.hid hl0
  clear hw0 hl0 HL15
  go_wp2_with fail
  refine (ids_is _ HL16.out HW0.out (by decide) (k := [0]) (q := true) (by kernel_rfl)).mono ?_
  rintro e w17 ⟨rfl, hW⟩
  clear hwr HW0
  have HN17 := Lib.hid (HN16.out.below hW)
  have HB17 : Hid (Below w.heap.size w w17) := Lib.hid (HB16.out.trans (hW.mono HB16.out.size))
  clear HN16 HB16 hW HL16
  go_wp2_with fail
  refine (ck_now _ HN17.out (n := 5) (by kernel_rfl)).mono ?_
  rintro e _ ⟨rfl, rfl⟩
  go_wp2_with fail
  refine (ck_unset _ HN17.out (i := 1) (by decide) (by decide) (q := true) (by kernel_rfl) (S' := ⟨3, 5, []⟩) (by kernel_rfl)).mono ?_
  rintro e w18 ⟨rfl, a18, hC, hb, hk⟩
  have HN18 := Lib.hid (hC)
  have HB18 : Hid (Below w.heap.size w w18) := Lib.hid (HB17.out.trans (hb))
  clear HN17 HB17 hC hb hk
  go_wp2_with fail
  refine (ck_skip _ HN18.out (S' := ⟨3, 5, []⟩) (by kernel_rfl) (l := []) (by kernel_rfl)).mono ?_
  rintro e w19 ⟨_, rfl, ⟨A, ca, rfl, hT⟩, hC, hb, hk⟩
  dsimp only [List.length] at hT ⊢
  have HN19 := Lib.hid (hC)
  have HB19 : Hid (Below w.heap.size w w19) := Lib.hid (HB18.out.trans (hb))
  clear HN18 HB18 hC hb hk
  have HL19 := Lib.hid (hT.lower (Nat.zero_le _))
  clear hT
  go_wp2_with fail
  refine (ids_is _ HL19.out (RdV.nil _ _) (by decide) (k := []) (q := true) (by kernel_rfl)).mono ?_
  rintro e w20 ⟨rfl, hW⟩
  have HN20 := Lib.hid (HN19.out.below hW)
  have HB20 : Hid (Below w.heap.size w w20) := Lib.hid (HB19.out.trans (hW.mono HB19.out.size))
  clear HN19 HB19 hW HL19
  go_wp2_with fail
  refine (ck_now _ HN20.out (n := 5) (by kernel_rfl)).mono ?_
  rintro e _ ⟨rfl, rfl⟩
  go_wp2_with fail
  refine (ck_set _ HN20.out (i := 4) (by decide) (by decide) (0) (q := 2) (by kernel_rfl) (S' := ⟨3, 5, []⟩) (by kernel_rfl)).mono ?_
  rintro e w21 ⟨rfl, a21, hC, hb, hk⟩
  have HN21 := Lib.hid (hC)
  have HB21 : Hid (Below w.heap.size w w21) := Lib.hid (HB20.out.trans (hb))
  clear HN20 HB20 hC hb hk
  go_wp2
  go_ret
  exact ⟨rfl, HB21.out⟩
end Go.Proofs.Ytncjbohpaanpaaa
