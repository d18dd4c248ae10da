/- The law ClockNumbers. -/
import Derived.Test.YtncjbohpaanpaaaLawNo
namespace Go.Proofs.Ytncjbohpaanpaaa
open Go.RowKit Go.Coop Go.Maps
set_option maxRecDepth 100000
theorem bad3 {w : World} {b : Nat} (h : w.heap[b]? = some (.cells #[.int .i64 0, .int .i64 (-1), .int .i64 65537] 3 (0, 0))) : ∀ k, k < 3 → ∃ v : Int, w.cell? ⟨b, k, none⟩ = some (.int .i64 v) ∧ (v < 1 ∨ 65536 < v) := by
  intro k hk
  have hc := cell_of_row _ _ k _ 3 (0, 0) h
  rw [hc]
  match k, hk with
  | 0, _ => exact ⟨0, rfl, by omega⟩
  | 1, _ => exact ⟨-1, rfl, by omega⟩
  | 2, _ => exact ⟨65537, rfl, by omega⟩
def Bad (w0 w : World) (b : Nat) : Prop := (∀ k, k < 3 → ∃ v : Int, w.cell? ⟨b, k, none⟩ = some (.int .i64 v) ∧ (v < 1 ∨ 65536 < v)) ∧ Below w0.heap.size w0 w
set_option maxHeartbeats 2000000 in
theorem numbers_law (w : World) : Calls Try.prog 3 #[] w (Awake w) := by
  have hneq := fun W => neq36 W noT noT
  have hgrd := eqg36
  obtain ⟨ws, hs⟩ : ∃ v, w.alloc (.cells #[.int .i64 0, .int .i64 (-1), .int .i64 65537] 3) = v := ⟨_, rfl⟩
  have hr : ws.heap[w.heap.size]? = some (.cells #[.int .i64 0, .int .i64 (-1), .int .i64 65537] 3 (0, 0)) := hs ▸ heap_alloc_new _ _
  have hB0 : Below w.heap.size w ws := hs ▸ (Below.refl _ _).alloc (Nat.le_refl _) _
  obtain ⟨b, hb⟩ : ∃ b, w.heap.size = b := ⟨_, rfl⟩
  have H0 : Hid (Bad w ws b) := by
    rw [← hb]
    exact ⟨bad3 hr, hB0⟩
  clear hr hB0
  go_enter Try.func3, Try.ntmps3
  go_wp2
  clear hs hb
  go_loopw [15] (fun k wr => ∃ j : Nat, j ≤ 3 ∧ k = .int .i64 j ∧ Hid (Bad w wr b)) (fun k _ => 3 - (Go.RowKit.intOf k).toNat)
  case atStart => exact ⟨0, by omega, rfl, H0.out⟩
  case round =>
    obtain ⟨j, hj, rfl, HN⟩ := hrel
    clear H0
    have H0 := HN
    clear HN
    by_cases hlt : j < 3
    · obtain ⟨v, hc, hv⟩ := H0.out.1 j hlt
      have hji : (0 : Int) ≤ (j : Int) := by omega
      have hjj : (j : Int) < 3 := by omega
      have hw1 : IntKind.i64.wrap ((j : Int) + 1) = (j : Int) + 1 := IntWalk.i64_in _ (by omega)
      have HV := Lib.hid (And.intro hv hlt)
      clear hv hlt
      go_wp2_with fail
      refine (new_no _ v HV.out.1).mono ?_
      rintro e _ ⟨rfl, rfl⟩
      go_wp2
      go_roundw
      case rel => exact ⟨j + 1, by have := HV.out.2; omega, by go_num, H0.out⟩
      case measure =>
        have := HV.out.2
        simp [Go.RowKit.intOf]; omega
    · obtain rfl : j = 3 := by omega
      go_wp2_with fail
      refine (ck_new _ 2 (by decide) (by decide)).mono ?_
      rintro e v1 ⟨g, c, rfl, hC, hb, hg1, hg2, hc1, hc2⟩
      have HG := Lib.hid (And.intro hg1 hc1)
      have HN1 := Lib.hid ((hC : Ck v1 wr.heap.size g c none ⟨2, 0, []⟩))
      have HB1 : Hid (Below wr.heap.size wr v1) := Lib.hid (hb)
      clear hC hb hg1 hg2 hc1 hc2
      go_wp2_with fail
      refine (ck_set _ HN1.out (i := 1) (by decide) (by decide) (-1) (q := 2) (by kernel_rfl) (S' := ⟨2, 0, []⟩) (by kernel_rfl)).mono ?_
      rintro e v2 ⟨rfl, a2, hC, hb, hk⟩
      have HN2 := Lib.hid (hC)
      have HB2 : Hid (Below wr.heap.size wr v2) := Lib.hid (HB1.out.trans (hb))
      clear HN1 HB1 hC hb hk
      go_wp2_with fail
      refine (ck_set _ HN2.out (i := 1) (by decide) (by decide) (1152921504606846977) (q := 2) (by kernel_rfl) (S' := ⟨2, 0, []⟩) (by kernel_rfl)).mono ?_
      rintro e v3 ⟨rfl, a3, hC, hb, hk⟩
      have HN3 := Lib.hid (hC)
      have HB3 : Hid (Below wr.heap.size wr v3) := Lib.hid (HB2.out.trans (hb))
      clear HN2 HB2 hC hb hk
      go_wp2_with fail
      refine (ck_set _ HN3.out (i := 1) (by decide) (by decide) (9223372036854775807) (q := 2) (by kernel_rfl) (S' := ⟨2, 0, []⟩) (by kernel_rfl)).mono ?_
      rintro e v4 ⟨rfl, a4, hC, hb, hk⟩
      have HN4 := Lib.hid (hC)
      have HB4 : Hid (Below wr.heap.size wr v4) := Lib.hid (HB3.out.trans (hb))
      clear HN3 HB3 hC hb hk
      go_wp2_with fail
      refine (ck_set _ HN4.out (i := 1) (by decide) (by decide) (1152921504606846976) (q := 0) (by kernel_rfl) (S' := ⟨2, 0, [⟨1152921504606846976, 1⟩]⟩) (by kernel_rfl)).mono ?_
      rintro e v5 ⟨rfl, a5, hC, hb, hk⟩
      have HN5 := Lib.hid (hC)
      have HB5 : Hid (Below wr.heap.size wr v5) := Lib.hid (HB4.out.trans (hb))
      clear HN4 HB4 hC hb hk
      go_wp2_with fail
      refine (ck_set _ HN5.out (i := -5) (by decide) (by decide) (2) (q := 0) (by kernel_rfl) (S' := ⟨2, 0, [⟨2, -5⟩, ⟨1152921504606846976, 1⟩]⟩) (by kernel_rfl)).mono ?_
      rintro e v6 ⟨rfl, a6, hC, hb, hk⟩
      have HN6 := Lib.hid (hC)
      have HB6 : Hid (Below wr.heap.size wr v6) := Lib.hid (HB5.out.trans (hb))
      clear HN5 HB5 hC hb hk
      go_wp2_with fail
      refine (ck_set _ HN6.out (i := 3) (by decide) (by decide) (1) (q := 71) (by kernel_rfl) (S' := ⟨2, 0, [⟨2, -5⟩, ⟨1152921504606846976, 1⟩]⟩) (by kernel_rfl)).mono ?_
      rintro e v7 ⟨rfl, a7, hC, hb, hk⟩
      have HN7 := Lib.hid (hC)
      have HB7 : Hid (Below wr.heap.size wr v7) := Lib.hid (HB6.out.trans (hb))
      clear HN6 HB6 hC hb hk
      go_wp2_with fail
      refine (ck_set _ HN7.out (i := 1) (by decide) (by decide) (7) (q := 0) (by kernel_rfl) (S' := ⟨2, 0, [⟨2, -5⟩, ⟨7, 1⟩]⟩) (by kernel_rfl)).mono ?_
      rintro e v8 ⟨rfl, a8, hC, hb, hk⟩
      have HN8 := Lib.hid (hC)
      have HB8 : Hid (Below wr.heap.size wr v8) := Lib.hid (HB7.out.trans (hb))
      clear HN7 HB7 hC hb hk
      go_wp2_with fail
      refine (ck_set _ HN8.out (i := 1) (by decide) (by decide) (1152921504606846976) (q := 0) (by kernel_rfl) (S' := ⟨2, 0, [⟨2, -5⟩, ⟨1152921504606846976, 1⟩]⟩) (by kernel_rfl)).mono ?_
      rintro e v9 ⟨rfl, a9, hC, hb, hk⟩
      have HN9 := Lib.hid (hC)
      have HB9 : Hid (Below wr.heap.size wr v9) := Lib.hid (HB8.out.trans (hb))
      clear HN8 HB8 hC hb hk
      go_wp2_with fail
      refine (ck_unset _ HN9.out (i := 9) (by decide) (by decide) (q := false) (by kernel_rfl) (S' := ⟨2, 0, [⟨2, -5⟩, ⟨1152921504606846976, 1⟩]⟩) (by kernel_rfl)).mono ?_
      rintro e v10 ⟨rfl, a10, hC, hb, hk⟩
      have HN10 := Lib.hid (hC)
      have HB10 : Hid (Below wr.heap.size wr v10) := Lib.hid (HB9.out.trans (hb))
      clear HN9 HB9 hC hb hk
      go_wp2_with fail
      refine (ck_skip _ HN10.out (S' := ⟨2, 2, [⟨1152921504606846976, 1⟩]⟩) (by kernel_rfl) (l := [⟨2, -5⟩]) (by kernel_rfl)).mono ?_
      rintro e v11 ⟨_, rfl, ⟨A, ca, rfl, hT⟩, hC, hb, hk⟩
      dsimp only [List.length] at hT ⊢
      have HN11 := Lib.hid (hC)
      have HB11 : Hid (Below wr.heap.size wr v11) := Lib.hid (HB10.out.trans (hb))
      clear HN10 HB10 hC hb hk
      have HL11 := Lib.hid (hT.lower (Nat.zero_le _))
      clear hT
      obtain ⟨v12, hwr⟩ : ∃ v, v11.alloc (.cells #[.int .i64 (-5)] 3) = v := ⟨_, rfl⟩
      have hW : Below v11.heap.size v11 v12 := hwr ▸ (Below.refl _ _).alloc (Nat.le_refl _) _
      have HN12 := Lib.hid (HN11.out.below hW)
      have HB12 : Hid (Below wr.heap.size wr v12) := Lib.hid (HB11.out.trans (hW.mono HB11.out.size))
      clear HN11 HB11 hW
      have hw0 : RdV v12 (some ⟨v11.heap.size, 0, none⟩) 1 ([-5].map IV) := hwr ▸ RdV.new v11 _ 3 (0, 0)
      have HW0 := Lib.hid hw0
      have hl0 := HL11.out.below (hwr ▸ (Below.refl _ _).alloc (Nat.le_refl _) _ : Below v11.heap.size v11 v12)
      have HL12 := Lib.hid hl0
      clear hw0 hl0 HL11
      go_wp2_with fail
      refine (ids_is _ HL12.out HW0.out (by decide) (k := [-5]) (q := true) (by kernel_rfl)).mono ?_
      rintro e v13 ⟨rfl, hW⟩
      clear hwr HW0
      have HN13 := Lib.hid (HN12.out.below hW)
      have HB13 : Hid (Below wr.heap.size wr v13) := Lib.hid (HB12.out.trans (hW.mono HB12.out.size))
      clear HN12 HB12 hW HL12
      go_wp2_with fail
      refine (ck_now _ HN13.out (n := 2) (by kernel_rfl)).mono ?_
      rintro e _ ⟨rfl, rfl⟩
      go_wp2_with fail
      refine (ck_set _ HN13.out (i := 2) (by decide) (by decide) (1152921504606846975) (q := 2) (by kernel_rfl) (S' := ⟨2, 2, [⟨1152921504606846976, 1⟩]⟩) (by kernel_rfl)).mono ?_
      rintro e v14 ⟨rfl, a14, hC, hb, hk⟩
      have HN14 := Lib.hid (hC)
      have HB14 : Hid (Below wr.heap.size wr v14) := Lib.hid (HB13.out.trans (hb))
      clear HN13 HB13 hC hb hk
      go_wp2_with fail
      refine (ck_set _ HN14.out (i := 2) (by decide) (by decide) (1152921504606846974) (q := 0) (by kernel_rfl) (S' := ⟨2, 2, [⟨1152921504606846976, 1⟩, ⟨1152921504606846976, 2⟩]⟩) (by kernel_rfl)).mono ?_
      rintro e v15 ⟨rfl, a15, hC, hb, hk⟩
      have HN15 := Lib.hid (hC)
      have HB15 : Hid (Below wr.heap.size wr v15) := Lib.hid (HB14.out.trans (hb))
      clear HN14 HB14 hC hb hk
      go_wp2_with fail
      refine (ck_all _ HN15.out (l := [⟨1152921504606846976, 1⟩, ⟨1152921504606846976, 2⟩]) (by kernel_rfl)).mono ?_
      rintro e v16 ⟨_, rfl, ⟨A, ca, rfl, hT⟩, hW⟩
      dsimp only [List.length] at hT ⊢
      have HN16 := Lib.hid (HN15.out.below hW)
      have HB16 : Hid (Below wr.heap.size wr v16) := Lib.hid (HB15.out.trans (hW.mono HB15.out.size))
      clear HN15 HB15 hW
      have HL16 := Lib.hid (hT.lower (Nat.zero_le _))
      clear hT
      obtain ⟨v17, hwr⟩ : ∃ v, v16.alloc (.cells #[.int .i64 1, .int .i64 2] 3) = v := ⟨_, rfl⟩
      have hW : Below v16.heap.size v16 v17 := hwr ▸ (Below.refl _ _).alloc (Nat.le_refl _) _
      have HN17 := Lib.hid (HN16.out.below hW)
      have HB17 : Hid (Below wr.heap.size wr v17) := Lib.hid (HB16.out.trans (hW.mono HB16.out.size))
      clear HN16 HB16 hW
      have hw0 : RdV v17 (some ⟨v16.heap.size, 0, none⟩) 2 ([1, 2].map IV) := hwr ▸ RdV.new v16 _ 3 (0, 0)
      have HW0 := Lib.hid hw0
      have hl0 := HL16.out.below (hwr ▸ (Below.refl _ _).alloc (Nat.le_refl _) _ : Below v16.heap.size v16 v17)
      have HL17 := Lib.hid hl0
      clear hw0 hl0 HL16
      go_wp2_with fail
      refine (ids_is _ HL17.out HW0.out (by decide) (k := [1, 2]) (q := true) (by kernel_rfl)).mono ?_
      rintro e v18 ⟨rfl, hW⟩
      clear hwr HW0
      have HN18 := Lib.hid (HN17.out.below hW)
      have HB18 : Hid (Below wr.heap.size wr v18) := Lib.hid (HB17.out.trans (hW.mono HB17.out.size))
      clear HN17 HB17 hW HL17
      go_wp2_with fail
      refine (ck_skip _ HN18.out (S' := ⟨2, 1152921504606846976, []⟩) (by kernel_rfl) (l := [⟨1152921504606846976, 1⟩, ⟨1152921504606846976, 2⟩]) (by kernel_rfl)).mono ?_
      rintro e v19 ⟨_, rfl, ⟨A, ca, rfl, hT⟩, hC, hb, hk⟩
      dsimp only [List.length] at hT ⊢
      have HN19 := Lib.hid (hC)
      have HB19 : Hid (Below wr.heap.size wr v19) := Lib.hid (HB18.out.trans (hb))
      clear HN18 HB18 hC hb hk
      have HL19 := Lib.hid (hT.lower (Nat.zero_le _))
      clear hT
      obtain ⟨v20, hwr⟩ : ∃ v, v19.alloc (.cells #[.int .i64 1, .int .i64 2] 3) = v := ⟨_, rfl⟩
      have hW : Below v19.heap.size v19 v20 := hwr ▸ (Below.refl _ _).alloc (Nat.le_refl _) _
      have HN20 := Lib.hid (HN19.out.below hW)
      have HB20 : Hid (Below wr.heap.size wr v20) := Lib.hid (HB19.out.trans (hW.mono HB19.out.size))
      clear HN19 HB19 hW
      have hw0 : RdV v20 (some ⟨v19.heap.size, 0, none⟩) 2 ([1, 2].map IV) := hwr ▸ RdV.new v19 _ 3 (0, 0)
      have HW0 := Lib.hid hw0
      have hl0 := HL19.out.below (hwr ▸ (Below.refl _ _).alloc (Nat.le_refl _) _ : Below v19.heap.size v19 v20)
      have HL20 := Lib.hid hl0
      clear hw0 hl0 HL19
      go_wp2_with fail
      refine (ids_is _ HL20.out HW0.out (by decide) (k := [1, 2]) (q := true) (by kernel_rfl)).mono ?_
      rintro e v21 ⟨rfl, hW⟩
      clear hwr HW0
      have HN21 := Lib.hid (HN20.out.below hW)
      have HB21 : Hid (Below wr.heap.size wr v21) := Lib.hid (HB20.out.trans (hW.mono HB20.out.size))
      clear HN20 HB20 hW HL20
      go_wp2_with fail
      refine (ck_now _ HN21.out (n := 1152921504606846976) (by kernel_rfl)).mono ?_
      rintro e _ ⟨rfl, rfl⟩
      go_wp2_with fail
      refine (ck_tick _ HN21.out (S' := ⟨2, 1152921504606846976, []⟩) (by kernel_rfl) (l := []) (by kernel_rfl)).mono ?_
      rintro e v22 ⟨_, rfl, ⟨A, ca, rfl, hT⟩, hC, hb, hk⟩
      dsimp only [List.length] at hT ⊢
      have HN22 := Lib.hid (hC)
      have HB22 : Hid (Below wr.heap.size wr v22) := Lib.hid (HB21.out.trans (hb))
      clear HN21 HB21 hC hb hk
      have HL22 := Lib.hid (hT.lower (Nat.zero_le _))
      clear hT
      go_wp2_with fail
      refine (ids_is _ HL22.out (RdV.nil _ _) (by decide) (k := []) (q := true) (by kernel_rfl)).mono ?_
      rintro e v23 ⟨rfl, hW⟩
      have HN23 := Lib.hid (HN22.out.below hW)
      have HB23 : Hid (Below wr.heap.size wr v23) := Lib.hid (HB22.out.trans (hW.mono HB22.out.size))
      clear HN22 HB22 hW HL22
      go_wp2_with fail
      refine (ck_now _ HN23.out (n := 1152921504606846976) (by kernel_rfl)).mono ?_
      rintro e _ ⟨rfl, rfl⟩
      go_wp2_with fail
      refine (ck_set _ HN23.out (i := 1) (by decide) (by decide) (1) (q := 2) (by kernel_rfl) (S' := ⟨2, 1152921504606846976, []⟩) (by kernel_rfl)).mono ?_
      rintro e v24 ⟨rfl, a24, hC, hb, hk⟩
      have HN24 := Lib.hid (hC)
      have HB24 : Hid (Below wr.heap.size wr v24) := Lib.hid (HB23.out.trans (hb))
      clear HN23 HB23 hC hb hk
      go_wp2_with fail
      refine (ck_due _ HN24.out (i := 1) (by decide) (by decide) (o := none) (by kernel_rfl)).mono ?_
      rintro e _ ⟨rfl, rfl⟩
      dsimp only [Option.getD, Option.isSome]
      go_wp2_with fail
      refine (ck_next _ HN24.out (o := none) (by kernel_rfl)).mono ?_
      rintro e v25 ⟨rfl, hW⟩
      have HN25 := Lib.hid (HN24.out.below hW)
      have HB25 : Hid (Below wr.heap.size wr v25) := Lib.hid (HB24.out.trans (hW.mono HB24.out.size))
      clear HN24 HB24 hW
      dsimp only [Option.getD, Option.isSome, noT, TV]
      obtain ⟨v26, hw⟩ : ∃ v, v25.alloc (.cells #[.int .i64 0, .int .i64 0] 36) = v := ⟨_, rfl⟩
      have hW : Below v25.heap.size v25 v26 := hw ▸ (Below.refl _ _).alloc (Nat.le_refl _) _
      have hr2 : v26.heap[v25.heap.size]? = some (.cells #[.int .i64 0, .int .i64 0] 36 (0, 0)) := hw ▸ heap_alloc_new _ _
      obtain ⟨k0, k1⟩ := two36 hr2
      have HW := Lib.hid hw
      have HN26 := Lib.hid (HN25.out.below hW)
      have HB26 : Hid (Below wr.heap.size wr v26) := Lib.hid (HB25.out.trans (hW.mono HB25.out.size))
      clear HN25 HB25 hW hr2 hw
      go_wp2_with fail
      rw [HW.out]
      refine (ck_all _ HN26.out (l := []) (by kernel_rfl)).mono ?_
      rintro e v27 ⟨_, rfl, ⟨A, ca, rfl, hT⟩, hW⟩
      dsimp only [List.length] at hT ⊢
      clear hT k0 k1 HW
      have HN27 := Lib.hid (HN26.out.below hW)
      have HB27 : Hid (Below wr.heap.size wr v27) := Lib.hid (HB26.out.trans (hW.mono HB26.out.size))
      clear HN26 HB26 hW
      go_wp2_with fail
      refine (awake_is _).mono ?_
      rintro e v99 ⟨rfl, hb⟩
      have HZ := Lib.hid (HB27.out.trans (hb.mono HB27.out.size))
      clear hb
      go_wp2
      go_ret
      exact ⟨rfl, H0.out.2.trans (HZ.out.mono H0.out.2.size)⟩
end Go.Proofs.Ytncjbohpaanpaaa
