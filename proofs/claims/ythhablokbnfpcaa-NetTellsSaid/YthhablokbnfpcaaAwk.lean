/- The chapter's examples: awake. -/
import Derived.Test.YthhablokbnfpcaaNetL
import Derived.Lib.SlBytesConst
namespace Go.Proofs.Ythhablokbnfpcaa
open Go.RowKit Go.Coop Go.Maps
set_option maxRecDepth 100000
/-- it returns true, and leaves what there was -/
def Awake (w : World) (e : Ending) (w' : World) : Prop := e = .returned (.bool true) ∧ Below w.heap.size w w'
theorem rd_const (w : World) (l : List UInt8) (n : Nat) (fr : Nat × Nat) (hn : l.length = n) : Rd (w.alloc (.cells (l.map BV).toArray 5 fr)) (some ⟨w.heap.size, 0, none⟩) n l := by
  subst hn
  exact Rd.new w l _ 5 fr fun j c h => by simp [h]
theorem awake_is (w : World) : Calls Try.prog 20 #[] w (Awake w) := by
  go_enter Try.func20, Try.ntmps20
  go_wp2_with fail
  refine (nt_new _ 2 2 (by decide) (by decide) (by decide) (by decide)).mono ?_
  rintro e w1 ⟨g, c, rfl, hN, hb⟩
  have HN1 := Lib.hid hN
  have HB1 := Lib.hid hb
  clear hN hb
  obtain ⟨w2, hw⟩ : ∃ v, w1.alloc (.cells #[.int .u8 97] 5 (1, 2)) = v := ⟨_, rfl⟩
  have hx := Lib.run_convert_bytes_const (P := Try.prog) w1 29 5 #[.int .u8 97] 1 1 Try.underlying29 Try.underlying5
  simp only [List.size_toArray, List.length_cons, List.length_nil, Nat.zero_add, Nat.reduceAdd] at hx
  rw [hw] at hx
  go_wp2_with fail
  have hW : Below w1.heap.size w1 w2 := hw ▸ (Below.refl _ _).alloc (Nat.le_refl _) _
  have hK : Kp c w1 w2 := Kp.of_below hW
  have HN2 := Lib.hid (HN1.out.below hW)
  have HB2 : Hid (Below w.heap.size w w2) := Lib.hid (HB1.out.trans (hW.mono HB1.out.size))
  have HL2 := Lib.hid ((hw ▸ rd_const w1 [97] 1 (1, 2) rfl : Rd w2 (some ⟨w1.heap.size, 0, none⟩) 1 [97]))
  clear hK hW HN1 HB1 hw hx
  go_wp2_with fail
  refine (nt_send _ HN2.out 0 1 HL2.out _ (q := 0) (by rfl) (S' := ⟨2, 2, [⟨0, 1, [97]⟩]⟩) (by rfl)).mono ?_
  rintro e w3 ⟨rfl, hn, hb, hk⟩
  have hK : Kp c w2 w3 := hk
  have HN3 := Lib.hid (hn)
  have HB3 : Hid (Below w.heap.size w w3) := Lib.hid (HB2.out.trans (hb))
  clear hK HN2 HL2 HB2 hn hb hk
  obtain ⟨w4, hw⟩ : ∃ v, w3.alloc (.cells #[.int .u8 98] 5 (1, 2)) = v := ⟨_, rfl⟩
  have hx := Lib.run_convert_bytes_const (P := Try.prog) w3 29 5 #[.int .u8 98] 1 1 Try.underlying29 Try.underlying5
  simp only [List.size_toArray, List.length_cons, List.length_nil, Nat.zero_add, Nat.reduceAdd] at hx
  rw [hw] at hx
  go_wp2_with fail
  have hW : Below w3.heap.size w3 w4 := hw ▸ (Below.refl _ _).alloc (Nat.le_refl _) _
  have hK : Kp c w3 w4 := Kp.of_below hW
  have HN4 := Lib.hid (HN3.out.below hW)
  have HB4 : Hid (Below w.heap.size w w4) := Lib.hid (HB3.out.trans (hW.mono HB3.out.size))
  have HL4 := Lib.hid ((hw ▸ rd_const w3 [98] 1 (1, 2) rfl : Rd w4 (some ⟨w3.heap.size, 0, none⟩) 1 [98]))
  clear hK hW HN3 HB3 hw hx
  go_wp2_with fail
  refine (nt_send _ HN4.out 1 0 HL4.out _ (q := 0) (by rfl) (S' := ⟨2, 2, [⟨0, 1, [97]⟩, ⟨1, 0, [98]⟩]⟩) (by rfl)).mono ?_
  rintro e w5 ⟨rfl, hn, hb, hk⟩
  have hK : Kp c w4 w5 := hk
  have HN5 := Lib.hid (hn)
  have HB5 : Hid (Below w.heap.size w w5) := Lib.hid (HB4.out.trans (hb))
  clear hK HN4 HL4 HB4 hn hb hk
  go_wp2_with fail
  refine (nt_flying _ HN5.out (q := 2) (by rfl)).mono ?_
  rintro e _ ⟨rfl, rfl⟩
  go_wp2_with fail
  refine (nt_copy _ HN5.out 0 (q := 0) (by rfl) (S' := ⟨2, 2, [⟨0, 1, [97]⟩, ⟨1, 0, [98]⟩, ⟨0, 1, [97]⟩]⟩) (by rfl)).mono ?_
  rintro e w6 ⟨rfl, hn, hb, hk⟩
  have hK : Kp c w5 w6 := hk
  have HN6 := Lib.hid (hn)
  have HB6 : Hid (Below w.heap.size w w6) := Lib.hid (HB5.out.trans (hb))
  clear hK HN5 HB5 hn hb hk
  go_wp2_with fail
  refine (nt_flying _ HN6.out (q := 3) (by rfl)).mono ?_
  rintro e _ ⟨rfl, rfl⟩
  go_wp2_with fail
  refine (is_k _ HN6.out 0 0 1 [97] (q := true) (by rfl)).mono ?_
  rintro e w7 ⟨rfl, hb⟩
  have hW : Below w6.heap.size w6 w7 := hb
  have hK : Kp c w6 w7 := Kp.of_below hW
  have HN7 := Lib.hid (HN6.out.below hW)
  have HB7 : Hid (Below w.heap.size w w7) := Lib.hid (HB6.out.trans (hW.mono HB6.out.size))
  clear hK hW HN6 HB6 hb
  go_wp2_with fail
  refine (is_k _ HN7.out 1 1 0 [98] (q := true) (by rfl)).mono ?_
  rintro e w8 ⟨rfl, hb⟩
  have hW : Below w7.heap.size w7 w8 := hb
  have hK : Kp c w7 w8 := Kp.of_below hW
  have HN8 := Lib.hid (HN7.out.below hW)
  have HB8 : Hid (Below w.heap.size w w8) := Lib.hid (HB7.out.trans (hW.mono HB7.out.size))
  clear hK hW HN7 HB7 hb
  go_wp2_with fail
  refine (is_k _ HN8.out 2 0 1 [97] (q := true) (by rfl)).mono ?_
  rintro e w9 ⟨rfl, hb⟩
  have hW : Below w8.heap.size w8 w9 := hb
  have hK : Kp c w8 w9 := Kp.of_below hW
  have HN9 := Lib.hid (HN8.out.below hW)
  have HB9 : Hid (Below w.heap.size w w9) := Lib.hid (HB8.out.trans (hW.mono HB8.out.size))
  clear hK hW HN8 HB8 hb
  go_wp2_with fail
  refine (nt_waiting _ HN9.out (k := 1) (by decide) (by decide) (q := 2) (by rfl)).mono ?_
  rintro e _ ⟨rfl, rfl⟩
  obtain ⟨w10, hw⟩ : ∃ v, w9.alloc (.cells #[.int .u8 99] 5 (1, 2)) = v := ⟨_, rfl⟩
  have hx := Lib.run_convert_bytes_const (P := Try.prog) w9 29 5 #[.int .u8 99] 1 1 Try.underlying29 Try.underlying5
  simp only [List.size_toArray, List.length_cons, List.length_nil, Nat.zero_add, Nat.reduceAdd] at hx
  rw [hw] at hx
  go_wp2_with fail
  have hW : Below w9.heap.size w9 w10 := hw ▸ (Below.refl _ _).alloc (Nat.le_refl _) _
  have hK : Kp c w9 w10 := Kp.of_below hW
  have HN10 := Lib.hid (HN9.out.below hW)
  have HB10 : Hid (Below w.heap.size w w10) := Lib.hid (HB9.out.trans (hW.mono HB9.out.size))
  have HL10 := Lib.hid ((hw ▸ rd_const w9 [99] 1 (1, 2) rfl : Rd w10 (some ⟨w9.heap.size, 0, none⟩) 1 [99]))
  clear hK hW HN9 HB9 hw hx
  go_wp2_with fail
  refine (nt_send _ HN10.out 0 1 HL10.out _ (q := 5) (by rfl) (S' := ⟨2, 2, [⟨0, 1, [97]⟩, ⟨1, 0, [98]⟩, ⟨0, 1, [97]⟩]⟩) (by rfl)).mono ?_
  rintro e w11 ⟨rfl, hn, hb, hk⟩
  have hK : Kp c w10 w11 := hk
  have HN11 := Lib.hid (hn)
  have HB11 : Hid (Below w.heap.size w w11) := Lib.hid (HB10.out.trans (hb))
  clear hK HN10 HL10 HB10 hn hb hk
  go_wp2_with fail
  refine (nt_take _ HN11.out 1 (o := some ⟨1, 0, [98]⟩) (by rfl) (S' := ⟨2, 2, [⟨0, 1, [97]⟩, ⟨0, 1, [97]⟩]⟩) (by rfl)).mono ?_
  rintro e w12 ⟨X, cx, rfl, hT, hn, hb, hk⟩
  have hK : Kp c w11 w12 := hk
  have HN12 := Lib.hid (hn)
  have HB12 : Hid (Below w.heap.size w w12) := Lib.hid (HB11.out.trans (hb))
  have HX12 := Lib.hid (hT)
  clear hK HN11 HB11 hn hb hk hT
  dsimp only [Option.getD, Option.isSome]
  obtain ⟨w13, hwr⟩ : ∃ v, w12.alloc (.cells #[.int .i64 1, .int .i64 0, .slice X 1 cx] 34) = v := ⟨_, rfl⟩
  have hy : w13.heap[w12.heap.size]? = some (.cells #[.int .i64 1, .int .i64 0, .slice X 1 cx] 34 (0, 0)) := hwr ▸ heap_alloc_new _ _
  obtain ⟨⟨k0, k1, k2⟩, _, _, _⟩ := three hy
  have hW : Below w12.heap.size w12 w13 := hwr ▸ (Below.refl _ _).alloc (Nat.le_refl _) _
  have hK : Kp c w12 w13 := Kp.of_below hW
  have HN13 := Lib.hid (HN12.out.below hW)
  have HX13 := Lib.hid (HX12.out.kp hK)
  have HB13 : Hid (Below w.heap.size w w13) := Lib.hid (HB12.out.trans (hW.mono HB12.out.size))
  clear hK hW HN12 HX12 HB12 hy
  obtain ⟨w14, hw⟩ : ∃ v, w13.alloc (.cells #[.int .u8 98] 5 (1, 2)) = v := ⟨_, rfl⟩
  have hx := Lib.run_convert_bytes_const (P := Try.prog) w13 29 5 #[.int .u8 98] 1 1 Try.underlying29 Try.underlying5
  simp only [List.size_toArray, List.length_cons, List.length_nil, Nat.zero_add, Nat.reduceAdd] at hx
  rw [hw] at hx
  go_wp2_with fail
  have hW : Below w13.heap.size w13 w14 := hw ▸ (Below.refl _ _).alloc (Nat.le_refl _) _
  have hK : Kp c w13 w14 := Kp.of_below hW
  have HN14 := Lib.hid (HN13.out.below hW)
  have HX14 := Lib.hid (HX13.out.kp hK)
  have HB14 : Hid (Below w.heap.size w w14) := Lib.hid (HB13.out.trans (hW.mono HB13.out.size))
  have HL14 := Lib.hid ((hw ▸ rd_const w13 [98] 1 (1, 2) rfl : Rd w14 (some ⟨w13.heap.size, 0, none⟩) 1 [98]))
  clear hK hW HN13 HX13 HB13 hw hx
  clear hwr k0 k1 k2
  go_wp2_with fail
  refine (like_is _ HX14.out.rd HL14.out (q := true) (by rfl)).mono ?_
  rintro e w15 ⟨rfl, hb⟩
  have hW : Below w14.heap.size w14 w15 := hb
  have hK : Kp c w14 w15 := Kp.of_below hW
  have HN15 := Lib.hid (HN14.out.below hW)
  have HX15 := Lib.hid (HX14.out.kp hK)
  have HB15 : Hid (Below w.heap.size w w15) := Lib.hid (HB14.out.trans (hW.mono HB14.out.size))
  clear hK hW HN14 HX14 HL14 HB14 hb
  go_wp2_with fail
  refine (nt_drop _ HN15.out 0 (q := true) (by rfl) (S' := ⟨2, 2, [⟨0, 1, [97]⟩]⟩) (by rfl)).mono ?_
  rintro e w16 ⟨rfl, hn, hb, hk⟩
  have hK : Kp c w15 w16 := hk
  have HN16 := Lib.hid (hn)
  have HB16 : Hid (Below w.heap.size w w16) := Lib.hid (HB15.out.trans (hb))
  clear hK HN15 HX15 HB15 hn hb hk
  go_wp2_with fail
  refine (nt_forget _ HN16.out (k := 1) (by decide) (by decide) (q := 1) (by rfl) (S' := ⟨2, 2, []⟩) (by rfl)).mono ?_
  rintro e w17 ⟨rfl, hn, hb, hk⟩
  have hK : Kp c w16 w17 := hk
  have HN17 := Lib.hid (hn)
  have HB17 : Hid (Below w.heap.size w w17) := Lib.hid (HB16.out.trans (hb))
  clear hK HN16 HB16 hn hb hk
  go_wp2_with fail
  refine (nt_look _ HN17.out 0 (o := none) (by rfl)).mono ?_
  rintro e w18 ⟨X2, cx2, rfl, hT, hb⟩
  have hW : Below w17.heap.size w17 w18 := hb
  have hK : Kp c w17 w18 := Kp.of_below hW
  have HN18 := Lib.hid (HN17.out.below hW)
  have HB18 : Hid (Below w.heap.size w w18) := Lib.hid (HB17.out.trans (hW.mono HB17.out.size))
  clear hK hW HN17 HB17 hb hT
  dsimp only [Option.getD, Option.isSome]
  go_wp2_with fail
  refine (nt_flying _ HN18.out (q := 0) (by rfl)).mono ?_
  rintro e _ ⟨rfl, rfl⟩
  go_wp2
  go_ret
  exact ⟨rfl, HB18.out⟩
end Go.Proofs.Ythhablokbnfpcaa
