/- awake. -/
import Derived.Test.YtlhhijhmjkgnaaaDskW
namespace Go.Proofs.Ytlhhijhmjkgnaaa
open Go.RowKit Go.Coop
set_option maxRecDepth 100000
def Awake (w : World) (e : Ending) (w' : World) : Prop := e = .returned (.bool true) ∧ Below w.heap.size w w'
theorem awake_any (w : World) : Calls Try.prog 21 #[] w (Awake w) := by
  go_enter Try.func21, Try.ntmps21
  go_wp2_with fail
  refine (dk_new _ 4 (by omega) (by omega)).mono ?_
  rintro e w1 ⟨g, rfl, hD, hB⟩
  have hW : Below w.heap.size w w1 := hB
  have HB1 : Hid (Below w.heap.size w w1) := hW
  have HD1 := Lib.hid (hD)
  clear hD hB
  clear hW 
  go_wp2_with fail
  refine (of_any 1 _).mono ?_
  rintro e w2 ⟨rfl, hw⟩
  have hW : Below w1.heap.size w1 w2 := hw ▸ (Below.refl _ _).alloc (Nat.le_refl _) _
  have HD2 := Lib.hid (HD1.out.below hW)
  have HB2 : Hid (Below w.heap.size w w2) := HB1.out.trans (hW.mono HB1.out.size)
  have HR2 := Lib.hid ((hw ▸ rd_new _ (ofB 1) (ofB_len _) 5 : Rd w2 (some ⟨w1.heap.size, 0, none⟩) 64 (ofB 1)))
  clear hw
  clear hW HD1 HB1
  go_wp2_with fail
  refine (dk_write _ HD2.out rfl rfl 1 (by decide) HR2.out _).mono ?_
  rintro e w3 ⟨rfl, hD, hB⟩
  have hW : Below w.heap.size w2 w3 := hB
  have HB3 : Hid (Below w.heap.size w w3) := HB2.out.trans hW
  have HD3 := Lib.hid (hD)
  clear hD hB
  clear hW HD2 HR2 HB2
  go_wp2_with fail
  refine (dk_reads _ HD3.out rfl 1 (by decide) 1 (q := true) (by kernel_rfl)).mono ?_
  rintro e w4 ⟨rfl, hB⟩
  have hW : Below w3.heap.size w3 w4 := hB
  have HD4 := Lib.hid (HD3.out.below hW)
  have HB4 : Hid (Below w.heap.size w w4) := HB3.out.trans (hW.mono HB3.out.size)
  clear hB
  clear hW HD3 HB3
  go_wp2_with fail
  refine (dk_cached _ HD4.out).mono ?_
  rintro e w5 ⟨A, cap, rfl, hR, hB⟩
  have hW : Below w4.heap.size w4 w5 := hB
  have HD5 := Lib.hid (HD4.out.below hW)
  have HB5 : Hid (Below w.heap.size w w5) := HB4.out.trans (hW.mono HB4.out.size)
  have HC5 := Lib.hid ((hR : RdV w5 A 1 (ints [1])))
  clear hB hR
  clear hW HD4 HB4
  go_wp2_with fail
  refine (sameints_k _ _ _ [1] _ _ _ [1] _ (HC5.out.alloc (.cells #[.int .i64 1] 3)) (RdV.new w5 (ints [1]) 3 (0, 0)) (by decide) (by decide) (q := true) rfl).mono ?_
  rintro e w6 ⟨rfl, nq, hw⟩
  have hW : Below w5.heap.size w5 w6 := hw ▸ ((Below.refl _ _).alloc (Nat.le_refl _) _).trans ⟨rfl, rfl, rfl, Nat.le_refl _, fun _ _ => rfl⟩
  have HD6 := Lib.hid (HD5.out.below hW)
  have HB6 : Hid (Below w.heap.size w w6) := HB5.out.trans (hW.mono HB5.out.size)
  clear hw
  clear hW HD5 HC5 HB5
  go_wp2_with fail
  refine (dk_flush _ HD6.out rfl rfl).mono ?_
  rintro e w7 ⟨rfl, hD, hB⟩
  have hW : Below w.heap.size w6 w7 := hB
  have HB7 : Hid (Below w.heap.size w w7) := HB6.out.trans hW
  have HD7 := Lib.hid (hD)
  clear hD hB
  clear hW HD6 HB6
  go_wp2_with fail
  refine (of_any 2 _).mono ?_
  rintro e w8 ⟨rfl, hw⟩
  have hW : Below w7.heap.size w7 w8 := hw ▸ (Below.refl _ _).alloc (Nat.le_refl _) _
  have HD8 := Lib.hid (HD7.out.below hW)
  have HB8 : Hid (Below w.heap.size w w8) := HB7.out.trans (hW.mono HB7.out.size)
  have HR8 := Lib.hid ((hw ▸ rd_new _ (ofB 2) (ofB_len _) 5 : Rd w8 (some ⟨w7.heap.size, 0, none⟩) 64 (ofB 2)))
  clear hw
  clear hW HD7 HB7
  go_wp2_with fail
  refine (dk_write _ HD8.out rfl rfl 1 (by decide) HR8.out _).mono ?_
  rintro e w9 ⟨rfl, hD, hB⟩
  have hW : Below w.heap.size w8 w9 := hB
  have HB9 : Hid (Below w.heap.size w w9) := HB8.out.trans hW
  have HD9 := Lib.hid (hD)
  clear hD hB
  clear hW HD8 HR8 HB8
  go_wp2_with fail
  refine (of_any 3 _).mono ?_
  rintro e w10 ⟨rfl, hw⟩
  have hW : Below w9.heap.size w9 w10 := hw ▸ (Below.refl _ _).alloc (Nat.le_refl _) _
  have HD10 := Lib.hid (HD9.out.below hW)
  have HB10 : Hid (Below w.heap.size w w10) := HB9.out.trans (hW.mono HB9.out.size)
  have HR10 := Lib.hid ((hw ▸ rd_new _ (ofB 3) (ofB_len _) 5 : Rd w10 (some ⟨w9.heap.size, 0, none⟩) 64 (ofB 3)))
  clear hw
  clear hW HD9 HB9
  go_wp2_with fail
  refine (dk_write _ HD10.out rfl rfl 3 (by decide) HR10.out _).mono ?_
  rintro e w11 ⟨rfl, hD, hB⟩
  have hW : Below w.heap.size w10 w11 := hB
  have HB11 : Hid (Below w.heap.size w w11) := HB10.out.trans hW
  have HD11 := Lib.hid (hD)
  clear hD hB
  clear hW HD10 HR10 HB10
  go_wp2_with fail
  refine (dk_crash _ (HD11.out.alloc (.cells #[.bool false, .bool true] 4)) _ _ _ [false, true] (RdV.new w11 (bools [false, true]) 4 (0, 0)) (by decide)).mono ?_
  rintro e w12 ⟨rfl, hD, hB⟩
  have hW : Below w.heap.size w11 w12 := ((Below.refl _ _).alloc HB11.out.size _).trans hB
  have HB12 : Hid (Below w.heap.size w w12) := HB11.out.trans hW
  have HD12 := Lib.hid (hD)
  clear hD hB
  clear hW HD11 HB11
  go_wp2_with fail
  refine (dk_reads _ HD12.out rfl 1 (by decide) 1 (q := true) (by kernel_rfl)).mono ?_
  rintro e w13 ⟨rfl, hB⟩
  have hW : Below w12.heap.size w12 w13 := hB
  have HD13 := Lib.hid (HD12.out.below hW)
  have HB13 : Hid (Below w.heap.size w w13) := HB12.out.trans (hW.mono HB12.out.size)
  clear hB
  clear hW HD12 HB12
  go_wp2_with fail
  refine (dk_reads _ HD13.out rfl 3 (by decide) 3 (q := true) (by kernel_rfl)).mono ?_
  rintro e w14 ⟨rfl, hB⟩
  have hW : Below w13.heap.size w13 w14 := hB
  have HD14 := Lib.hid (HD13.out.below hW)
  have HB14 : Hid (Below w.heap.size w w14) := HB13.out.trans (hW.mono HB13.out.size)
  clear hB
  clear hW HD13 HB13
  go_wp2_with fail
  refine (dk_arm _ HD14.out rfl 1 (by omega)).mono ?_
  rintro e w15 ⟨rfl, hD, hB⟩
  have hW : Below w.heap.size w14 w15 := hB
  have HB15 : Hid (Below w.heap.size w w15) := HB14.out.trans hW
  have HD15 := Lib.hid (hD)
  clear hD hB
  clear hW HD14 HB14
  go_wp2_with fail
  refine (of_any 9 _).mono ?_
  rintro e w16 ⟨rfl, hw⟩
  have hW : Below w15.heap.size w15 w16 := hw ▸ (Below.refl _ _).alloc (Nat.le_refl _) _
  have HD16 := Lib.hid (HD15.out.below hW)
  have HB16 : Hid (Below w.heap.size w w16) := HB15.out.trans (hW.mono HB15.out.size)
  have HR16 := Lib.hid ((hw ▸ rd_new _ (ofB 9) (ofB_len _) 5 : Rd w16 (some ⟨w15.heap.size, 0, none⟩) 64 (ofB 9)))
  clear hw
  clear hW HD15 HB15
  go_wp2_with fail
  refine (dk_write _ HD16.out rfl rfl 0 (by decide) HR16.out _).mono ?_
  rintro e w17 ⟨rfl, hD, hB⟩
  have hW : Below w.heap.size w16 w17 := hB
  have HB17 : Hid (Below w.heap.size w w17) := HB16.out.trans hW
  have HD17 := Lib.hid (hD)
  clear hD hB
  clear hW HD16 HR16 HB16
  go_wp2_with fail
  refine (dk_flush_fails _ HD17.out rfl rfl).mono ?_
  rintro e w18 ⟨rfl, hD, hB⟩
  have hW : Below w.heap.size w17 w18 := hB
  have HB18 : Hid (Below w.heap.size w w18) := HB17.out.trans hW
  have HD18 := Lib.hid (hD)
  clear hD hB
  clear hW HD17 HB17
  go_wp2_with fail
  refine (dk_read_down _ HD18.out rfl _).mono ?_
  rintro e w19 ⟨rfl, hw⟩
  have hW : Below w18.heap.size w18 w19 := hw ▸ Below.refl _ _
  have HD19 := Lib.hid (HD18.out.below hW)
  have HB19 : Hid (Below w.heap.size w w19) := HB18.out.trans (hW.mono HB18.out.size)
  clear hw
  clear hW HD18 HB18
  go_wp2_with fail
  refine (dk_down _ HD19.out (q := true) rfl).mono ?_
  rintro e w20 ⟨rfl, hw⟩
  have hW : Below w19.heap.size w19 w20 := hw ▸ Below.refl _ _
  have HD20 := Lib.hid (HD19.out.below hW)
  have HB20 : Hid (Below w.heap.size w w20) := HB19.out.trans (hW.mono HB19.out.size)
  clear hw
  clear hW HD19 HB19
  go_wp2_with fail
  refine (dk_crash _ HD20.out none 0 0 [] (RdV.nil _ _) (by omega)).mono ?_
  rintro e w21 ⟨rfl, hD, hB⟩
  have hW : Below w.heap.size w20 w21 := hB
  have HB21 : Hid (Below w.heap.size w w21) := HB20.out.trans hW
  have HD21 := Lib.hid (hD)
  clear hD hB
  clear hW HD20 HB20
  go_wp2_with fail
  refine (dk_spoil _ HD21.out 1 (by decide) 0 (by decide) 255).mono ?_
  rintro e w22 ⟨rfl, hD, hB⟩
  have hW : Below w.heap.size w21 w22 := hB
  have HB22 : Hid (Below w.heap.size w w22) := HB21.out.trans hW
  have HD22 := Lib.hid (hD)
  clear hD hB
  clear hW HD21 HB21
  go_wp2_with fail
  refine (dk_read _ HD22.out rfl 1 (by decide)).mono ?_
  rintro e w23 ⟨rfl, hw⟩
  have hW : Below w22.heap.size w22 w23 := hw ▸ (Below.refl _ _).alloc (Nat.le_refl _) _
  have HD23 := Lib.hid (HD22.out.below hW)
  have HB23 : Hid (Below w.heap.size w w23) := HB22.out.trans (hW.mono HB22.out.size)
  have HR23 := Lib.hid ((hw ▸ rd_new _ _ (by kernel_rfl) 77 : Rd w23 (some ⟨w22.heap.size, 0, none⟩) 64 (254 :: List.replicate 63 1)))
  clear hw
  clear hW HD22 HB22
  go_wp2_with fail
  refine (dk_reads _ HD23.out rfl 0 (by decide) 0 (q := true) (by kernel_rfl)).mono ?_
  rintro e w24 ⟨rfl, hB⟩
  have hW : Below w23.heap.size w23 w24 := hB
  have HD24 := Lib.hid (HD23.out.below hW)
  have HR24 := Lib.hid (HR23.out.below hW (Nat.le_refl _))
  have HB24 : Hid (Below w.heap.size w w24) := HB23.out.trans (hW.mono HB23.out.size)
  clear hB
  clear hW HD23 HR23 HB23
  obtain ⟨ad, ea, _, hcs⟩ := HR24.out.cells (by omega)
  injection ea with ea
  subst ea
  have hc0 := hcs 0 254 rfl
  have hc1 := hcs 1 1 rfl
  rw [addr_at, Nat.zero_add] at hc0 hc1
  unfold BV at hc0 hc1
  have e0 : (((254 : UInt8).toNat : Nat) : Int) = 254 := rfl
  have e1 : (((1 : UInt8).toNat : Nat) : Int) = 1 := rfl
  rw [e0] at hc0
  rw [e1] at hc1
  clear hcs e0 e1
  go_wp2
  go_ret
  exact ⟨rfl, HB24.out⟩
end Go.Proofs.Ytlhhijhmjkgnaaa
