/- The law DiskSpoils. -/
import Derived.Test.YtlhhijhmjkgnaaaDskX
namespace Go.Proofs.Ytlhhijhmjkgnaaa
open Go.RowKit Go.Coop
set_option maxRecDepth 100000
theorem turn_turn (l : List UInt8) {k : Nat} (hk : k < l.length) (t : UInt8) : turn (turn l k t) k t = l := by
  apply List.ext_getElem?
  intro j
  unfold turn
  rw [List.set_set, List.getElem?_set]
  split
  · rename_i e
    subst e
    rw [List.getElem?_eq_getElem hk, List.getD_eq_getElem?_getD, List.getElem?_set_self hk, List.getD_eq_getElem?_getD, List.getElem?_eq_getElem hk]
    simp [UInt8.xor_assoc]
  · rfl
theorem spoil_back (a : UInt8) (k : Nat) (t : UInt8) : (turn (turn (ofB a) k t) k t == ofB a) = true := by
  by_cases hk : k < (ofB a).length
  · rw [turn_turn _ hk]
    exact beq_self_eq_true _
  · unfold turn
    rw [List.set_set, List.set_eq_of_length_le (by omega)]
    exact beq_self_eq_true _
theorem spoil_len (a : UInt8) (k : Nat) (t : UInt8) : (turn (turn (turn (ofB a) k t) k t) k t).length = 64 := by simp [turn_len, ofB_len]
theorem ofB_get (a : UInt8) {k : Nat} (hk : k < 64) : (bvs (ofB a)).toArray[k]? = some (.int .u8 (a.toNat : Int)) := by
  rw [List.getElem?_toArray]
  exact bvs_at' (by unfold ofB; rw [List.getElem?_replicate, if_pos hk])
theorem want_rd (w : World) (a : UInt8) {k : Nat} (hk : k < 64) (t : UInt8) : Rd (w.alloc (.cells ((bvs (ofB a)).set k (.int .u8 ((a.toNat ^^^ t.toNat : Nat) : Int))).toArray 5)) (some ⟨w.heap.size, 0, none⟩) 64 (turn (ofB a) k t) := by
  have e : ((bvs (ofB a)).set k (.int .u8 ((a.toNat ^^^ t.toNat : Nat) : Int))).toArray = (bvs (turn (ofB a) k t)).toArray := by
    rw [← UInt8.toNat_xor]
    congr 1
    unfold turn bvs
    rw [List.map_set]
    have : (ofB a).getD k 0 = a := by
      unfold ofB
      rw [List.getD_eq_getElem?_getD, List.getElem?_replicate, if_pos hk]
      rfl
    rw [this]
    rfl
  rw [e]
  exact rd_new w _ (by rw [turn_len, ofB_len]) 5
theorem spoil_same (a : UInt8) (k : Nat) (t : UInt8) : (turn (turn (turn (ofB a) k t) k t) k t == turn (ofB a) k t) = true := by
  have := spoil_back a k t
  rw [beq_iff_eq] at this
  rw [this]
  exact beq_self_eq_true _
def Law (w : World) (e : Ending) (w' : World) : Prop := e = .returned (.bool true) ∧ Below w.heap.size w w'
theorem spoils_true (a b t : UInt8) (az : Nat) (haz : az < 256) (w : World) : Calls Try.prog 10 #[.int .u8 (a.toNat : Int), .int .u8 (b.toNat : Int), .int .u8 (az : Int), .int .u8 (t.toNat : Int), .bool true] w (Law w) := by
  obtain ⟨k, hk, hkz⟩ : ∃ k : Nat, k < 64 ∧ (az : Int) % 64 = (k : Int) := ⟨az % 64, by omega, by omega⟩
  have HK := Lib.hid hk
  clear hk
  go_enter Try.func10, Try.ntmps10
  go_wp2_with fail
  refine (dk_new _ 2 (by omega) (by omega)).mono ?_
  rintro e w1 ⟨g, rfl, hD, hB⟩
  have hW : Below w.heap.size w w1 := hB
  have HB1 : Hid (Below w.heap.size w w1) := hW
  have HD1 := Lib.hid (hD)
  clear hD hB
  clear hW 
  go_wp2_with fail
  refine (of_any a _).mono ?_
  rintro e w2 ⟨rfl, hw⟩
  have hW : Below w1.heap.size w1 w2 := hw ▸ (Below.refl _ _).alloc (Nat.le_refl _) _
  have HD2 := Lib.hid (HD1.out.below hW)
  have HB2 : Hid (Below w.heap.size w w2) := HB1.out.trans (hW.mono HB1.out.size)
  have HR2 := Lib.hid ((hw ▸ rd_new _ (ofB a) (ofB_len _) 5 : Rd w2 (some ⟨w1.heap.size, 0, none⟩) 64 (ofB a)))
  clear hw
  clear hW HD1 HB1
  go_wp2_with fail
  refine (dk_write _ HD2.out rfl rfl 0 (by show 0 < 2; decide) HR2.out _).mono ?_
  rintro e w3 ⟨rfl, hD, hB⟩
  have hW : Below w.heap.size w2 w3 := hB
  have HB3 : Hid (Below w.heap.size w w3) := HB2.out.trans hW
  have HD3 := Lib.hid (hD)
  clear hD hB
  clear hW HD2 HR2 HB2
  go_wp2_with fail
  refine (dk_flush _ HD3.out rfl rfl).mono ?_
  rintro e w4 ⟨rfl, hD, hB⟩
  have hW : Below w.heap.size w3 w4 := hB
  have HB4 : Hid (Below w.heap.size w w4) := HB3.out.trans hW
  have HD4 := Lib.hid (hD)
  clear hD hB
  clear hW HD3 HB3
  go_wp2_with fail
  refine (dk_spoil _ HD4.out 0 (by show 0 < 2; decide) k HK.out t).mono ?_
  rintro e w5 ⟨rfl, hD, hB⟩
  have hW : Below w.heap.size w4 w5 := hB
  have HB5 : Hid (Below w.heap.size w w5) := HB4.out.trans hW
  have HD5 := Lib.hid (hD)
  clear hD hB
  clear hW HD4 HB4
  go_wp2_with fail
  refine (dk_spoil _ HD5.out 0 (by show 0 < 2; decide) k HK.out t).mono ?_
  rintro e w6 ⟨rfl, hD, hB⟩
  have hW : Below w.heap.size w5 w6 := hB
  have HB6 : Hid (Below w.heap.size w w6) := HB5.out.trans hW
  have HD6 := Lib.hid (hD)
  clear hD hB
  clear hW HD5 HB5
  go_wp2_with fail
  refine (dk_reads _ HD6.out rfl 0 (by show 0 < 2; decide) a (q := true) (spoil_back a k t)).mono ?_
  rintro e w7 ⟨rfl, hB⟩
  have hW : Below w6.heap.size w6 w7 := hB
  have HD7 := Lib.hid (HD6.out.below hW)
  have HB7 : Hid (Below w.heap.size w w7) := HB6.out.trans (hW.mono HB6.out.size)
  clear hB
  clear hW HD6 HB6
  go_wp2_with fail
  refine (of_any b _).mono ?_
  rintro e w8 ⟨rfl, hw⟩
  have hW : Below w7.heap.size w7 w8 := hw ▸ (Below.refl _ _).alloc (Nat.le_refl _) _
  have HD8 := Lib.hid (HD7.out.below hW)
  have HB8 : Hid (Below w.heap.size w w8) := HB7.out.trans (hW.mono HB7.out.size)
  have HR8 := Lib.hid ((hw ▸ rd_new _ (ofB b) (ofB_len _) 5 : Rd w8 (some ⟨w7.heap.size, 0, none⟩) 64 (ofB b)))
  clear hw
  clear hW HD7 HB7
  go_wp2_with fail
  refine (dk_write _ HD8.out rfl rfl 0 (by show 0 < 2; decide) HR8.out _).mono ?_
  rintro e w9 ⟨rfl, hD, hB⟩
  have hW : Below w.heap.size w8 w9 := hB
  have HB9 : Hid (Below w.heap.size w w9) := HB8.out.trans hW
  have HD9 := Lib.hid (hD)
  clear hD hB
  clear hW HD8 HR8 HB8
  go_wp2_with fail
  refine (dk_spoil _ HD9.out 0 (by show 0 < 2; decide) k HK.out t).mono ?_
  rintro e w10 ⟨rfl, hD, hB⟩
  have hW : Below w.heap.size w9 w10 := hB
  have HB10 : Hid (Below w.heap.size w w10) := HB9.out.trans hW
  have HD10 := Lib.hid (hD)
  clear hD hB
  clear hW HD9 HB9
  go_wp2_with fail
  refine (dk_reads _ HD10.out rfl 0 (by show 0 < 2; decide) b (q := true) (beq_self_eq_true _)).mono ?_
  rintro e w11 ⟨rfl, hB⟩
  have hW : Below w10.heap.size w10 w11 := hB
  have HD11 := Lib.hid (HD10.out.below hW)
  have HB11 : Hid (Below w.heap.size w w11) := HB10.out.trans (hW.mono HB10.out.size)
  clear hB
  clear hW HD10 HB10
  go_wp2_with fail
  refine (dk_crash _ (HD11.out.alloc (.cells #[.bool true] 4)) _ _ _ [true] (RdV.new w11 (bools [true]) 4 (0, 0)) (by decide)).mono ?_
  rintro e w12 ⟨rfl, hD, hB⟩
  have hW : Below w.heap.size w11 w12 := ((Below.refl _ _).alloc HB11.out.size _).trans hB
  have HB12 : Hid (Below w.heap.size w w12) := HB11.out.trans hW
  have HD12 := Lib.hid (hD)
  clear hD hB
  clear hW HD11 HB11
  go_wp2_with fail
  refine (dk_reads _ HD12.out rfl 0 (by show 0 < 2; decide) b (q := true) (beq_self_eq_true _)).mono ?_
  rintro e w13 ⟨rfl, hB⟩
  have hW : Below w12.heap.size w12 w13 := hB
  have HD13 := Lib.hid (HD12.out.below hW)
  have HB13 : Hid (Below w.heap.size w w13) := HB12.out.trans (hW.mono HB12.out.size)
  clear hB
  clear hW HD12 HB12
  go_wp2_with fail
  refine (awake_any _).mono ?_
  rintro e wz ⟨rfl, hz⟩
  have HZ := Lib.hid hz
  clear hz
  go_wp2
  go_ret
  exact ⟨rfl, HB13.out.trans (HZ.out.mono HB13.out.size)⟩
theorem spoils_false (a b t : UInt8) (az : Nat) (haz : az < 256) (w : World) : Calls Try.prog 10 #[.int .u8 (a.toNat : Int), .int .u8 (b.toNat : Int), .int .u8 (az : Int), .int .u8 (t.toNat : Int), .bool false] w (Law w) := by
  obtain ⟨k, hk, hkz⟩ : ∃ k : Nat, k < 64 ∧ (az : Int) % 64 = (k : Int) := ⟨az % 64, by omega, by omega⟩
  have HK := Lib.hid hk
  clear hk
  go_enter Try.func10, Try.ntmps10
  go_wp2_with fail
  refine (dk_new _ 2 (by omega) (by omega)).mono ?_
  rintro e w1 ⟨g, rfl, hD, hB⟩
  have hW : Below w.heap.size w w1 := hB
  have HB1 : Hid (Below w.heap.size w w1) := hW
  have HD1 := Lib.hid (hD)
  clear hD hB
  clear hW 
  go_wp2_with fail
  refine (of_any a _).mono ?_
  rintro e w2 ⟨rfl, hw⟩
  have hW : Below w1.heap.size w1 w2 := hw ▸ (Below.refl _ _).alloc (Nat.le_refl _) _
  have HD2 := Lib.hid (HD1.out.below hW)
  have HB2 : Hid (Below w.heap.size w w2) := HB1.out.trans (hW.mono HB1.out.size)
  have HR2 := Lib.hid ((hw ▸ rd_new _ (ofB a) (ofB_len _) 5 : Rd w2 (some ⟨w1.heap.size, 0, none⟩) 64 (ofB a)))
  clear hw
  clear hW HD1 HB1
  go_wp2_with fail
  refine (dk_write _ HD2.out rfl rfl 0 (by show 0 < 2; decide) HR2.out _).mono ?_
  rintro e w3 ⟨rfl, hD, hB⟩
  have hW : Below w.heap.size w2 w3 := hB
  have HB3 : Hid (Below w.heap.size w w3) := HB2.out.trans hW
  have HD3 := Lib.hid (hD)
  clear hD hB
  clear hW HD2 HR2 HB2
  go_wp2_with fail
  refine (dk_flush _ HD3.out rfl rfl).mono ?_
  rintro e w4 ⟨rfl, hD, hB⟩
  have hW : Below w.heap.size w3 w4 := hB
  have HB4 : Hid (Below w.heap.size w w4) := HB3.out.trans hW
  have HD4 := Lib.hid (hD)
  clear hD hB
  clear hW HD3 HB3
  go_wp2_with fail
  refine (dk_spoil _ HD4.out 0 (by show 0 < 2; decide) k HK.out t).mono ?_
  rintro e w5 ⟨rfl, hD, hB⟩
  have hW : Below w.heap.size w4 w5 := hB
  have HB5 : Hid (Below w.heap.size w w5) := HB4.out.trans hW
  have HD5 := Lib.hid (hD)
  clear hD hB
  clear hW HD4 HB4
  go_wp2_with fail
  refine (dk_spoil _ HD5.out 0 (by show 0 < 2; decide) k HK.out t).mono ?_
  rintro e w6 ⟨rfl, hD, hB⟩
  have hW : Below w.heap.size w5 w6 := hB
  have HB6 : Hid (Below w.heap.size w w6) := HB5.out.trans hW
  have HD6 := Lib.hid (hD)
  clear hD hB
  clear hW HD5 HB5
  go_wp2_with fail
  refine (dk_reads _ HD6.out rfl 0 (by show 0 < 2; decide) a (q := true) (spoil_back a k t)).mono ?_
  rintro e w7 ⟨rfl, hB⟩
  have hW : Below w6.heap.size w6 w7 := hB
  have HD7 := Lib.hid (HD6.out.below hW)
  have HB7 : Hid (Below w.heap.size w w7) := HB6.out.trans (hW.mono HB6.out.size)
  clear hB
  clear hW HD6 HB6
  go_wp2_with fail
  refine (of_any b _).mono ?_
  rintro e w8 ⟨rfl, hw⟩
  have hW : Below w7.heap.size w7 w8 := hw ▸ (Below.refl _ _).alloc (Nat.le_refl _) _
  have HD8 := Lib.hid (HD7.out.below hW)
  have HB8 : Hid (Below w.heap.size w w8) := HB7.out.trans (hW.mono HB7.out.size)
  have HR8 := Lib.hid ((hw ▸ rd_new _ (ofB b) (ofB_len _) 5 : Rd w8 (some ⟨w7.heap.size, 0, none⟩) 64 (ofB b)))
  clear hw
  clear hW HD7 HB7
  go_wp2_with fail
  refine (dk_write _ HD8.out rfl rfl 0 (by show 0 < 2; decide) HR8.out _).mono ?_
  rintro e w9 ⟨rfl, hD, hB⟩
  have hW : Below w.heap.size w8 w9 := hB
  have HB9 : Hid (Below w.heap.size w w9) := HB8.out.trans hW
  have HD9 := Lib.hid (hD)
  clear hD hB
  clear hW HD8 HR8 HB8
  go_wp2_with fail
  refine (dk_spoil _ HD9.out 0 (by show 0 < 2; decide) k HK.out t).mono ?_
  rintro e w10 ⟨rfl, hD, hB⟩
  have hW : Below w.heap.size w9 w10 := hB
  have HB10 : Hid (Below w.heap.size w w10) := HB9.out.trans hW
  have HD10 := Lib.hid (hD)
  clear hD hB
  clear hW HD9 HB9
  go_wp2_with fail
  refine (dk_reads _ HD10.out rfl 0 (by show 0 < 2; decide) b (q := true) (beq_self_eq_true _)).mono ?_
  rintro e w11 ⟨rfl, hB⟩
  have hW : Below w10.heap.size w10 w11 := hB
  have HD11 := Lib.hid (HD10.out.below hW)
  have HB11 : Hid (Below w.heap.size w w11) := HB10.out.trans (hW.mono HB10.out.size)
  clear hB
  clear hW HD10 HB10
  go_wp2_with fail
  refine (dk_crash _ (HD11.out.alloc (.cells #[.bool false] 4)) _ _ _ [false] (RdV.new w11 (bools [false]) 4 (0, 0)) (by decide)).mono ?_
  rintro e w12 ⟨rfl, hD, hB⟩
  have hW : Below w.heap.size w11 w12 := ((Below.refl _ _).alloc HB11.out.size _).trans hB
  have HB12 : Hid (Below w.heap.size w w12) := HB11.out.trans hW
  have HD12 := Lib.hid (hD)
  clear hD hB
  clear hW HD11 HB11
  go_wp2_with fail
  refine (dk_read _ HD12.out rfl 0 (by show 0 < 2; decide)).mono ?_
  rintro e w13 ⟨rfl, hw⟩
  have hW : Below w12.heap.size w12 w13 := hw ▸ (Below.refl _ _).alloc (Nat.le_refl _) _
  have HD13 := Lib.hid (HD12.out.below hW)
  have HB13 : Hid (Below w.heap.size w w13) := HB12.out.trans (hW.mono HB12.out.size)
  have HQ13 := Lib.hid ((hw ▸ rd_new _ _ (spoil_len a k t) 77 : Rd w13 (some ⟨w12.heap.size, 0, none⟩) 64 (turn (turn (turn (ofB a) k t) k t) k t)))
  clear hw
  clear hW HD12 HB12
  have hx := u8_xor a t
  have hcell := ofB_get a HK.out
  go_wp2_with fail
  refine (of_any a _).mono ?_
  rintro e wy ⟨rfl, rfl⟩
  have hbk := HK.out
  go_wp2_with fail
  clear hx hcell hbk
  have HQ2 := Lib.hid (HQ13.out.alloc (.cells ((bvs (ofB a)).set k (.int .u8 ((a.toNat ^^^ t.toNat : Nat) : Int))).toArray 5))
  have HW2 := Lib.hid (want_rd w13 a HK.out t)
  refine (same_k _ _ _ _ _ _ _ _ _ HQ2.out HW2.out (q := true) (spoil_same a k t)).mono ?_
  rintro e wx ⟨rfl, rfl⟩
  go_wp2_with fail
  refine (awake_any _).mono ?_
  rintro e wz ⟨rfl, hz⟩
  have HZ := Lib.hid hz
  clear hz
  go_wp2
  go_ret
  exact ⟨rfl, (HB13.out.alloc HB13.out.size _).trans (HZ.out.mono (by have := HB13.out.size; simp; omega))⟩
end Go.Proofs.Ytlhhijhmjkgnaaa
