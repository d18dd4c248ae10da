import Derived.Test.YtmiapegecoaccaaRefs
import Derived.Test.YtmiapegecoaccaaGets
namespace Go.Proofs.Ytmiapegecoaccaa
open Go.RowKit Go.Coop

theorem rgetUint_out (A : Option Addr) (n c : Nat) (x : Int) (w : World) (hx : ¬ (0 ≤ x ∧ x ≤ n)) :
    Calls Try.prog 64 #[.slice A n c, .int .i64 x] w (Trip w (0, 0, 2)) := by
  by_cases h0 : x < 0
  · go_enter Try.func64, Try.ntmps64
    go_wp2
    go_ret3
    exact ⟨rfl, rfl⟩
  · have h1 : (n : Int) < x := by omega
    clear hx
    go_enter Try.func64, Try.ntmps64
    go_wp2
    go_ret3
    exact ⟨rfl, rfl⟩

set_option maxHeartbeats 4000000 in
set_option maxRecDepth 100000 in
theorem rgetUint_in (A : Option Addr) (n c : Nat) (l : List UInt8) (x : Nat) (w : World) (hr : Rd w A n l) (hn : n ≤ 140737488355328) (hx : x ≤ n) :
    Calls Try.prog 64 #[.slice A n c, .int .i64 x] w (Trip w (getU l x)) := by
  have HR := Lib.hid hr
  have HLX : Hid (x ≤ l.length) := by rw [hr.len]; exact hx
  have hb1 : decide ((x : Int) < 0) = false := by simp
  have hb2 : decide (n < x) = false := by simp; omega
  clear hr
  go_enter Try.func64, Try.ntmps64
  go_wp2
  clear hb1 hb2
  go_loop [7, 8, 9] (fun a u i => ∃ (k acc W : Nat) (z : Int), k ≤ n - x ∧ k ≤ 9 ∧ z ≤ k ∧ (k : Int) ≤ z ∧ i = .int .i64 z ∧ u = .int .u64 W ∧ a = .int .u64 acc ∧ Hid (W = 128 ^ k ∧ acc < 128 ^ k ∧ scan (l.drop x) 0 0 = scan ((l.drop x).drop k) k acc)) (fun _ _ i => n - x - (intOf i).toNat)
  case atStart => exact ⟨0, 0, 1, 0, by omega, by omega, by omega, by omega, rfl, rfl, rfl, by decide, by decide, rfl⟩
  case round =>
    obtain ⟨k, acc, W, z, hk, hk9, hz1, hz2, rfl, rfl, rfl, HS⟩ := hrel
    by_cases hlt : k < n - x
    · obtain ⟨ad, c0, rfl, hb, hl, hcell⟩ := HR.out.at_ (k := x + k) (by omega)
      unfold BV at hcell
      have hl : (l.drop x)[k]? = some c0 := by rw [List.getElem?_drop]; exact hl
      have hx0 : c0.toNat < 256 := c0.toNat_lt
      have HL := Lib.hid hl
      obtain ⟨d, hd⟩ : ∃ d, c0.toNat = d := ⟨_, rfl⟩
      rw [hd] at hcell hx0
      have HD := Lib.hid hd
      clear hl hd hb
      obtain ⟨hW, hacc, hsc⟩ := HS.out
      have HC := Lib.hid hsc
      clear hsc HS
      obtain rfl | rfl | rfl | rfl | rfl | rfl | rfl | rfl | rfl | rfl : k = 0 ∨ k = 1 ∨ k = 2 ∨ k = 3 ∨ k = 4 ∨ k = 5 ∨ k = 6 ∨ k = 7 ∨ k = 8 ∨ k = 9 := by omega
      · obtain rfl : z = 0 := by omega
        simp only [Nat.reducePow] at hacc hW
        subst hW
        have hq : ((x : Int) == (n : Int)) = false := beq_eq_false_iff_ne.2 (by omega)
        simp only [Nat.add_zero] at hcell
        have HB : Hid (¬ ((0 < 0 ∧ d = 0) ∨ (0 = 9 ∧ 1 < d))) := by show ¬ _; omega
        · by_cases h128 : d < 128
          · go_wp2
            go_ret3
            have e := getU_of HLX.out (HC.out.trans (scan_end HL.out HD.out HB.out (by omega)))
            rw [e]
            refine trip_mk ?_ ?_ ?_ <;> simp <;> omega
          · go_wp2
            go_round
            case rel => exact ⟨1, acc + d % 128 * 1, 128, 1, by omega, by omega, by omega, by omega, by go_num, by go_num, by go_num, by decide, by omega, (HC.out.trans (scan_on HL.out HD.out HB.out h128)).trans (by simp)⟩
            case measure => simp [intOf]; omega
      · obtain rfl : z = 1 := by omega
        simp only [Nat.reducePow] at hacc hW
        subst hW
        have hq : ((x : Int) + 1 == (n : Int)) = false := beq_eq_false_iff_ne.2 (by omega)
        have hcell' : w.cell? ⟨ad.block, ad.off + (x + 1), none⟩ = some (.int .u8 (d : Int)) := by simpa [Addr.add] using hcell
        clear hcell
        by_cases hbad : (0 < 1 ∧ d = 0) ∨ (1 = 9 ∧ 1 < d)
        · have hd0 : d ≤ 0 := by omega
          have hb0 : ((d : Int) == 0) = true := beq_iff_eq.2 (by omega)
          have HB := Lib.hid hbad
          clear hbad
          go_wp2
          go_ret3
          have e := getU_of HLX.out (HC.out.trans (scan_bad HL.out HD.out HB.out))
          rw [e]
          exact trip_mk rfl rfl rfl
        · have hb0 : ((d : Int) == 0) = false := beq_eq_false_iff_ne.2 (by omega)
          have HB := Lib.hid hbad
          clear hbad
          by_cases h128 : d < 128
          · go_wp2
            go_ret3
            have e := getU_of HLX.out (HC.out.trans (scan_end HL.out HD.out HB.out (by omega)))
            rw [e]
            refine trip_mk ?_ ?_ ?_ <;> simp <;> omega
          · go_wp2
            go_round
            case rel => exact ⟨2, acc + d % 128 * 128, 16384, 2, by omega, by omega, by omega, by omega, by go_num, by go_num, by go_num, by decide, by omega, (HC.out.trans (scan_on HL.out HD.out HB.out h128)).trans (by simp)⟩
            case measure => simp [intOf]; omega
      · obtain rfl : z = 2 := by omega
        simp only [Nat.reducePow] at hacc hW
        subst hW
        have hq : ((x : Int) + 2 == (n : Int)) = false := beq_eq_false_iff_ne.2 (by omega)
        have hcell' : w.cell? ⟨ad.block, ad.off + (x + 2), none⟩ = some (.int .u8 (d : Int)) := by simpa [Addr.add] using hcell
        clear hcell
        by_cases hbad : (0 < 2 ∧ d = 0) ∨ (2 = 9 ∧ 1 < d)
        · have hd0 : d ≤ 0 := by omega
          have hb0 : ((d : Int) == 0) = true := beq_iff_eq.2 (by omega)
          have HB := Lib.hid hbad
          clear hbad
          go_wp2
          go_ret3
          have e := getU_of HLX.out (HC.out.trans (scan_bad HL.out HD.out HB.out))
          rw [e]
          exact trip_mk rfl rfl rfl
        · have hb0 : ((d : Int) == 0) = false := beq_eq_false_iff_ne.2 (by omega)
          have HB := Lib.hid hbad
          clear hbad
          by_cases h128 : d < 128
          · go_wp2
            go_ret3
            have e := getU_of HLX.out (HC.out.trans (scan_end HL.out HD.out HB.out (by omega)))
            rw [e]
            refine trip_mk ?_ ?_ ?_ <;> simp <;> omega
          · go_wp2
            go_round
            case rel => exact ⟨3, acc + d % 128 * 16384, 2097152, 3, by omega, by omega, by omega, by omega, by go_num, by go_num, by go_num, by decide, by omega, (HC.out.trans (scan_on HL.out HD.out HB.out h128)).trans (by simp)⟩
            case measure => simp [intOf]; omega
      · obtain rfl : z = 3 := by omega
        simp only [Nat.reducePow] at hacc hW
        subst hW
        have hq : ((x : Int) + 3 == (n : Int)) = false := beq_eq_false_iff_ne.2 (by omega)
        have hcell' : w.cell? ⟨ad.block, ad.off + (x + 3), none⟩ = some (.int .u8 (d : Int)) := by simpa [Addr.add] using hcell
        clear hcell
        by_cases hbad : (0 < 3 ∧ d = 0) ∨ (3 = 9 ∧ 1 < d)
        · have hd0 : d ≤ 0 := by omega
          have hb0 : ((d : Int) == 0) = true := beq_iff_eq.2 (by omega)
          have HB := Lib.hid hbad
          clear hbad
          go_wp2
          go_ret3
          have e := getU_of HLX.out (HC.out.trans (scan_bad HL.out HD.out HB.out))
          rw [e]
          exact trip_mk rfl rfl rfl
        · have hb0 : ((d : Int) == 0) = false := beq_eq_false_iff_ne.2 (by omega)
          have HB := Lib.hid hbad
          clear hbad
          by_cases h128 : d < 128
          · go_wp2
            go_ret3
            have e := getU_of HLX.out (HC.out.trans (scan_end HL.out HD.out HB.out (by omega)))
            rw [e]
            refine trip_mk ?_ ?_ ?_ <;> simp <;> omega
          · go_wp2
            go_round
            case rel => exact ⟨4, acc + d % 128 * 2097152, 268435456, 4, by omega, by omega, by omega, by omega, by go_num, by go_num, by go_num, by decide, by omega, (HC.out.trans (scan_on HL.out HD.out HB.out h128)).trans (by simp)⟩
            case measure => simp [intOf]; omega
      · obtain rfl : z = 4 := by omega
        simp only [Nat.reducePow] at hacc hW
        subst hW
        have hq : ((x : Int) + 4 == (n : Int)) = false := beq_eq_false_iff_ne.2 (by omega)
        have hcell' : w.cell? ⟨ad.block, ad.off + (x + 4), none⟩ = some (.int .u8 (d : Int)) := by simpa [Addr.add] using hcell
        clear hcell
        by_cases hbad : (0 < 4 ∧ d = 0) ∨ (4 = 9 ∧ 1 < d)
        · have hd0 : d ≤ 0 := by omega
          have hb0 : ((d : Int) == 0) = true := beq_iff_eq.2 (by omega)
          have HB := Lib.hid hbad
          clear hbad
          go_wp2
          go_ret3
          have e := getU_of HLX.out (HC.out.trans (scan_bad HL.out HD.out HB.out))
          rw [e]
          exact trip_mk rfl rfl rfl
        · have hb0 : ((d : Int) == 0) = false := beq_eq_false_iff_ne.2 (by omega)
          have HB := Lib.hid hbad
          clear hbad
          by_cases h128 : d < 128
          · go_wp2
            go_ret3
            have e := getU_of HLX.out (HC.out.trans (scan_end HL.out HD.out HB.out (by omega)))
            rw [e]
            refine trip_mk ?_ ?_ ?_ <;> simp <;> omega
          · go_wp2
            go_round
            case rel => exact ⟨5, acc + d % 128 * 268435456, 34359738368, 5, by omega, by omega, by omega, by omega, by go_num, by go_num, by go_num, by decide, by omega, (HC.out.trans (scan_on HL.out HD.out HB.out h128)).trans (by simp)⟩
            case measure => simp [intOf]; omega
      · obtain rfl : z = 5 := by omega
        simp only [Nat.reducePow] at hacc hW
        subst hW
        have hq : ((x : Int) + 5 == (n : Int)) = false := beq_eq_false_iff_ne.2 (by omega)
        have hcell' : w.cell? ⟨ad.block, ad.off + (x + 5), none⟩ = some (.int .u8 (d : Int)) := by simpa [Addr.add] using hcell
        clear hcell
        by_cases hbad : (0 < 5 ∧ d = 0) ∨ (5 = 9 ∧ 1 < d)
        · have hd0 : d ≤ 0 := by omega
          have hb0 : ((d : Int) == 0) = true := beq_iff_eq.2 (by omega)
          have HB := Lib.hid hbad
          clear hbad
          go_wp2
          go_ret3
          have e := getU_of HLX.out (HC.out.trans (scan_bad HL.out HD.out HB.out))
          rw [e]
          exact trip_mk rfl rfl rfl
        · have hb0 : ((d : Int) == 0) = false := beq_eq_false_iff_ne.2 (by omega)
          have HB := Lib.hid hbad
          clear hbad
          by_cases h128 : d < 128
          · go_wp2
            go_ret3
            have e := getU_of HLX.out (HC.out.trans (scan_end HL.out HD.out HB.out (by omega)))
            rw [e]
            refine trip_mk ?_ ?_ ?_ <;> simp <;> omega
          · go_wp2
            go_round
            case rel => exact ⟨6, acc + d % 128 * 34359738368, 4398046511104, 6, by omega, by omega, by omega, by omega, by go_num, by go_num, by go_num, by decide, by omega, (HC.out.trans (scan_on HL.out HD.out HB.out h128)).trans (by simp)⟩
            case measure => simp [intOf]; omega
      · obtain rfl : z = 6 := by omega
        simp only [Nat.reducePow] at hacc hW
        subst hW
        have hq : ((x : Int) + 6 == (n : Int)) = false := beq_eq_false_iff_ne.2 (by omega)
        have hcell' : w.cell? ⟨ad.block, ad.off + (x + 6), none⟩ = some (.int .u8 (d : Int)) := by simpa [Addr.add] using hcell
        clear hcell
        by_cases hbad : (0 < 6 ∧ d = 0) ∨ (6 = 9 ∧ 1 < d)
        · have hd0 : d ≤ 0 := by omega
          have hb0 : ((d : Int) == 0) = true := beq_iff_eq.2 (by omega)
          have HB := Lib.hid hbad
          clear hbad
          go_wp2
          go_ret3
          have e := getU_of HLX.out (HC.out.trans (scan_bad HL.out HD.out HB.out))
          rw [e]
          exact trip_mk rfl rfl rfl
        · have hb0 : ((d : Int) == 0) = false := beq_eq_false_iff_ne.2 (by omega)
          have HB := Lib.hid hbad
          clear hbad
          by_cases h128 : d < 128
          · go_wp2
            go_ret3
            have e := getU_of HLX.out (HC.out.trans (scan_end HL.out HD.out HB.out (by omega)))
            rw [e]
            refine trip_mk ?_ ?_ ?_ <;> simp <;> omega
          · go_wp2
            go_round
            case rel => exact ⟨7, acc + d % 128 * 4398046511104, 562949953421312, 7, by omega, by omega, by omega, by omega, by go_num, by go_num, by go_num, by decide, by omega, (HC.out.trans (scan_on HL.out HD.out HB.out h128)).trans (by simp)⟩
            case measure => simp [intOf]; omega
      · obtain rfl : z = 7 := by omega
        simp only [Nat.reducePow] at hacc hW
        subst hW
        have hq : ((x : Int) + 7 == (n : Int)) = false := beq_eq_false_iff_ne.2 (by omega)
        have hcell' : w.cell? ⟨ad.block, ad.off + (x + 7), none⟩ = some (.int .u8 (d : Int)) := by simpa [Addr.add] using hcell
        clear hcell
        by_cases hbad : (0 < 7 ∧ d = 0) ∨ (7 = 9 ∧ 1 < d)
        · have hd0 : d ≤ 0 := by omega
          have hb0 : ((d : Int) == 0) = true := beq_iff_eq.2 (by omega)
          have HB := Lib.hid hbad
          clear hbad
          go_wp2
          go_ret3
          have e := getU_of HLX.out (HC.out.trans (scan_bad HL.out HD.out HB.out))
          rw [e]
          exact trip_mk rfl rfl rfl
        · have hb0 : ((d : Int) == 0) = false := beq_eq_false_iff_ne.2 (by omega)
          have HB := Lib.hid hbad
          clear hbad
          by_cases h128 : d < 128
          · go_wp2
            go_ret3
            have e := getU_of HLX.out (HC.out.trans (scan_end HL.out HD.out HB.out (by omega)))
            rw [e]
            refine trip_mk ?_ ?_ ?_ <;> simp <;> omega
          · go_wp2
            go_round
            case rel => exact ⟨8, acc + d % 128 * 562949953421312, 72057594037927936, 8, by omega, by omega, by omega, by omega, by go_num, by go_num, by go_num, by decide, by omega, (HC.out.trans (scan_on HL.out HD.out HB.out h128)).trans (by simp)⟩
            case measure => simp [intOf]; omega
      · obtain rfl : z = 8 := by omega
        simp only [Nat.reducePow] at hacc hW
        subst hW
        have hq : ((x : Int) + 8 == (n : Int)) = false := beq_eq_false_iff_ne.2 (by omega)
        have hcell' : w.cell? ⟨ad.block, ad.off + (x + 8), none⟩ = some (.int .u8 (d : Int)) := by simpa [Addr.add] using hcell
        clear hcell
        by_cases hbad : (0 < 8 ∧ d = 0) ∨ (8 = 9 ∧ 1 < d)
        · have hd0 : d ≤ 0 := by omega
          have hb0 : ((d : Int) == 0) = true := beq_iff_eq.2 (by omega)
          have HB := Lib.hid hbad
          clear hbad
          go_wp2
          go_ret3
          have e := getU_of HLX.out (HC.out.trans (scan_bad HL.out HD.out HB.out))
          rw [e]
          exact trip_mk rfl rfl rfl
        · have hb0 : ((d : Int) == 0) = false := beq_eq_false_iff_ne.2 (by omega)
          have HB := Lib.hid hbad
          clear hbad
          by_cases h128 : d < 128
          · go_wp2
            go_ret3
            have e := getU_of HLX.out (HC.out.trans (scan_end HL.out HD.out HB.out (by omega)))
            rw [e]
            refine trip_mk ?_ ?_ ?_ <;> simp <;> omega
          · go_wp2
            go_round
            case rel => exact ⟨9, acc + d % 128 * 72057594037927936, 9223372036854775808, 9, by omega, by omega, by omega, by omega, by go_num, by go_num, by go_num, by decide, by omega, (HC.out.trans (scan_on HL.out HD.out HB.out h128)).trans (by simp)⟩
            case measure => simp [intOf]; omega
      · obtain rfl : z = 9 := by omega
        simp only [Nat.reducePow] at hacc hW
        subst hW
        have hq : ((x : Int) + 9 == (n : Int)) = false := beq_eq_false_iff_ne.2 (by omega)
        have hcell' : w.cell? ⟨ad.block, ad.off + (x + 9), none⟩ = some (.int .u8 (d : Int)) := by simpa [Addr.add] using hcell
        clear hcell
        by_cases h1 : 1 < d
        · have hb0 : ((d : Int) == 0) = false := beq_eq_false_iff_ne.2 (by omega)
          go_wp2
          go_ret3
          have e := getU_of HLX.out (HC.out.trans (scan_bad HL.out HD.out (by omega)))
          rw [e]
          exact trip_mk rfl rfl rfl
        · by_cases h0 : d = 0
          · have hb0 : ((d : Int) == 0) = true := beq_iff_eq.2 (by omega)
            have h0' : d ≤ 0 := by omega
            have HH := Lib.hid h0
            clear h0
            go_wp2
            go_ret3
            have e := getU_of HLX.out (HC.out.trans (scan_bad HL.out HD.out (by omega)))
            rw [e]
            exact trip_mk rfl rfl rfl
          · have hb0 : ((d : Int) == 0) = false := beq_eq_false_iff_ne.2 (by omega)
            go_wp2
            go_ret3
            have e := getU_of HLX.out (HC.out.trans (scan_end HL.out HD.out (by omega) (by omega)))
            rw [e]
            refine trip_mk ?_ ?_ ?_ <;> simp <;> omega
    · have hq : ((x : Int) + z == (n : Int)) = true := beq_iff_eq.2 (by omega)
      go_wp2
      go_ret3
      have e := getU_of HLX.out (HS.out.2.2.trans (scan_none (by simp; have := HR.out.len; omega)))
      rw [e]
      refine trip_mk ?_ ?_ ?_ <;> simp
end Go.Proofs.Ytmiapegecoaccaa
