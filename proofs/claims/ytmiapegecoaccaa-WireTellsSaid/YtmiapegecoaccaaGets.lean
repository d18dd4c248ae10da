/- The program's GetUint. -/
import Derived.Test.YtmiapegecoaccaaByt
namespace Go.Proofs.Ytmiapegecoaccaa
open Go.RowKit Go.Coop
/-- the three results of GetUint -/
def Trip (w : World) (r : Nat × Nat × Nat) (e : Ending) (w' : World) : Prop := e = .returned (.tuple #[.int .u64 (r.1 : Int), .int .i64 (r.2.1 : Int), .int .i64 (r.2.2 : Int)]) ∧ w = w'

theorem getUint_out (A : Option Addr) (n c : Nat) (x : Int) (w : World) (hx : ¬ (0 ≤ x ∧ x ≤ n)) :
    Calls Try.prog 55 #[.slice A n c, .int .i64 x] w (Trip w (0, 0, 2)) := by
  by_cases h0 : x < 0
  · go_enter Try.func55, Try.ntmps55
    go_wp2
    go_ret3
    exact ⟨rfl, rfl⟩
  · have h1 : (n : Int) < x := by omega
    clear hx
    go_enter Try.func55, Try.ntmps55
    go_wp2
    go_ret3
    exact ⟨rfl, rfl⟩

theorem trip_mk {w : World} {r : Nat × Nat × Nat} {a b c : Int} (h1 : a = (r.1 : Int)) (h2 : b = (r.2.1 : Int)) (h3 : c = (r.2.2 : Int)) : Trip w r (.returned (.tuple #[.int .u64 a, .int .i64 b, .int .i64 c])) w := by
  subst h1 h2 h3
  exact ⟨rfl, rfl⟩

set_option maxHeartbeats 4000000 in
set_option maxRecDepth 100000 in
theorem getUint_in (A : Option Addr) (n c : Nat) (l : List UInt8) (x : Nat) (w : World) (hr : Rd w A n l) (hn : n ≤ 140737488355328) (hx : x ≤ n) (hc : n ≤ c) :
    Calls Try.prog 55 #[.slice A n c, .int .i64 x] w (Trip w (getU l x)) := by
  have hrd := hr.drop (cap := c) hx hc
  have HR := Lib.hid hr
  have HLX : Hid (x ≤ l.length) := by rw [hr.len]; exact hx
  clear hr
  have hs := fun w => slice_l (P := Try.prog) 23 Try.underlying23 info5 A n c x hx w
  generalize cutA A c x = A' at *
  have hb1 : decide ((x : Int) < 0) = false := by simp
  have hb2 : decide (n < x) = false := by simp; omega
  go_enter Try.func55, Try.ntmps55
  go_wp2
  clear hb1 hb2 hs
  go_loop [7, 22] (fun a i => ∃ (k acc : Nat) (z : Int), k ≤ n - x ∧ k ≤ 9 ∧ z ≤ k ∧ (k : Int) ≤ z ∧ i = .int .i64 z ∧ a = .int .u64 acc ∧ Hid (acc < 128 ^ k ∧ scan (l.drop x) 0 0 = scan ((l.drop x).drop k) k acc)) (fun _ i => n - x - (intOf i).toNat)
  case atStart => exact ⟨0, 0, 0, by omega, by omega, by omega, by omega, rfl, rfl, by decide, rfl⟩
  case round =>
    obtain ⟨k, acc, z, hk, hk9, hz1, hz2, rfl, rfl, HS⟩ := hrel
    by_cases hlt : k < n - x
    · obtain ⟨ad, c0, rfl, hb, hl, hcell⟩ := hrd.at_ hlt
      unfold BV at hcell
      have hx0 : c0.toNat < 256 := c0.toNat_lt
      have HL := Lib.hid hl
      obtain ⟨d, hd⟩ : ∃ d, c0.toNat = d := ⟨_, rfl⟩
      rw [hd] at hcell hx0
      have HD := Lib.hid hd
      clear hl hd hb
      obtain ⟨hacc, hsc⟩ := HS.out
      have HC := Lib.hid hsc
      clear hsc HS
      obtain rfl | rfl | rfl | rfl | rfl | rfl | rfl | rfl | rfl | rfl : k = 0 ∨ k = 1 ∨ k = 2 ∨ k = 3 ∨ k = 4 ∨ k = 5 ∨ k = 6 ∨ k = 7 ∨ k = 8 ∨ k = 9 := by omega
      · obtain rfl : z = 0 := by omega
        have hcell' : w.cell? ad = some (.int .u8 (d : Int)) := by simpa [Addr.add] using hcell
        clear hcell
        simp only [Nat.reducePow] at hacc
        by_cases hbad : (0 < 0 ∧ d = 0) ∨ (0 = 9 ∧ 1 < d)
        · omega
        · by_cases h128 : d < 128
          · go_wp2
            go_ret3
            have e := getU_of HLX.out (HC.out.trans (scan_end HL.out HD.out hbad h128))
            rw [e]
            refine trip_mk ?_ ?_ ?_ <;> simp <;> omega
          · go_wp2
            go_round
            case rel => exact ⟨1, acc + d % 128 * 1, 1, by omega, by omega, by omega, by omega, by go_num, by go_num, by omega, (HC.out.trans (scan_on HL.out HD.out hbad h128)).trans (by simp)⟩
            case measure => simp [intOf]; omega
      · obtain rfl : z = 1 := by omega
        have hcell' : w.cell? ⟨ad.block, ad.off + 1, none⟩ = some (.int .u8 (d : Int)) := by simpa [Addr.add] using hcell
        clear hcell
        simp only [Nat.reducePow] at hacc
        by_cases hbad : (0 < 1 ∧ d = 0) ∨ (1 = 9 ∧ 1 < d)
        · go_wp2
          go_ret3
          have e := getU_of HLX.out (HC.out.trans (scan_bad HL.out HD.out hbad))
          rw [e]
          exact trip_mk rfl rfl rfl
        · by_cases h128 : d < 128
          · go_wp2
            go_ret3
            have e := getU_of HLX.out (HC.out.trans (scan_end HL.out HD.out hbad h128))
            rw [e]
            refine trip_mk ?_ ?_ ?_ <;> simp <;> omega
          · go_wp2
            go_round
            case rel => exact ⟨2, acc + d % 128 * 128, 2, by omega, by omega, by omega, by omega, by go_num, by go_num, by omega, (HC.out.trans (scan_on HL.out HD.out hbad h128)).trans (by simp)⟩
            case measure => simp [intOf]; omega
      · obtain rfl : z = 2 := by omega
        have hcell' : w.cell? ⟨ad.block, ad.off + 2, none⟩ = some (.int .u8 (d : Int)) := by simpa [Addr.add] using hcell
        clear hcell
        simp only [Nat.reducePow] at hacc
        by_cases hbad : (0 < 2 ∧ d = 0) ∨ (2 = 9 ∧ 1 < d)
        · go_wp2
          go_ret3
          have e := getU_of HLX.out (HC.out.trans (scan_bad HL.out HD.out hbad))
          rw [e]
          exact trip_mk rfl rfl rfl
        · by_cases h128 : d < 128
          · go_wp2
            go_ret3
            have e := getU_of HLX.out (HC.out.trans (scan_end HL.out HD.out hbad h128))
            rw [e]
            refine trip_mk ?_ ?_ ?_ <;> simp <;> omega
          · go_wp2
            go_round
            case rel => exact ⟨3, acc + d % 128 * 16384, 3, by omega, by omega, by omega, by omega, by go_num, by go_num, by omega, (HC.out.trans (scan_on HL.out HD.out hbad h128)).trans (by simp)⟩
            case measure => simp [intOf]; omega
      · obtain rfl : z = 3 := by omega
        have hcell' : w.cell? ⟨ad.block, ad.off + 3, none⟩ = some (.int .u8 (d : Int)) := by simpa [Addr.add] using hcell
        clear hcell
        simp only [Nat.reducePow] at hacc
        by_cases hbad : (0 < 3 ∧ d = 0) ∨ (3 = 9 ∧ 1 < d)
        · go_wp2
          go_ret3
          have e := getU_of HLX.out (HC.out.trans (scan_bad HL.out HD.out hbad))
          rw [e]
          exact trip_mk rfl rfl rfl
        · by_cases h128 : d < 128
          · go_wp2
            go_ret3
            have e := getU_of HLX.out (HC.out.trans (scan_end HL.out HD.out hbad h128))
            rw [e]
            refine trip_mk ?_ ?_ ?_ <;> simp <;> omega
          · go_wp2
            go_round
            case rel => exact ⟨4, acc + d % 128 * 2097152, 4, by omega, by omega, by omega, by omega, by go_num, by go_num, by omega, (HC.out.trans (scan_on HL.out HD.out hbad h128)).trans (by simp)⟩
            case measure => simp [intOf]; omega
      · obtain rfl : z = 4 := by omega
        have hcell' : w.cell? ⟨ad.block, ad.off + 4, none⟩ = some (.int .u8 (d : Int)) := by simpa [Addr.add] using hcell
        clear hcell
        simp only [Nat.reducePow] at hacc
        by_cases hbad : (0 < 4 ∧ d = 0) ∨ (4 = 9 ∧ 1 < d)
        · go_wp2
          go_ret3
          have e := getU_of HLX.out (HC.out.trans (scan_bad HL.out HD.out hbad))
          rw [e]
          exact trip_mk rfl rfl rfl
        · by_cases h128 : d < 128
          · go_wp2
            go_ret3
            have e := getU_of HLX.out (HC.out.trans (scan_end HL.out HD.out hbad h128))
            rw [e]
            refine trip_mk ?_ ?_ ?_ <;> simp <;> omega
          · go_wp2
            go_round
            case rel => exact ⟨5, acc + d % 128 * 268435456, 5, by omega, by omega, by omega, by omega, by go_num, by go_num, by omega, (HC.out.trans (scan_on HL.out HD.out hbad h128)).trans (by simp)⟩
            case measure => simp [intOf]; omega
      · obtain rfl : z = 5 := by omega
        have hcell' : w.cell? ⟨ad.block, ad.off + 5, none⟩ = some (.int .u8 (d : Int)) := by simpa [Addr.add] using hcell
        clear hcell
        simp only [Nat.reducePow] at hacc
        by_cases hbad : (0 < 5 ∧ d = 0) ∨ (5 = 9 ∧ 1 < d)
        · go_wp2
          go_ret3
          have e := getU_of HLX.out (HC.out.trans (scan_bad HL.out HD.out hbad))
          rw [e]
          exact trip_mk rfl rfl rfl
        · by_cases h128 : d < 128
          · go_wp2
            go_ret3
            have e := getU_of HLX.out (HC.out.trans (scan_end HL.out HD.out hbad h128))
            rw [e]
            refine trip_mk ?_ ?_ ?_ <;> simp <;> omega
          · go_wp2
            go_round
            case rel => exact ⟨6, acc + d % 128 * 34359738368, 6, by omega, by omega, by omega, by omega, by go_num, by go_num, by omega, (HC.out.trans (scan_on HL.out HD.out hbad h128)).trans (by simp)⟩
            case measure => simp [intOf]; omega
      · obtain rfl : z = 6 := by omega
        have hcell' : w.cell? ⟨ad.block, ad.off + 6, none⟩ = some (.int .u8 (d : Int)) := by simpa [Addr.add] using hcell
        clear hcell
        simp only [Nat.reducePow] at hacc
        by_cases hbad : (0 < 6 ∧ d = 0) ∨ (6 = 9 ∧ 1 < d)
        · go_wp2
          go_ret3
          have e := getU_of HLX.out (HC.out.trans (scan_bad HL.out HD.out hbad))
          rw [e]
          exact trip_mk rfl rfl rfl
        · by_cases h128 : d < 128
          · go_wp2
            go_ret3
            have e := getU_of HLX.out (HC.out.trans (scan_end HL.out HD.out hbad h128))
            rw [e]
            refine trip_mk ?_ ?_ ?_ <;> simp <;> omega
          · go_wp2
            go_round
            case rel => exact ⟨7, acc + d % 128 * 4398046511104, 7, by omega, by omega, by omega, by omega, by go_num, by go_num, by omega, (HC.out.trans (scan_on HL.out HD.out hbad h128)).trans (by simp)⟩
            case measure => simp [intOf]; omega
      · obtain rfl : z = 7 := by omega
        have hcell' : w.cell? ⟨ad.block, ad.off + 7, none⟩ = some (.int .u8 (d : Int)) := by simpa [Addr.add] using hcell
        clear hcell
        simp only [Nat.reducePow] at hacc
        by_cases hbad : (0 < 7 ∧ d = 0) ∨ (7 = 9 ∧ 1 < d)
        · go_wp2
          go_ret3
          have e := getU_of HLX.out (HC.out.trans (scan_bad HL.out HD.out hbad))
          rw [e]
          exact trip_mk rfl rfl rfl
        · by_cases h128 : d < 128
          · go_wp2
            go_ret3
            have e := getU_of HLX.out (HC.out.trans (scan_end HL.out HD.out hbad h128))
            rw [e]
            refine trip_mk ?_ ?_ ?_ <;> simp <;> omega
          · go_wp2
            go_round
            case rel => exact ⟨8, acc + d % 128 * 562949953421312, 8, by omega, by omega, by omega, by omega, by go_num, by go_num, by omega, (HC.out.trans (scan_on HL.out HD.out hbad h128)).trans (by simp)⟩
            case measure => simp [intOf]; omega
      · obtain rfl : z = 8 := by omega
        have hcell' : w.cell? ⟨ad.block, ad.off + 8, none⟩ = some (.int .u8 (d : Int)) := by simpa [Addr.add] using hcell
        clear hcell
        simp only [Nat.reducePow] at hacc
        by_cases hbad : (0 < 8 ∧ d = 0) ∨ (8 = 9 ∧ 1 < d)
        · go_wp2
          go_ret3
          have e := getU_of HLX.out (HC.out.trans (scan_bad HL.out HD.out hbad))
          rw [e]
          exact trip_mk rfl rfl rfl
        · by_cases h128 : d < 128
          · go_wp2
            go_ret3
            have e := getU_of HLX.out (HC.out.trans (scan_end HL.out HD.out hbad h128))
            rw [e]
            refine trip_mk ?_ ?_ ?_ <;> simp <;> omega
          · go_wp2
            go_round
            case rel => exact ⟨9, acc + d % 128 * 72057594037927936, 9, by omega, by omega, by omega, by omega, by go_num, by go_num, by omega, (HC.out.trans (scan_on HL.out HD.out hbad h128)).trans (by simp)⟩
            case measure => simp [intOf]; omega
      · obtain rfl : z = 9 := by omega
        have hcell' : w.cell? ⟨ad.block, ad.off + 9, none⟩ = some (.int .u8 (d : Int)) := by simpa [Addr.add] using hcell
        clear hcell
        simp only [Nat.reducePow] at hacc
        by_cases h1 : 1 < d
        · have hb0 : ((d : Int) == 0) = false := beq_eq_false_iff_ne.2 (by omega)
          go_wp2
          all_goals
            go_ret3
            have e := getU_of HLX.out (HC.out.trans (scan_bad HL.out HD.out (by omega)))
            rw [e]
            exact trip_mk rfl rfl rfl
        · by_cases h0 : d = 0
          · have hb0 : ((d : Int) == 0) = true := beq_iff_eq.2 (by omega)
            have HH := Lib.hid h0
            have h0' : d ≤ 0 := by omega
            clear h0
            go_wp2
            all_goals
              go_ret3
              have e := getU_of HLX.out (HC.out.trans (scan_bad HL.out HD.out (by omega)))
              rw [e]
              exact trip_mk rfl rfl rfl
          · have hb0 : ((d : Int) == 0) = false := beq_eq_false_iff_ne.2 (by omega)
            go_wp2
            go_ret3
            have e := getU_of HLX.out (HC.out.trans (scan_end HL.out HD.out (by omega) (by omega)))
            rw [e]
            refine trip_mk ?_ ?_ ?_ <;> simp <;> omega
    · go_wp2
      go_ret3
      have e := getU_of HLX.out (HS.out.2.trans (scan_none (by simp; have := HR.out.len; omega)))
      rw [e]
      refine trip_mk ?_ ?_ ?_ <;> simp
theorem getUint_any (A : Option Addr) (n c : Nat) (l : List UInt8) (x : Int) (w : World) (hr : Rd w A n l) (hn : n ≤ 140737488355328) (hc : n ≤ c) :
    Calls Try.prog 55 #[.slice A n c, .int .i64 x] w (Trip w (getU l x)) := by
  by_cases hx : 0 ≤ x ∧ x ≤ n
  · obtain ⟨m, rfl⟩ := Int.eq_ofNat_of_zero_le hx.1
    exact getUint_in A n c l m w hr hn (by omega) hc
  · have e : getU l x = (0, 0, 2) := by unfold getU; rw [if_neg (by rw [hr.len]; exact hx)]
    rw [e]
    exact getUint_out A n c x w hx

end Go.Proofs.Ytmiapegecoaccaa
