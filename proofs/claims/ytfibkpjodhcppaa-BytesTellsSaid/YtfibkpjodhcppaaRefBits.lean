import Derived.Test.YtfibkpjodhcppaaBitsP
import Derived.Test.YtfibkpjodhcppaaTable
namespace Go.Proofs.Ytfibkpjodhcppaa
open Go.RowKit Go.Coop

theorem info69 : (Try.prog.info? 69).map (fun i => (i.zero, i.size)) = some (some (.agg (Array.replicate 32 (.bool false))), 32) := by kernel_rfl

/-- the register's cells -/
def regs (f : Nat → Bool) : Array Value := ((List.range 32).map fun i => Value.bool (f i)).toArray
theorem regs_at (f : Nat → Bool) {k : Nat} (h : k < 32) : (regs f)[k]? = some (.bool (f k)) := by simp [regs, h]
theorem regs_ext {f g : Nat → Bool} (h : ∀ i, i < 32 → f i = g i) : regs f = regs g := by
  unfold regs
  congr 1
  apply List.map_congr_left
  intro i hi
  rw [h i (List.mem_range.1 hi)]
theorem regs_set (f : Nat → Bool) (k : Nat) (b : Bool) : (regs f).setIfInBounds k (.bool b) = regs (fun i => if i = k then b else f i) := by
  unfold regs
  simp only [List.setIfInBounds_toArray]
  congr 1
  apply List.ext_getElem?
  intro i
  rw [List.getElem?_set]
  by_cases hi : i < 32
  · by_cases hk : k = i
    · subst hk; simp [hi]
    · have hk' : ¬ i = k := fun e => hk e.symm
      simp [hi, hk, hk']
  · by_cases hk : k = i
    · subst hk; simp [hi]
    · simp [hi, hk]

/-- the register behind T bits -/
def reg (l : List UInt8) (T : Nat) : Nat := st (run entry 4294967295 (l.take (T / 8))) (l.getD (T / 8) 0).toNat (T % 8)
theorem reg_lt (l : List UInt8) (T : Nat) : reg l T < 4294967296 := st_lt _ (run_lt (fun i hi => entry_lt (by omega)) _ (by omega)) _
theorem reg_zero (l : List UInt8) : reg l 0 = 4294967295 := by simp [reg, st, run]
theorem reg_all (l : List UInt8) : reg l (8 * l.length) = run entry 4294967295 l := by
  unfold reg
  rw [show 8 * l.length / 8 = l.length by omega, show 8 * l.length % 8 = 0 by omega, List.take_length]
  rfl
theorem reg_succ {l : List UInt8} {T : Nat} {c : UInt8} (hc : l[T / 8]? = some c) : reg l (T + 1) = halve (reg l T ^^^ (c.toNat / 2 ^ (T % 8) % 2)) := by
  have hg : l.getD (T / 8) 0 = c := by rw [List.getD_eq_getElem?_getD, hc]; rfl
  have e : halve (reg l T ^^^ (c.toNat / 2 ^ (T % 8) % 2)) = st (run entry 4294967295 (l.take (T / 8))) c.toNat (T % 8 + 1) := by
    unfold reg
    rw [hg]
    rfl
  rw [e]
  by_cases h7 : T % 8 = 7
  · rw [h7, st_eight]
    unfold reg
    rw [show (T + 1) / 8 = T / 8 + 1 by omega, show (T + 1) % 8 = 0 by omega, List.take_add_one, hc, Option.toList_some, run_snoc]
    rfl
  · unfold reg
    rw [show (T + 1) / 8 = T / 8 by omega, show (T + 1) % 8 = T % 8 + 1 by omega, hg]

theorem bit_out {s x r : Nat} {o V : Bool} (ho : s.testBit 0 = o) (hV : (!(o == (((x : Int) / 2 ^ r).tmod 2 == 1))) = V) : V = (s ^^^ (x / 2 ^ r % 2)).testBit 0 := by
  have e : (((x : Int) / 2 ^ r).tmod 2 == 1) = decide (x / 2 ^ r % 2 = 1) := by
    have h1 : ((x : Int) / 2 ^ r) = ((x / 2 ^ r : Nat) : Int) := by simp
    rw [h1, Int.tmod_eq_emod_of_nonneg (Int.natCast_nonneg _)]
    by_cases h : x / 2 ^ r % 2 = 1
    · rw [decide_eq_true h]; exact beq_iff_eq.2 (by omega)
    · rw [decide_eq_false h]; exact beq_eq_false_iff_ne.2 (by omega)
  rw [← hV, e, ← ho, Nat.testBit_xor, Nat.testBit_zero (x := x / 2 ^ r % 2), Nat.mod_mod]
  cases s.testBit 0 <;> cases decide (x / 2 ^ r % 2 = 1) <;> rfl
theorem bit_up (s y i : Nat) : (s ^^^ (y % 2)).testBit (i + 1) = s.testBit (i + 1) := by
  rw [Nat.testBit_xor, Nat.testBit_succ (x := y % 2), show y % 2 / 2 = 0 by omega]
  simp
theorem turn_bit (k : Nat) : (((2197175160 : Int) / 2 ^ k).tmod 2 == 1) = (2197175160 : Nat).testBit k := by
  have h1 : ((2197175160 : Int) / 2 ^ k) = ((2197175160 / 2 ^ k : Nat) : Int) := by simp
  rw [h1, Int.tmod_eq_emod_of_nonneg (Int.natCast_nonneg _), Nat.testBit_eq_decide_div_mod_eq]
  by_cases h : 2197175160 / 2 ^ k % 2 = 1
  · rw [decide_eq_true h]; exact beq_iff_eq.2 (by omega)
  · rw [decide_eq_false h]; exact beq_eq_false_iff_ne.2 (by omega)

set_option maxHeartbeats 1000000 in
set_option maxRecDepth 100000 in
theorem bits_any (A : Option Addr) (n c : Nat) (l : List UInt8) (w : World) (hr : Rd w A n l) (hn : n ≤ 1048576) :
    Calls Try.prog 30 #[.slice A n c] w fun e w' => e = .returned (.int .u32 (crc entry l : Nat)) ∧ Below w.heap.size w w' := by
  have hz := (zero_of_info info69).1
  obtain ⟨Z, hZ⟩ : ∃ Z, Z = (Array.replicate 32 (Value.bool false)) := ⟨_, rfl⟩
  rw [← hZ] at hz
  have hZ0 : Z = regs (fun i => decide (i < 0)) := by rw [hZ]; rfl
  have HZ := Lib.hid hZ0
  have HR := Lib.hid hr
  clear hZ hZ0 hr
  go_enter Try.func30, Try.ntmps30
  go_wp2
  go_loopw [4] (fun i wr => ∃ (k : Nat) (cur : Array Value), k ≤ 32 ∧ i = .int .i64 k ∧ Hid (cur = regs (fun i => decide (i < k))) ∧ wr = w.alloc (.cells cur 69)) (fun i _ => 32 - (intOf i).toNat)
  case atStart => exact ⟨0, Z, by omega, rfl, HZ.out, rfl⟩
  case round =>
    obtain ⟨k, cur, hk, rfl, HC, rfl⟩ := hrel
    by_cases hlt : k < 32
    · have hc1 : cur[k]? = some (.bool false) := by rw [HC.out, regs_at _ hlt]; simp
      have hset : cur.setIfInBounds k (.bool true) = regs (fun i => decide (i < k + 1)) := by
        rw [HC.out, regs_set]
        refine regs_ext fun i _ => ?_
        by_cases h : i = k
        · simp [h]
        · simp [h, show i < k + 1 ↔ i < k by omega]
      have HS := Lib.hid hset
      clear hset HC
      go_wp2
      go_roundw
      case rel => exact ⟨k + 1, _, by omega, by go_num, HS.out, rfl⟩
      case measure => simp [intOf]; omega
    · obtain rfl : k = 32 := by omega
      have hreg : cur = regs (fun i => (reg l 0).testBit i) := by
        rw [HC.out]
        refine regs_ext fun i hi => ?_
        rw [reg_zero, show (4294967295 : Nat) = 2 ^ 32 - 1 from rfl, Nat.testBit_two_pow_sub_one]
      have HG := Lib.hid hreg
      clear hreg HC
      go_wp2
      go_loopw [5] (fun i wr => ∃ (T : Nat) (cur : Array Value), T ≤ 8 * n ∧ i = .int .i64 T ∧ Hid (cur = regs (fun i => (reg l T).testBit i)) ∧ wr = w.alloc (.cells cur 69)) (fun i _ => 8 * n - (intOf i).toNat)
      case atStart => exact ⟨0, cur, by omega, rfl, HG.out, rfl⟩
      case round =>
        clear HG
        obtain ⟨T, cur, hT, rfl, HC, rfl⟩ := hrel
        by_cases hlt : T < 8 * n
        · obtain ⟨ad, c0, rfl, hb, hl, hcell⟩ := HR.out.at_ (k := T / 8) (by omega)
          unfold BV at hcell
          have HS := Lib.hid (reg_succ hl)
          have hcell : (w.alloc (.cells cur 69)).cell? (ad.add (T / 8)) = some (.int .u8 (c0.toNat : Int)) := by
            rw [← hcell]; exact ((Below.refl w.heap.size w).alloc (Nat.le_refl _) _).cell (by rw [addr_add_block]; exact hb)
          have hx : c0.toNat ≤ 255 := by have := c0.toNat_lt; omega
          generalize c0.toNat = x at *
          have h0 : cur[0]? = some (.bool ((reg l T).testBit 0)) := by rw [HC.out]; exact regs_at _ (by omega)
          obtain ⟨o, ho⟩ : ∃ o, (reg l T).testBit 0 = o := ⟨_, rfl⟩
          rw [ho] at h0
          clear hl
          obtain ⟨V, hV⟩ : ∃ V : Bool, (!(o == (((x : Int) / 2 ^ (T % 8)).tmod 2 == 1))) = V := ⟨_, rfl⟩
          have HV := Lib.hid (And.intro ho hV)
          have hTd : decide ((T : Int) < 8 * (n : Int)) = true := by simp; omega
          clear ho
          go_wp2
          clear hV h0 hcell hTd
          have HC0 := HC
          go_loopw [8] (fun i wr => ∃ (k : Nat) (cur : Array Value), k ≤ 31 ∧ i = .int .i64 k ∧ Hid (cur = regs (fun i => if i < k then (reg l T).testBit (i + 1) else (reg l T).testBit i)) ∧ wr = w.alloc (.cells cur 69)) (fun i _ => 31 - (intOf i).toNat)
          case atStart => exact ⟨0, cur, by omega, rfl, by show _ = _; rw [HC0.out]; rfl, rfl⟩
          case round =>
            clear HC HC0
            obtain ⟨k, cur, hk, rfl, HC, rfl⟩ := hrel
            by_cases hlk : k < 31
            · have hc1 : cur[k + 1]? = some (.bool ((reg l T).testBit (k + 1))) := by
                rw [HC.out, regs_at _ (by omega), if_neg (by omega)]
              have hc2 : cur[k]? = some (.bool ((reg l T).testBit k)) := by
                rw [HC.out, regs_at _ (by omega), if_neg (by omega)]
              have hset : cur.setIfInBounds k (.bool ((reg l T).testBit (k + 1))) = regs (fun i => if i < k + 1 then (reg l T).testBit (i + 1) else (reg l T).testBit i) := by
                rw [HC.out, regs_set]
                refine regs_ext fun i _ => ?_
                by_cases h : i = k
                · subst h; simp
                · simp [h, show i < k + 1 ↔ i < k by omega]
              have HE := Lib.hid hset
              clear hset HC
              generalize (reg l T).testBit (k + 1) = b1 at *
              generalize (reg l T).testBit k = b2 at *
              go_wp2
              go_roundw
              case rel => exact ⟨k + 1, _, by omega, by go_num, HE.out, rfl⟩
              case measure => simp [intOf]; omega
            · obtain rfl : k = 31 := by omega
              have hc1 : cur[31]? = some (.bool ((reg l T).testBit 31)) := by
                rw [HC.out, regs_at _ (by omega), if_neg (by omega)]
              have hset : cur.setIfInBounds 31 (.bool false) = regs (fun i => (reg l T).testBit (i + 1) ^^ (decide (i < 0) && (V && (2197175160 : Nat).testBit i))) := by
                rw [HC.out, regs_set]
                refine regs_ext fun i hi => ?_
                by_cases h : i = 31
                · subst h
                  have := Nat.testBit_lt_two_pow (i := 32) (reg_lt l T)
                  simp [this]
                · simp [h, show i < 31 by omega]
              have HE := Lib.hid hset
              clear hset HC
              generalize (reg l T).testBit 31 = b2 at *
              go_wp2
              clear hc1
              go_loopw [9] (fun i wr => ∃ (k : Nat) (cur : Array Value), k ≤ 32 ∧ i = .int .i64 k ∧ Hid (cur = regs (fun i => (reg l T).testBit (i + 1) ^^ (decide (i < k) && (V && (2197175160 : Nat).testBit i)))) ∧ wr = w.alloc (.cells cur 69)) (fun i _ => 32 - (intOf i).toNat)
              case atStart => exact ⟨0, _, by omega, rfl, HE.out, rfl⟩
              case round =>
                clear HE
                obtain ⟨k, cur, hk, rfl, HC, rfl⟩ := hrel
                have HN : Hid ((k = 32 ∨ V = false) → cur = regs (fun i => (reg l (T + 1)).testBit i)) := by
                  intro hd
                  rw [HC.out, HS.out]
                  refine regs_ext fun i hi => ?_
                  rw [halve_bit, ← bit_out HV.out.1 HV.out.2, bit_up]
                  rcases hd with rfl | rfl
                  · simp [hi]
                  · simp
                cases V with
                | false =>
                  by_cases hlk : k < 32
                  · go_wp2
                    go_roundw
                    case rel => exact ⟨T + 1, by omega, by omega, cur, HN.out (by simp), rfl⟩
                    case measure => simp [intOf]; omega
                  · go_wp2
                    go_roundw
                    case rel => exact ⟨T + 1, by omega, by omega, cur, HN.out (by simp), rfl⟩
                    case measure => simp [intOf]; omega
                | true =>
                  by_cases hlk : k < 32
                  · obtain ⟨b, hb2⟩ : ∃ b, (reg l T).testBit (k + 1) = b := ⟨_, rfl⟩
                    have hc1 : cur[k]? = some (.bool b) := by rw [HC.out, regs_at _ hlk, hb2]; simp
                    have htb := turn_bit k
                    have hnext : ∀ cur', (cur' = if (2197175160 : Nat).testBit k then cur.setIfInBounds k (.bool !b) else cur) → cur' = regs (fun i => (reg l T).testBit (i + 1) ^^ (decide (i < k + 1) && (true && (2197175160 : Nat).testBit i))) := by
                      rintro cur' rfl
                      rw [HC.out]
                      cases ht : (2197175160 : Nat).testBit k with
                      | true =>
                        rw [if_pos rfl, regs_set]
                        refine regs_ext fun i _ => ?_
                        by_cases h : i = k
                        · subst h; simp [ht, hb2]
                        · simp [h, show i < k + 1 ↔ i < k by omega]
                      | false =>
                        rw [if_neg (by simp)]
                        refine regs_ext fun i _ => ?_
                        by_cases h : i = k
                        · subst h; simp [ht]
                        · simp [show i < k + 1 ↔ i < k by omega]
                    have HX := Lib.hid hnext
                    clear hnext HC HN hb2
                    cases ht : (2197175160 : Nat).testBit k with
                    | true =>
                      rw [ht] at htb
                      have HT := Lib.hid ht
                      clear ht
                      go_wp2
                      go_roundw
                      case rel => exact ⟨.int .i64 ((k : Int) + 1), _, _, _, _, _, _, _, _, _, _, _, _, _, _, _, _, _, ⟨k + 1, _, by omega, by go_num, HX.out _ (by rw [HT.out]; rfl), rfl⟩, rfl⟩
                      case measure => simp [intOf]; omega
                    | false =>
                      rw [ht] at htb
                      have HT := Lib.hid ht
                      clear ht
                      go_wp2
                      go_roundw
                      case rel => exact ⟨.int .i64 ((k : Int) + 1), _, _, _, _, _, _, _, _, _, _, _, _, _, _, _, _, _, ⟨k + 1, _, by omega, by go_num, HX.out _ (by rw [HT.out]; rfl), rfl⟩, rfl⟩
                      case measure => simp [intOf]; omega
                  · obtain rfl : k = 32 := by omega
                    go_wp2
                    go_roundw
                    case rel => first | exact ⟨T + 1, by omega, by omega, cur, HN.out (by simp), rfl⟩ | exact ⟨T + 1, cur, by omega, by go_num, HN.out (by simp), rfl⟩
                    case measure => simp [intOf]; omega
        · have hTn : T = 8 * n := by omega
          have hT1 : reg l T = run entry 4294967295 l := by rw [hTn, ← HR.out.len]; exact reg_all l
          have hSl : run entry 4294967295 l < 4294967296 := by rw [← hT1]; exact reg_lt l T
          have HK : Hid (crc entry l = 4294967295 - run entry 4294967295 l) := rfl
          obtain ⟨S, hS⟩ : ∃ S, run entry 4294967295 l = S := ⟨_, rfl⟩
          have hcu : cur = regs (fun i => S.testBit i) := by rw [HC.out, hT1, hS]
          rw [hS] at hSl
          have HK2 : Hid (crc entry l = 4294967295 - S) := by show _ = _; rw [HK.out, hS]
          have HCU := Lib.hid hcu
          have HSL := Lib.hid hSl
          clear hTn hT1 HK hS hcu hSl HC
          go_wp2
          go_loop [10, 11] (fun v i => ∃ (j X : Nat) (z : Int), j ≤ 32 ∧ z ≤ 31 - j ∧ 31 - j ≤ z ∧ i = .int .i64 z ∧ v = .int .u32 (X : Int) ∧ X ≤ 4294967295 ∧ Hid (X = cnt S j)) (fun _ i => (intOf i + 1).toNat)
          case atStart => exact ⟨0, 0, 31, by omega, by omega, by omega, rfl, rfl, by omega, rfl⟩
          case round =>
            obtain ⟨j, X, z, hj, hz1, hz2, rfl, rfl, hX, HX⟩ := hrel
            by_cases hlj : j < 32
            · obtain ⟨m, hm⟩ : ∃ m : Nat, z = (m : Int) := ⟨31 - j, by omega⟩
              subst hm
              obtain ⟨b, hb2⟩ : ∃ b, S.testBit m = b := ⟨_, rfl⟩
              have hc1 : cur[m]? = some (.bool b) := by rw [HCU.out, regs_at _ (by omega), hb2]
              have hbd : cnt S (j + 1) ≤ 4294967295 := by
                rw [cnt_all HSL.out (j + 1) (by omega)]
                exact Nat.le_trans (Nat.div_le_self _ _) (by omega)
              have hcs : cnt S (j + 1) = 2 * X + (if b then 0 else 1) := by
                show 2 * cnt S j + (if S.testBit (31 - j) then 0 else 1) = _
                rw [show 31 - j = m from by omega, hb2, ← HX.out]
              rw [hcs] at hbd
              have HCS := Lib.hid hcs
              clear hcs hb2
              cases b with
              | true =>
                simp only [if_true, Nat.add_zero] at hbd
                go_wp2
                go_round
                case rel => exact ⟨j + 1, 2 * X, (m : Int) - 1, by omega, by omega, by omega, by go_num, by go_num, by omega, by show _ = _; rw [HCS.out]; rfl⟩
                case measure => simp [intOf]
              | false =>
                simp only [Bool.false_eq_true, if_false] at hbd
                go_wp2
                go_round
                case rel => exact ⟨j + 1, 2 * X + 1, (m : Int) - 1, by omega, by omega, by omega, by go_num, by go_num, by omega, by show _ = _; rw [HCS.out]; rfl⟩
                case measure => simp [intOf]
            · obtain rfl : z = -1 := by omega
              have hj32 : j = 32 := by omega
              have HJ : Hid (X = 4294967295 - S) := by
                show _ = _
                rw [HX.out, hj32, cnt_all HSL.out 32 (by omega)]
                simp
              clear hj32
              go_wp2
              go_ret
              refine ⟨ret_int ?_, (Below.refl _ _).alloc (Nat.le_refl _) _⟩
              rw [HK2.out, HJ.out]
end Go.Proofs.Ytfibkpjodhcppaa
