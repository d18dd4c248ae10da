import Derived.Test.YtiiomeieihiloaaTells
namespace Go.Proofs.Ytiiomeieihiloaa
open Go.RowKit Go.Coop

theorem log_k0 (g a : Nat) (w : World) (h : FldAt w g) (h0 : a = 0) : Calls Try.prog 14 #[.pointer (some ⟨g, 0, none⟩), .int .u8 (a : Int)] w fun e w' => e = .returned (.tuple #[.int .i64 0, .int .i64 20]) ∧ w = w' := by
  subst h0; exact log_zero g w h
theorem rlog_k0 (a : Nat) (w : World) (h0 : a = 0) : Calls Try.prog 15 #[.int .u8 (a : Int)] w fun e w' => e = .returned (.tuple #[.int .i64 0, .int .i64 20]) ∧ w = w' := by
  subst h0; exact rlog_zero w
theorem rlog_k (a q : Nat) (w : World) (ha : a < 256) (h0 : a ≠ 0) (e : lg a = q) : Calls Try.prog 15 #[.int .u8 (a : Int)] w fun e w' => e = .returned (.tuple #[.int .i64 (q : Int), .int .i64 0]) ∧ w = w' := by
  subst e; exact rlog_any a w ha h0
theorem rmul_k (a b q : Nat) (w : World) (ha : a < 256) (hb : b < 256) (e : mul a b = q) : Calls Try.prog 12 #[.int .u8 (a : Int), .int .u8 (b : Int)] w fun e w' => e = .returned (.int .u8 (q : Int)) ∧ w = w' := by
  subst e; exact rmul_any a b w ha hb
theorem pw_two_lg (a : Nat) (ha : a < 256) (h0 : a ≠ 0) : pw 2 (lg a) = a := by
  rw [pw_lg 2 _ (by omega), show lg 2 = 1 from by decide +kernel, Nat.one_mul, (ex_lg a h0 ha).1]
theorem rd_byte (w : World) (fr : Nat × Nat) : Rd (w.alloc (.cells #[.int .u8 1] 5 fr)) (some ⟨w.heap.size, 0, none⟩) 1 [1] := Rd.one w 1 (by omega) (by omega) 5 fr

set_option maxHeartbeats 4000000 in
set_option maxRecDepth 100000 in
theorem numbers_any (w : World) : Calls Try.prog 3 #[] w fun e w' => e = .returned (.bool true) ∧ Below w.heap.size w w' := by
  go_enter Try.func3, Try.ntmps3
  go_wp2_with fail
  refine (new_any _).mono ?_
  rintro e w1 ⟨g, rfl, hf, hg, hb⟩
  have HF0 := Lib.hid hf
  have HB0 := Lib.hid hb
  clear hf hb
  go_wp2
  go_loopw [2] (fun i wr => ∃ k : Nat, k ≤ 256 ∧ i = .int .i64 k ∧ Hid (FldAt wr g) ∧ Hid (Below w.heap.size w wr)) (fun i _ => 256 - (intOf i).toNat)
  case atStart => exact ⟨0, by omega, rfl, HF0, HB0⟩
  case round =>
    obtain ⟨k, hk, rfl, HF, HB⟩ := hrel
    clear HF0 HB0
    by_cases hlt : k < 256
    · have hkw : (k : Int) % 256 = (k : Int) := by omega
      have hkd : decide ((k : Int) < 256) = true := by simp; omega
      go_wp2
      clear hkw hkd
      go_loopw [4] (fun i wr => ∃ j : Nat, j ≤ 256 ∧ i = .int .i64 j ∧ Hid (FldAt wr g) ∧ Hid (Below w.heap.size w wr)) (fun i _ => 256 - (intOf i).toNat)
      case atStart => exact ⟨0, by omega, rfl, HF, HB⟩
      case round =>
        obtain ⟨j, hj, rfl, HF2, HB2⟩ := hrel
        clear HF HB
        by_cases hjl : j < 256
        · have hjw : (j : Int) % 256 = (j : Int) := by omega
          have hxor := u8_xor_nat k j hlt hjl
          obtain ⟨X, hX⟩ : ∃ X, k ^^^ j = X := ⟨_, rfl⟩
          obtain ⟨m, hm⟩ : ∃ m, mul k j = m := ⟨_, rfl⟩
          rw [hX] at hxor
          have HX := Lib.hid hX
          have HM := Lib.hid hm
          clear hX hm
          go_wp2_with fail
          refine (mul_b g k j m _ HF2.out hlt hjl HM.out).mono ?_
          rintro e w2 ⟨rfl, hb2⟩
          have HF3 := Lib.hid (HF2.out.below hb2 HF2.out.lt)
          have HB3 := Lib.hid (HB2.out.trans (hb2.mono HB2.out.size))
          clear hb2
          go_wp2_with fail
          refine (rmul_k k j m _ hlt hjl HM.out).mono ?_
          rintro e w3 ⟨rfl, rfl⟩
          go_wp2_with fail
          refine (add_k g k j X _ HF3.out hlt hjl HX.out).mono ?_
          rintro e w3 ⟨rfl, rfl⟩
          go_wp2
          go_roundw
          case rel => exact ⟨j + 1, by omega, by go_num, HF3, HB3⟩
          case measure => simp [intOf]; omega
        · clear hj
          go_wp2_with fail
          by_cases h0 : k = 0
          · have H0 := Lib.hid h0
            have hd1 : decide (0 < (k : Int)) = false := by simp; omega
            have hd2 : decide (0 < k) = false := by simp; omega
            have hne : ((1 : Int) != (k : Int)) = true := by rw [bne, beq_eq_false_iff_ne.2 (show (1 : Int) ≠ (k : Int) by omega)]; rfl
            clear h0
            refine (log_k0 g k _ HF2.out H0.out).mono ?_
            rintro e w3 ⟨rfl, rfl⟩
            go_wp2_with fail
            refine (rlog_k0 k _ H0.out).mono ?_
            rintro e w3 ⟨rfl, rfl⟩
            go_wp2_with fail
            refine (inv_b0 g k _ HF2.out H0.out).mono ?_
            rintro e w3 ⟨rfl, n3, rfl⟩
            go_wp2_with fail
            refine (pow_k g 2 1 0 _ (by exact ⟨HF2.out.lt, HF2.out.pow, HF2.out.log⟩) (by omega) (by omega) rfl).mono ?_
            rintro e w3 ⟨rfl, rfl⟩
            go_wp2
            go_roundw
            case rel => exact ⟨k + 1, by omega, by go_num, HF2.out.drewN _, ⟨HB2.out.os, HB2.out.tape, HB2.out.output, HB2.out.size, HB2.out.block⟩⟩
            case measure => simp [intOf]; omega
          · have H0 := Lib.hid h0
            have hp1 : (0 : Int) < (k : Int) := by omega
            have hp2 : 0 < k := by omega
            obtain ⟨L, hL⟩ : ∃ L, lg k = L := ⟨_, rfl⟩
            obtain ⟨q, hq⟩ : ∃ q, quo 1 k = q := ⟨_, rfl⟩
            have hll := lg_lt k hlt
            rw [hL] at hll
            have HL := Lib.hid hL
            have HQ := Lib.hid hq
            have HQ2 : Hid (q < 256 ∧ mul q k = 1) := by
              show _ ∧ _
              rw [← hq]; exact ⟨quo_lt _ _, quo_mul 1 k (by omega) h0 hlt⟩
            have HP : Hid (pw 2 ((L : Int)).toNat = k) := by show _ = _; rw [Int.toNat_natCast, ← hL]; exact pw_two_lg k hlt h0
            clear h0 hL hq
            refine (log_k g k L _ HF2.out hlt hp2 HL.out).mono ?_
            rintro e w3 ⟨rfl, rfl⟩
            go_wp2_with fail
            refine (rlog_k k L _ hlt H0.out HL.out).mono ?_
            rintro e w3 ⟨rfl, rfl⟩
            go_wp2_with fail
            refine (inv_k g k q _ HF2.out hlt H0.out HQ.out).mono ?_
            rintro e w3 ⟨rfl, n3, rfl⟩
            go_wp2_with fail
            refine (mul_k g q k 1 _ (by exact ⟨HF2.out.lt, HF2.out.pow, HF2.out.log⟩) HQ2.out.1 hlt HQ2.out.2).mono ?_
            rintro e w3 ⟨rfl, n4, rfl⟩
            go_wp2_with fail
            refine (pow_k g 2 k L _ (by exact ⟨HF2.out.lt, HF2.out.pow, HF2.out.log⟩) (by omega) (by omega) HP.out).mono ?_
            rintro e w3 ⟨rfl, rfl⟩
            go_wp2
            go_roundw
            case rel => exact ⟨k + 1, by omega, by go_num, HF2.out.drewN _, ⟨HB2.out.os, HB2.out.tape, HB2.out.output, HB2.out.size, HB2.out.block⟩⟩
            case measure => simp [intOf]; omega
    · clear hk
      go_wp2_with fail
      refine (div_zero g 0 _ HF.out).mono ?_
      rintro e w3 ⟨rfl, n1, rfl⟩
      go_wp2_with fail
      refine (div_k g 0 9 0 _ (by exact ⟨HF.out.lt, HF.out.pow, HF.out.log⟩) (by omega) (by omega) (by omega) rfl).mono ?_
      rintro e w3 ⟨rfl, n2, rfl⟩
      go_wp2_with fail
      refine (pow_k g 0 1 0 _ (by exact ⟨HF.out.lt, HF.out.pow, HF.out.log⟩) (by omega) (by omega) (by decide +kernel)).mono ?_
      rintro e w3 ⟨rfl, rfl⟩
      go_wp2_with fail
      refine (pow_k g 0 0 5 _ (by exact ⟨HF.out.lt, HF.out.pow, HF.out.log⟩) (by omega) (by omega) (by decide +kernel)).mono ?_
      rintro e w3 ⟨rfl, rfl⟩
      go_wp2_with fail
      refine (pow_k g 7 1 (-1) _ (by exact ⟨HF.out.lt, HF.out.pow, HF.out.log⟩) (by omega) (by omega) (by decide +kernel)).mono ?_
      rintro e w3 ⟨rfl, rfl⟩
      go_wp2_with fail
      refine (pow_k g 7 1 255 _ (by exact ⟨HF.out.lt, HF.out.pow, HF.out.log⟩) (by omega) (by omega) (pw_255 7 (by omega))).mono ?_
      rintro e w3 ⟨rfl, rfl⟩
      generalize hW : wr.drewN _ = W at *
      have HF5 : Hid (FldAt W g) := by show FldAt W g; rw [← hW]; exact ⟨HF.out.lt, HF.out.pow, HF.out.log⟩
      have HB5 : Hid (Below w.heap.size w W) := by show Below _ _ _; rw [← hW]; exact ⟨HB.out.os, HB.out.tape, HB.out.output, HB.out.size, HB.out.block⟩
      clear hW HF HB
      go_wp2_with fail
      refine (dot_b g none 0 0 [] _ 1 1 [1] 0 _ (HF5.out.alloc _) (Rd.nil _ _) (rd_byte W (0, 0)) (by omega) rfl).mono ?_
      rintro e W6 ⟨rfl, hb6⟩
      have HF6 := Lib.hid ((HF5.out.alloc (.cells #[.int .u8 1] 5)).below hb6 (HF5.out.alloc _).lt)
      have HB6 : Hid (Below w.heap.size w W6) := (HB5.out.alloc HB5.out.size (.cells #[.int .u8 1] 5)).trans (hb6.mono (HB5.out.alloc HB5.out.size (.cells #[.int .u8 1] 5)).size)
      clear hb6
      go_wp2_with fail
      refine (lay_k g none 0 0 [] 1 _ 1 1 [1] [] _ (HF6.out.alloc _) (Rd.nil _ _) (rd_byte W6 (0, 0)) (by omega) (by omega) rfl).mono ?_
      rintro e W7 ⟨A7, c7, rfl, ho7, hb7⟩
      have HB7 : Hid (Below w.heap.size w W7) := (HB6.out.alloc HB6.out.size (.cells #[.int .u8 1] 5)).trans (hb7.mono (HB6.out.alloc HB6.out.size (.cells #[.int .u8 1] 5)).size)
      clear ho7 hb7
      go_wp2_with fail
      refine (awake_any _).mono ?_
      rintro e w9 ⟨rfl, hb9⟩
      have H9 : Hid (Below w.heap.size w w9) := HB7.out.trans (hb9.mono HB7.out.size)
      clear hb9
      go_wp2
      go_ret
      exact ⟨rfl, H9.out⟩
end Go.Proofs.Ytiiomeieihiloaa
