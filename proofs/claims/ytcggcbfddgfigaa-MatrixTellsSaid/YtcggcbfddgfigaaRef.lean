import Derived.Test.YtcggcbfddgfigaaMakes
import Derived.Test.YtcggcbfddgfigaaLists
import Derived.Test.YtcggcbfddgfigaaRefP
namespace Go.Proofs.Ytcggcbfddgfigaa
open Go.RowKit Go.Coop

theorem pl_step {a b k P : Nat} (ha : a < 256) (hk : k < 8) (hP : P = pl a b k) : ∃ S M P' : Nat, (b : Int) / 2 ^ k = (S : Int) ∧ wrap64 ((a : Int) * 2 ^ k) = (M : Int) ∧ bits BinOp.xor IntKind.i64 (P : Int) (M : Int) = (P' : Int) ∧ (S % 2 = 1 → P' = pl a b (k + 1) ∧ P' < 32768) ∧ (S % 2 ≠ 1 → P = pl a b (k + 1)) := by
  have h2 : 2 ^ k ≤ 128 := by
    have := Nat.pow_le_pow_right (n := 2) (by omega) (show k ≤ 7 by omega)
    simpa using this
  have h3 : a * 2 ^ k ≤ 255 * 128 := Nat.mul_le_mul (by omega) h2
  have hPl := pl_lt a b ha k (by omega)
  refine ⟨b / 2 ^ k, a * 2 ^ k, P ^^^ (a * 2 ^ k), by push_cast; rfl, ?_, i64_xor_nat _ _ (by omega) (by omega), fun h => ?_, fun h => ?_⟩
  · have e : (a : Int) * 2 ^ k = ((a * 2 ^ k : Nat) : Int) := by push_cast; rfl
    rw [e]; unfold wrap64; omega
  · have hs : pl a b (k + 1) = P ^^^ (a * 2 ^ k) := by simp only [pl]; rw [if_pos h, hP]
    exact ⟨hs.symm, by rw [← hs]; exact pl_lt a b ha (k + 1) (by omega)⟩
  · simp only [pl]; rw [if_neg h, hP]
theorem rdc_step {p k Q : Nat} (hp : p < 32768) (hk : k < 7) (hQ : Q = rdc p k) : ∃ Q' : Nat, bits BinOp.xor IntKind.i64 (Q : Int) ((285 * 2 ^ (6 - k) : Nat) : Int) = (Q' : Int) ∧ (Q / 2 ^ (14 - k) % 2 = 1 → Q' = rdc p (k + 1) ∧ Q' < 32768) ∧ (Q / 2 ^ (14 - k) % 2 ≠ 1 → Q = rdc p (k + 1)) := by
  have h2 : 2 ^ (6 - k) ≤ 64 := by
    have := Nat.pow_le_pow_right (n := 2) (by omega) (show 6 - k ≤ 6 by omega)
    simpa using this
  have h3 : 285 * 2 ^ (6 - k) ≤ 285 * 64 := Nat.mul_le_mul (by omega) h2
  have hQl := rdc_lt p hp k (by omega)
  refine ⟨Q ^^^ (285 * 2 ^ (6 - k)), i64_xor_nat _ _ (by omega) (by omega), fun h => ?_, fun h => ?_⟩
  · have hs : rdc p (k + 1) = Q ^^^ (285 * 2 ^ (6 - k)) := by simp only [rdc]; rw [← hQ, if_pos h]
    exact ⟨hs.symm, by rw [← hs]; exact rdc_lt p hp (k + 1) (by omega)⟩
  · simp only [rdc]; rw [← hQ, if_neg h]

set_option maxRecDepth 100000 in
theorem rmul_any (a b : Nat) (w : World) (ha : a < 256) (hb : b < 256) : Calls Try.prog 45 #[.int .u8 (a : Int), .int .u8 (b : Int)] w fun e w' => e = .returned (.int .u8 (mul a b : Int)) ∧ w = w' := by
  go_enter Try.func45, Try.ntmps45
  go_wp2
  go_loop [5, 6] (fun p i => ∃ k P : Nat, k ≤ 8 ∧ i = .int .i64 k ∧ p = .int .i64 P ∧ P ≤ 32767 ∧ Hid (P = pl a b k)) (fun _ i => 8 - (intOf i).toNat)
  case atStart => exact ⟨0, 0, by omega, rfl, rfl, by omega, rfl⟩
  case round =>
    obtain ⟨k, P, hk, rfl, rfl, hP, HP⟩ := hrel
    by_cases hlt : k < 8
    · obtain ⟨S, M, P', h1, h2, h3, h4, h5⟩ := pl_step (b := b) ha hlt HP.out
      have HS := Lib.hid (And.intro h4 h5)
      clear h4 h5
      by_cases hs : S % 2 = 1
      · have hq : ((S : Int) % 2 == 1) = true := beq_iff_eq.2 (by omega)
        have h6 := HS.out.1 hs
        have H6 := Lib.hid h6
        clear hs h6
        go_wp2
        go_round
        case rel => exact ⟨k + 1, P', by omega, by go_num, rfl, by have := H6.out.2; omega, H6.out.1⟩
        case measure => simp [intOf]; omega
      · have hq : ((S : Int) % 2 == 1) = false := beq_eq_false_iff_ne.2 (by omega)
        have h6 := HS.out.2 hs
        have H6 := Lib.hid h6
        clear hs h6
        go_wp2
        go_round
        case rel => exact ⟨k + 1, P, by omega, by go_num, rfl, by omega, H6.out⟩
        case measure => simp [intOf]; omega
    · obtain rfl : k = 8 := by omega
      go_wp2
      go_loop [5, 7] (fun p i => ∃ (k Q : Nat) (z : Int), k ≤ 7 ∧ z ≤ 14 - k ∧ 14 - k ≤ z ∧ i = .int .i64 z ∧ p = .int .i64 Q ∧ Q ≤ 32767 ∧ Hid (Q = rdc P k)) (fun _ i => (intOf i).toNat)
      case atStart => exact ⟨0, P, 14, by omega, by omega, by omega, rfl, rfl, by omega, rfl⟩
      case round =>
        obtain ⟨k, Q, z, hk, hz1, hz2, rfl, rfl, hQ, HQ⟩ := hrel
        obtain rfl | rfl | rfl | rfl | rfl | rfl | rfl | rfl : k = 0 ∨ k = 1 ∨ k = 2 ∨ k = 3 ∨ k = 4 ∨ k = 5 ∨ k = 6 ∨ k = 7 := by omega
        · obtain rfl : z = 14 := by omega
          obtain ⟨Q', h3, h4, h5⟩ := rdc_step (k := 0) (show P < 32768 by omega) (by omega) HQ.out
          have h3' : bits BinOp.xor IntKind.i64 (Q : Int) 18240 = (Q' : Int) := h3
          by_cases hs : Q / 2 ^ (14 - 0) % 2 = 1
          · have hq : ((Q : Int) / 16384 % 2 == 1) = true := beq_iff_eq.2 (by simp only [Nat.reduceSub, Nat.reducePow] at hs; omega)
            have H6 := Lib.hid (h4 hs)
            clear hs h3 h4 h5
            go_wp2
            go_round
            case rel => exact ⟨1, Q', 13, by omega, by omega, by omega, by go_num, rfl, by have := H6.out.2; omega, H6.out.1⟩
            case measure => simp [intOf]
          · have hq : ((Q : Int) / 16384 % 2 == 1) = false := beq_eq_false_iff_ne.2 (by simp only [Nat.reduceSub, Nat.reducePow] at hs; omega)
            have H6 := Lib.hid (h5 hs)
            clear hs h3 h4 h5
            go_wp2
            go_round
            case rel => exact ⟨1, Q, 13, by omega, by omega, by omega, by go_num, rfl, by omega, H6.out⟩
            case measure => simp [intOf]
        · obtain rfl : z = 13 := by omega
          obtain ⟨Q', h3, h4, h5⟩ := rdc_step (k := 1) (show P < 32768 by omega) (by omega) HQ.out
          have h3' : bits BinOp.xor IntKind.i64 (Q : Int) 9120 = (Q' : Int) := h3
          by_cases hs : Q / 2 ^ (14 - 1) % 2 = 1
          · have hq : ((Q : Int) / 8192 % 2 == 1) = true := beq_iff_eq.2 (by simp only [Nat.reduceSub, Nat.reducePow] at hs; omega)
            have H6 := Lib.hid (h4 hs)
            clear hs h3 h4 h5
            go_wp2
            go_round
            case rel => exact ⟨2, Q', 12, by omega, by omega, by omega, by go_num, rfl, by have := H6.out.2; omega, H6.out.1⟩
            case measure => simp [intOf]
          · have hq : ((Q : Int) / 8192 % 2 == 1) = false := beq_eq_false_iff_ne.2 (by simp only [Nat.reduceSub, Nat.reducePow] at hs; omega)
            have H6 := Lib.hid (h5 hs)
            clear hs h3 h4 h5
            go_wp2
            go_round
            case rel => exact ⟨2, Q, 12, by omega, by omega, by omega, by go_num, rfl, by omega, H6.out⟩
            case measure => simp [intOf]
        · obtain rfl : z = 12 := by omega
          obtain ⟨Q', h3, h4, h5⟩ := rdc_step (k := 2) (show P < 32768 by omega) (by omega) HQ.out
          have h3' : bits BinOp.xor IntKind.i64 (Q : Int) 4560 = (Q' : Int) := h3
          by_cases hs : Q / 2 ^ (14 - 2) % 2 = 1
          · have hq : ((Q : Int) / 4096 % 2 == 1) = true := beq_iff_eq.2 (by simp only [Nat.reduceSub, Nat.reducePow] at hs; omega)
            have H6 := Lib.hid (h4 hs)
            clear hs h3 h4 h5
            go_wp2
            go_round
            case rel => exact ⟨3, Q', 11, by omega, by omega, by omega, by go_num, rfl, by have := H6.out.2; omega, H6.out.1⟩
            case measure => simp [intOf]
          · have hq : ((Q : Int) / 4096 % 2 == 1) = false := beq_eq_false_iff_ne.2 (by simp only [Nat.reduceSub, Nat.reducePow] at hs; omega)
            have H6 := Lib.hid (h5 hs)
            clear hs h3 h4 h5
            go_wp2
            go_round
            case rel => exact ⟨3, Q, 11, by omega, by omega, by omega, by go_num, rfl, by omega, H6.out⟩
            case measure => simp [intOf]
        · obtain rfl : z = 11 := by omega
          obtain ⟨Q', h3, h4, h5⟩ := rdc_step (k := 3) (show P < 32768 by omega) (by omega) HQ.out
          have h3' : bits BinOp.xor IntKind.i64 (Q : Int) 2280 = (Q' : Int) := h3
          by_cases hs : Q / 2 ^ (14 - 3) % 2 = 1
          · have hq : ((Q : Int) / 2048 % 2 == 1) = true := beq_iff_eq.2 (by simp only [Nat.reduceSub, Nat.reducePow] at hs; omega)
            have H6 := Lib.hid (h4 hs)
            clear hs h3 h4 h5
            go_wp2
            go_round
            case rel => exact ⟨4, Q', 10, by omega, by omega, by omega, by go_num, rfl, by have := H6.out.2; omega, H6.out.1⟩
            case measure => simp [intOf]
          · have hq : ((Q : Int) / 2048 % 2 == 1) = false := beq_eq_false_iff_ne.2 (by simp only [Nat.reduceSub, Nat.reducePow] at hs; omega)
            have H6 := Lib.hid (h5 hs)
            clear hs h3 h4 h5
            go_wp2
            go_round
            case rel => exact ⟨4, Q, 10, by omega, by omega, by omega, by go_num, rfl, by omega, H6.out⟩
            case measure => simp [intOf]
        · obtain rfl : z = 10 := by omega
          obtain ⟨Q', h3, h4, h5⟩ := rdc_step (k := 4) (show P < 32768 by omega) (by omega) HQ.out
          have h3' : bits BinOp.xor IntKind.i64 (Q : Int) 1140 = (Q' : Int) := h3
          by_cases hs : Q / 2 ^ (14 - 4) % 2 = 1
          · have hq : ((Q : Int) / 1024 % 2 == 1) = true := beq_iff_eq.2 (by simp only [Nat.reduceSub, Nat.reducePow] at hs; omega)
            have H6 := Lib.hid (h4 hs)
            clear hs h3 h4 h5
            go_wp2
            go_round
            case rel => exact ⟨5, Q', 9, by omega, by omega, by omega, by go_num, rfl, by have := H6.out.2; omega, H6.out.1⟩
            case measure => simp [intOf]
          · have hq : ((Q : Int) / 1024 % 2 == 1) = false := beq_eq_false_iff_ne.2 (by simp only [Nat.reduceSub, Nat.reducePow] at hs; omega)
            have H6 := Lib.hid (h5 hs)
            clear hs h3 h4 h5
            go_wp2
            go_round
            case rel => exact ⟨5, Q, 9, by omega, by omega, by omega, by go_num, rfl, by omega, H6.out⟩
            case measure => simp [intOf]
        · obtain rfl : z = 9 := by omega
          obtain ⟨Q', h3, h4, h5⟩ := rdc_step (k := 5) (show P < 32768 by omega) (by omega) HQ.out
          have h3' : bits BinOp.xor IntKind.i64 (Q : Int) 570 = (Q' : Int) := h3
          by_cases hs : Q / 2 ^ (14 - 5) % 2 = 1
          · have hq : ((Q : Int) / 512 % 2 == 1) = true := beq_iff_eq.2 (by simp only [Nat.reduceSub, Nat.reducePow] at hs; omega)
            have H6 := Lib.hid (h4 hs)
            clear hs h3 h4 h5
            go_wp2
            go_round
            case rel => exact ⟨6, Q', 8, by omega, by omega, by omega, by go_num, rfl, by have := H6.out.2; omega, H6.out.1⟩
            case measure => simp [intOf]
          · have hq : ((Q : Int) / 512 % 2 == 1) = false := beq_eq_false_iff_ne.2 (by simp only [Nat.reduceSub, Nat.reducePow] at hs; omega)
            have H6 := Lib.hid (h5 hs)
            clear hs h3 h4 h5
            go_wp2
            go_round
            case rel => exact ⟨6, Q, 8, by omega, by omega, by omega, by go_num, rfl, by omega, H6.out⟩
            case measure => simp [intOf]
        · obtain rfl : z = 8 := by omega
          obtain ⟨Q', h3, h4, h5⟩ := rdc_step (k := 6) (show P < 32768 by omega) (by omega) HQ.out
          have h3' : bits BinOp.xor IntKind.i64 (Q : Int) 285 = (Q' : Int) := h3
          by_cases hs : Q / 2 ^ (14 - 6) % 2 = 1
          · have hq : ((Q : Int) / 256 % 2 == 1) = true := beq_iff_eq.2 (by simp only [Nat.reduceSub, Nat.reducePow] at hs; omega)
            have H6 := Lib.hid (h4 hs)
            clear hs h3 h4 h5
            go_wp2
            go_round
            case rel => exact ⟨7, Q', 7, by omega, by omega, by omega, by go_num, rfl, by have := H6.out.2; omega, H6.out.1⟩
            case measure => simp [intOf]
          · have hq : ((Q : Int) / 256 % 2 == 1) = false := beq_eq_false_iff_ne.2 (by simp only [Nat.reduceSub, Nat.reducePow] at hs; omega)
            have H6 := Lib.hid (h5 hs)
            clear hs h3 h4 h5
            go_wp2
            go_round
            case rel => exact ⟨7, Q, 7, by omega, by omega, by omega, by go_num, rfl, by omega, H6.out⟩
            case measure => simp [intOf]
        · obtain rfl : z = 7 := by omega
          have hm : Q = mul a b := by rw [HQ.out, HP.out]; exact rdc_mul a b ha hb
          have hl := mul_lt a b
          have hQ2 : (Q : Int) % 256 = (Q : Int) := by omega
          have HM := Lib.hid hm
          clear hm hl
          go_wp2
          go_ret
          exact ⟨ret_int (by rw [HM.out]), rfl⟩
/-- by squares -/
theorem rpow_low (a n : Int) (w : World) (hn : n ≤ 0) : Calls Try.prog 58 #[.int .u8 a, .int .i64 n] w fun e w' => e = .returned (.int .u8 1) ∧ w = w' := by
  go_enter Try.func58, Try.ntmps58
  go_wp2
  go_loop [0, 1, 5] (fun v0 v1 v5 => v0 = .int .u8 a ∧ v1 = .int .i64 n ∧ v5 = .int .u8 1) (fun _ _ _ => 0)
  case atStart => exact ⟨rfl, rfl, rfl⟩
  case round =>
    obtain ⟨rfl, rfl, rfl⟩ := hrel
    go_wp2
    go_ret
    exact ⟨rfl, rfl⟩
set_option maxRecDepth 100000 in
theorem rpow_any (a n : Nat) (w : World) (ha : a < 256) (hn : n ≤ 9223372036854775807) : Calls Try.prog 58 #[.int .u8 (a : Int), .int .i64 (n : Int)] w fun e w' => e = .returned (.int .u8 (pw a n : Int)) ∧ w = w' := by
  go_enter Try.func58, Try.ntmps58
  go_wp2
  go_loop [0, 1, 5] (fun v0 v1 v5 => ∃ b k x : Nat, b < 256 ∧ k ≤ n ∧ x < 256 ∧ v0 = .int .u8 (b : Int) ∧ v1 = .int .i64 (k : Int) ∧ v5 = .int .u8 (x : Int) ∧ Hid (mul x (pw b k) = pw a n)) (fun _ v1 _ => (intOf v1).toNat)
  case atStart => exact ⟨a, n, 1, ha, Nat.le_refl _, by omega, rfl, rfl, rfl, by show mul 1 (pw a n) = _; rw [mul_comm, mul_one _ (pw_lt a n)]⟩
  case round =>
    obtain ⟨b, k, x, hb, hk, hx, rfl, rfl, rfl, HE⟩ := hrel
    by_cases h0 : 0 < k
    · have HB := Lib.hid (pw_dbl b (k / 2))
      by_cases hs : k % 2 = 1
      · have hq : ((k : Int) % 2 == 1) = true := beq_iff_eq.2 (by omega)
        have H1 : Hid (mul (mul x b) (pw (mul b b) (k / 2)) = pw a n) := by
          show _ = _
          rw [HB.out, mul_assoc, mul_comm b, ← HE.out]
          show mul x (pw b (2 * (k / 2) + 1)) = _
          rw [show 2 * (k / 2) + 1 = k from by omega]
        clear hs
        go_wp2_with fail
        refine (rmul_any x b _ hx hb).mono ?_
        rintro e w' ⟨rfl, rfl⟩
        go_wp2_with fail
        refine (rmul_any b b _ hb hb).mono ?_
        rintro e w' ⟨rfl, rfl⟩
        go_wp2
        go_round
        case rel => exact ⟨mul b b, k / 2, mul x b, mul_lt _ _, by omega, mul_lt _ _, rfl, by go_num, rfl, H1.out⟩
        case measure => simp [intOf]; omega
      · have hq : ((k : Int) % 2 == 1) = false := beq_eq_false_iff_ne.2 (by omega)
        have H1 : Hid (mul x (pw (mul b b) (k / 2)) = pw a n) := by
          show _ = _
          rw [HB.out, show 2 * (k / 2) = k from by omega]
          exact HE.out
        clear hs
        go_wp2_with (go_at_call 45; refine (rmul_any b b _ hb hb).mono ?_; rintro e w' ⟨rfl, rfl⟩)
        go_round
        case rel => exact ⟨mul b b, k / 2, x, mul_lt _ _, by omega, hx, rfl, by go_num, rfl, H1.out⟩
        case measure => simp [intOf]; omega
    · obtain rfl : k = 0 := by omega
      go_wp2
      go_ret
      refine ⟨ret_int ?_, rfl⟩
      rw [← HE.out]
      show (x : Int) = (mul x 1 : Nat)
      rw [mul_one x hx]

theorem rmul_q (a b : Nat) (w : World) (ha : a < 256) (hb : b < 256) (n : Nat) : Calls Try.prog 45 #[.int .u8 (a : Int), .int .u8 (b : Int)] (w.drewN n) fun e w'' => e = .returned (.int .u8 (mul a b : Int)) ∧ ∃ m, w'' = w.drewN m :=
  (rmul_any a b (w.drewN n) ha hb).mono fun _ _ ⟨he, hw⟩ => ⟨he, n, hw.symm⟩

theorem lay_snoc {c : Nat} {l k : List UInt8} {i : Nat} {o x : UInt8} (ho : l[i]? = some o) (hx : k[i]? = some x) : (lay c l k).take (i + 1) = (lay c l k).take i ++ [lay1 c o x] := by
  rw [List.take_add_one, lay_at, ho, hx]; rfl
theorem lay_snoc' {c : Nat} {l k : List UInt8} {i : Nat} {o : UInt8} (ho : l[i]? = some o) (hx : k.length ≤ i) : (lay c l k).take (i + 1) = (lay c l k).take i ++ [o] := by
  rw [List.take_add_one, lay_here _ _ _ _ hx, ho]; rfl

set_option maxRecDepth 100000 in
theorem rlay_any (A : Option Addr) (n ca : Nat) (lo : List UInt8) (c : Nat) (B : Option Addr) (m d : Nat) (lx : List UInt8) (w : World) (ha : Rd w A n lo) (hb : Rd w B m lx) (hc : c < 256) (hn : n ≤ 140737488355320) :
    Calls Try.prog 57 #[.slice A n ca, .int .u8 (c : Int), .slice B m d] w (Fresh w n (lay c lo lx)) := by
  have HA := Lib.hid ha
  have HB := Lib.hid hb
  clear ha hb
  go_enter Try.func57, Try.ntmps57
  go_wp2
  go_loopw [7, 8] (fun v i wr => ∃ (k : Nat) (A' : Option Addr) (c' : Nat) (l' : List UInt8), k ≤ n ∧ i = .int .i64 k ∧ v = .slice A' k c' ∧ Own wr w.heap.size 5 A' k c' l' ∧ Below w.heap.size w wr ∧ Hid (l' = (lay c lo lx).take k)) (fun _ i _ => n - (intOf i).toNat)
  case atStart => exact ⟨0, none, 0, [], by omega, rfl, rfl, Own.nil _ _ _, Below.refl _ _, by show [] = _; rw [List.take_zero]⟩
  case round =>
    obtain ⟨k, A', c', l', hk, rfl, rfl, hown, hbel, HE⟩ := hrel
    have hbs := hbel.size
    by_cases hlt : k < n
    · obtain ⟨ad, o, rfl, _, ho, hco⟩ := (HA.out.below hbel (Nat.le_refl _)).at_ (k := k) (by omega)
      unfold BV at hco
      have ho' := o.toNat_lt
      obtain ⟨O, hO⟩ : ∃ O, o.toNat = O := ⟨_, rfl⟩
      rw [hO] at hco ho'
      have HO := Lib.hid hO
      have HLO := Lib.hid ho
      clear hO ho
      by_cases hkm : k < m
      · obtain ⟨bd, x, rfl, _, hx, hcx⟩ := (HB.out.below hbel (Nat.le_refl _)).at_ (k := k) (by omega)
        unfold BV at hcx
        have hx' := x.toNat_lt
        obtain ⟨X, hX⟩ : ∃ X, x.toNat = X := ⟨_, rfl⟩
        rw [hX] at hcx hx'
        have HX := Lib.hid hX
        have HS := Lib.hid (lay_snoc (c := c) HLO.out hx)
        clear hX hx
        have hxor := u8_xor_nat O (mul c X) ho' (mul_lt _ _)
        have hxl := xor_lt O (mul c X) ho' (mul_lt _ _)
        obtain ⟨R, hR⟩ : ∃ R, O ^^^ mul c X = R := ⟨_, rfl⟩
        rw [hR] at hxor hxl
        have HR := Lib.hid hR
        clear hR
        go_wp2_with (first
          | (go_at_call 45; refine (rmul_any c X _ hc hx').mono ?_; rintro e w' ⟨rfl, rfl⟩)
          | (at_builtin; refine wpList_app _ rfl (.tmp 32) (.tmp 34) _ rfl w.heap.size 5 Try.underlying26 info5 rfl (hown.alloc _) rfl (Rd.one wr _ (by omega) (by omega) 5 _) (by omega) (by simp; omega) (k + 1) rfl ?_; intro A2 c2 w2 ho2 hg2 hat2))
        go_roundw
        case rel =>
          refine ⟨k + 1, A2, c2, _, by omega, by go_num, rfl, ho2, ?_, ?_⟩
          · exact (hbel.alloc hbs _).grown hg2 (by simp; omega) (fun k hk => (hown.block k hk).1)
          · show _ = _
            rw [HS.out, HE.out]
            congr 2
            unfold lay1
            rw [HO.out, HX.out, HR.out, Int.toNat_natCast]
        case measure => simp [intOf]; omega
      · have HS := Lib.hid (lay_snoc' (c := c) (k := lx) HLO.out (by rw [HB.out.len]; omega))
        go_wp2_with (at_builtin; refine wpList_app _ rfl (.tmp 32) (.tmp 34) _ rfl w.heap.size 5 Try.underlying26 info5 rfl (hown.alloc _) rfl (Rd.one wr _ (by omega) (by omega) 5 _) (by omega) (by simp; omega) (k + 1) rfl ?_; intro A2 c2 w2 ho2 hg2 hat2)
        go_roundw
        case rel =>
          refine ⟨k + 1, A2, c2, _, by omega, by go_num, rfl, ho2, ?_, ?_⟩
          · exact (hbel.alloc hbs _).grown hg2 (by simp; omega) (fun k hk => (hown.block k hk).1)
          · show _ = _
            rw [HS.out, HE.out]
            congr 2
            rw [Int.toNat_natCast, ← HO.out, UInt8.ofNat_toNat]
        case measure => simp [intOf]; omega
    · have hkk : k = n := by omega
      have HK := Lib.hid hkk
      clear hkk
      go_wp2
      go_ret
      have e : l' = lay c lo lx := by rw [HE.out, List.take_of_length_le (by rw [lay_len, HA.out.len]; omega)]
      rw [e] at hown
      have hk2 := HK.out
      subst hk2
      exact ⟨A', c', rfl, hown, hbel⟩
end Go.Proofs.Ytcggcbfddgfigaa
