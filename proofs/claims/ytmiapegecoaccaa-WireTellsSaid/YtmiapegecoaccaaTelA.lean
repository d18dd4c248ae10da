/- The reference's named, headed, RightAsk. -/
import Derived.Test.YtmiapegecoaccaaWirD
namespace Go.Proofs.Ytmiapegecoaccaa
open Go.RowKit Go.Coop
set_option maxRecDepth 100000
section
variable (w : World)
theorem named_q (s i v p : Int) {q : Bool} (hq : decide (NumOk s i v p) = q) : Calls Try.prog 46 #[.int .i64 s, .int .i64 i, .int .i64 v, .int .i64 p] w fun e w' => e = .returned (.bool q) ∧ w = w' := by
  by_cases h0 : 0 ≤ s
  · skip
    by_cases h1 : s ≤ 1099511627776
    · skip
      by_cases h2 : 0 ≤ i
      · skip
        by_cases h3 : i < 255
        · skip
          by_cases h4 : p ≤ v
          · skip
            by_cases h5 : v ≤ 1099511627776
            · skip
              obtain rfl : q = true := by rw [← hq]; exact decide_eq_true (by unfold NumOk; omega)
              clear hq
              go_enter Try.func46, Try.ntmps46
              go_wp2
              go_ret
              exact ⟨by first | rfl | exact ended_b (decide_eq_false (by omega)), rfl⟩
            · skip
              obtain rfl : q = false := by rw [← hq]; exact decide_eq_false (by unfold NumOk; omega)
              clear hq
              have hn : 1099511627776 < v := by omega
              clear h5
              go_enter Try.func46, Try.ntmps46
              go_wp2
              go_ret
              exact ⟨by first | rfl | exact ended_b (decide_eq_false (by omega)), rfl⟩
          · skip
            obtain rfl : q = false := by rw [← hq]; exact decide_eq_false (by unfold NumOk; omega)
            clear hq
            have hn : v < p := by omega
            clear h4
            go_enter Try.func46, Try.ntmps46
            go_wp2
            go_ret
            exact ⟨by first | rfl | exact ended_b (decide_eq_false (by omega)), rfl⟩
        · skip
          obtain rfl : q = false := by rw [← hq]; exact decide_eq_false (by unfold NumOk; omega)
          clear hq
          have hn : 255 ≤ i := by omega
          clear h3
          go_enter Try.func46, Try.ntmps46
          go_wp2
          go_ret
          exact ⟨by first | rfl | exact ended_b (decide_eq_false (by omega)), rfl⟩
      · skip
        obtain rfl : q = false := by rw [← hq]; exact decide_eq_false (by unfold NumOk; omega)
        clear hq
        have hn : i < 0 := by omega
        clear h2
        go_enter Try.func46, Try.ntmps46
        go_wp2
        go_ret
        exact ⟨by first | rfl | exact ended_b (decide_eq_false (by omega)), rfl⟩
    · skip
      obtain rfl : q = false := by rw [← hq]; exact decide_eq_false (by unfold NumOk; omega)
      clear hq
      have hn : 1099511627776 < s := by omega
      clear h1
      go_enter Try.func46, Try.ntmps46
      go_wp2
      go_ret
      exact ⟨by first | rfl | exact ended_b (decide_eq_false (by omega)), rfl⟩
  · skip
    obtain rfl : q = false := by rw [← hq]; exact decide_eq_false (by unfold NumOk; omega)
    clear hq
    have hn : s < 0 := by omega
    clear h0
    go_enter Try.func46, Try.ntmps46
    go_wp2
    go_ret
    exact ⟨by first | rfl | exact ended_b (decide_eq_false (by omega)), rfl⟩
theorem rheaded_q (l s o : Int) {q : Bool} (hq : decide (HeadOk l s o) = q) : Calls Try.prog 45 #[.int .i64 l, .int .i64 s, .int .u8 o] w fun e w' => e = .returned (.bool q) ∧ w = w' := by
  by_cases h0 : 1 ≤ l
  · skip
    by_cases h1 : l ≤ 1099511627776
    · skip
      by_cases h2 : 1 ≤ s
      · skip
        by_cases h3 : s ≤ 1099511627776
        · skip
          by_cases h4 : 1 ≤ o
          · skip
            by_cases h5 : o ≤ 6
            · skip
              obtain rfl : q = true := by rw [← hq]; exact decide_eq_true (by unfold HeadOk; omega)
              clear hq
              go_enter Try.func45, Try.ntmps45
              go_wp2
              go_ret
              exact ⟨by first | rfl | exact ended_b (decide_eq_false (by omega)), rfl⟩
            · skip
              obtain rfl : q = false := by rw [← hq]; exact decide_eq_false (by unfold HeadOk; omega)
              clear hq
              have hn : 6 < o := by omega
              clear h5
              go_enter Try.func45, Try.ntmps45
              go_wp2
              go_ret
              exact ⟨by first | rfl | exact ended_b (decide_eq_false (by omega)), rfl⟩
          · skip
            obtain rfl : q = false := by rw [← hq]; exact decide_eq_false (by unfold HeadOk; omega)
            clear hq
            have hn : o < 1 := by omega
            clear h4
            go_enter Try.func45, Try.ntmps45
            go_wp2
            go_ret
            exact ⟨by first | rfl | exact ended_b (decide_eq_false (by omega)), rfl⟩
        · skip
          obtain rfl : q = false := by rw [← hq]; exact decide_eq_false (by unfold HeadOk; omega)
          clear hq
          have hn : 1099511627776 < s := by omega
          clear h3
          go_enter Try.func45, Try.ntmps45
          go_wp2
          go_ret
          exact ⟨by first | rfl | exact ended_b (decide_eq_false (by omega)), rfl⟩
      · skip
        obtain rfl : q = false := by rw [← hq]; exact decide_eq_false (by unfold HeadOk; omega)
        clear hq
        have hn : s < 1 := by omega
        clear h2
        go_enter Try.func45, Try.ntmps45
        go_wp2
        go_ret
        exact ⟨by first | rfl | exact ended_b (decide_eq_false (by omega)), rfl⟩
    · skip
      obtain rfl : q = false := by rw [← hq]; exact decide_eq_false (by unfold HeadOk; omega)
      clear hq
      have hn : 1099511627776 < l := by omega
      clear h1
      go_enter Try.func45, Try.ntmps45
      go_wp2
      go_ret
      exact ⟨by first | rfl | exact ended_b (decide_eq_false (by omega)), rfl⟩
  · skip
    obtain rfl : q = false := by rw [← hq]; exact decide_eq_false (by unfold HeadOk; omega)
    clear hq
    have hn : l < 1 := by omega
    clear h0
    go_enter Try.func45, Try.ntmps45
    go_wp2
    go_ret
    exact ⟨by first | rfl | exact ended_b (decide_eq_false (by omega)), rfl⟩
set_option maxHeartbeats 2000000 in
theorem rrightA_is (l s o t i v : Int) (bs : List UInt8) (A : Option Addr) (n c : Nat) (hn : bs.length = n) {q : Bool} (hq : decide (RightA ⟨l, s, o, t, i, v, bs⟩) = q) : Calls Try.prog 22 #[.agg #[.int .i64 l, .int .i64 s, .int .u8 o, .int .i64 t, .int .i64 i, .int .i64 v, .slice A n c]] w (Told w q) := by
  by_cases h1 : HeadOk l s o
  · have k1 := Lib.hid (decide_eq_true h1)
    have ho : o = 1 ∨ o = 2 ∨ o = 3 ∨ o = 4 ∨ o = 5 ∨ o = 6 := by have := h1.2.2; omega
    rcases ho with rfl | rfl | rfl | rfl | rfl | rfl
    · have hR : RightA ⟨l, s, 1, t, i, v, bs⟩ ↔ HeadOk l s 1 ∧ NumOk t i v 1 ∧ (n : Int) ≤ 65536 := by unfold RightA; simp only [hn, show leastV 1 = 1 from by decide, show mostB 1 = 65536 from by decide]
      have hq2 : decide (HeadOk l s 1 ∧ NumOk t i v 1 ∧ (n : Int) ≤ 65536) = q := by rw [← hq]; exact decide_eq_decide.2 hR.symm
      clear hq hR hn
      by_cases h2 : NumOk t i v 1
      · have k2 := Lib.hid (decide_eq_true h2)
        by_cases h3 : (n : Int) ≤ 65536
        · obtain rfl : q = true := by rw [← hq2]; exact decide_eq_true ⟨h1, h2, h3⟩
          clear hq2 h1 h2
          go_enter Try.func22, Try.ntmps22
          go_wp2_with fail
          refine (rheaded_q _ l s 1 k1.out).mono ?_
          rintro e w' ⟨rfl, rfl⟩
          go_wp2_with fail
          refine (named_q _ t i v 1 k2.out).mono ?_
          rintro e w' ⟨rfl, rfl⟩
          go_wp2
          go_ret
          exact ⟨by first | rfl | exact ended_b (decide_eq_true (by omega)), (Below.refl _ _).alloc (Nat.le_refl _) _⟩
        · obtain rfl : q = false := by rw [← hq2]; exact decide_eq_false fun h => h3 h.2.2
          clear hq2 h1 h2
          go_enter Try.func22, Try.ntmps22
          go_wp2_with fail
          refine (rheaded_q _ l s 1 k1.out).mono ?_
          rintro e w' ⟨rfl, rfl⟩
          go_wp2_with fail
          refine (named_q _ t i v 1 k2.out).mono ?_
          rintro e w' ⟨rfl, rfl⟩
          go_wp2
          go_ret
          exact ⟨by first | rfl | exact ended_b (decide_eq_false (by omega)), (Below.refl _ _).alloc (Nat.le_refl _) _⟩
      · obtain rfl : q = false := by rw [← hq2]; exact decide_eq_false fun h => h2 h.2.1
        have k2 := Lib.hid (decide_eq_false h2)
        have h3 := True.intro
        clear hq2 h1 h2 h3
        go_enter Try.func22, Try.ntmps22
        go_wp2_with fail
        refine (rheaded_q _ l s 1 k1.out).mono ?_
        rintro e w' ⟨rfl, rfl⟩
        go_wp2_with fail
        refine (named_q _ t i v 1 k2.out).mono ?_
        rintro e w' ⟨rfl, rfl⟩
        go_wp2
        go_ret
        exact ⟨rfl, (Below.refl _ _).alloc (Nat.le_refl _) _⟩
    · have hR : RightA ⟨l, s, 2, t, i, v, bs⟩ ↔ HeadOk l s 2 ∧ NumOk t i v 1 ∧ (n : Int) ≤ 0 := by unfold RightA; simp only [hn, show leastV 2 = 1 from by decide, show mostB 2 = 0 from by decide]
      have hq2 : decide (HeadOk l s 2 ∧ NumOk t i v 1 ∧ (n : Int) ≤ 0) = q := by rw [← hq]; exact decide_eq_decide.2 hR.symm
      clear hq hR hn
      by_cases h2 : NumOk t i v 1
      · have k2 := Lib.hid (decide_eq_true h2)
        by_cases h3 : (n : Int) ≤ 0
        · obtain rfl : q = true := by rw [← hq2]; exact decide_eq_true ⟨h1, h2, h3⟩
          obtain hz : n = 0 := by omega
          clear hq2 h1 h2 h3
          go_enter Try.func22, Try.ntmps22
          go_wp2_with fail
          refine (rheaded_q _ l s 2 k1.out).mono ?_
          rintro e w' ⟨rfl, rfl⟩
          go_wp2_with fail
          refine (named_q _ t i v 1 k2.out).mono ?_
          rintro e w' ⟨rfl, rfl⟩
          go_wp2
          go_ret
          exact ⟨by first | rfl | exact ended_b (by simpa using hz), (Below.refl _ _).alloc (Nat.le_refl _) _⟩
        · obtain rfl : q = false := by rw [← hq2]; exact decide_eq_false fun h => h3 h.2.2
          obtain hz : ¬ n = 0 := by omega
          clear hq2 h1 h2 h3
          go_enter Try.func22, Try.ntmps22
          go_wp2_with fail
          refine (rheaded_q _ l s 2 k1.out).mono ?_
          rintro e w' ⟨rfl, rfl⟩
          go_wp2_with fail
          refine (named_q _ t i v 1 k2.out).mono ?_
          rintro e w' ⟨rfl, rfl⟩
          go_wp2
          go_ret
          exact ⟨by first | rfl | exact ended_b (by simpa using hz), (Below.refl _ _).alloc (Nat.le_refl _) _⟩
      · obtain rfl : q = false := by rw [← hq2]; exact decide_eq_false fun h => h2 h.2.1
        have k2 := Lib.hid (decide_eq_false h2)
        have h3 := True.intro
        clear hq2 h1 h2 h3
        go_enter Try.func22, Try.ntmps22
        go_wp2_with fail
        refine (rheaded_q _ l s 2 k1.out).mono ?_
        rintro e w' ⟨rfl, rfl⟩
        go_wp2_with fail
        refine (named_q _ t i v 1 k2.out).mono ?_
        rintro e w' ⟨rfl, rfl⟩
        go_wp2
        go_ret
        exact ⟨rfl, (Below.refl _ _).alloc (Nat.le_refl _) _⟩
    · have hR : RightA ⟨l, s, 3, t, i, v, bs⟩ ↔ HeadOk l s 3 ∧ NumOk t i v 1 ∧ (n : Int) ≤ 0 := by unfold RightA; simp only [hn, show leastV 3 = 1 from by decide, show mostB 3 = 0 from by decide]
      have hq2 : decide (HeadOk l s 3 ∧ NumOk t i v 1 ∧ (n : Int) ≤ 0) = q := by rw [← hq]; exact decide_eq_decide.2 hR.symm
      clear hq hR hn
      by_cases h2 : NumOk t i v 1
      · have k2 := Lib.hid (decide_eq_true h2)
        by_cases h3 : (n : Int) ≤ 0
        · obtain rfl : q = true := by rw [← hq2]; exact decide_eq_true ⟨h1, h2, h3⟩
          obtain hz : n = 0 := by omega
          clear hq2 h1 h2 h3
          go_enter Try.func22, Try.ntmps22
          go_wp2_with fail
          refine (rheaded_q _ l s 3 k1.out).mono ?_
          rintro e w' ⟨rfl, rfl⟩
          go_wp2_with fail
          refine (named_q _ t i v 1 k2.out).mono ?_
          rintro e w' ⟨rfl, rfl⟩
          go_wp2
          go_ret
          exact ⟨by first | rfl | exact ended_b (by simpa using hz), (Below.refl _ _).alloc (Nat.le_refl _) _⟩
        · obtain rfl : q = false := by rw [← hq2]; exact decide_eq_false fun h => h3 h.2.2
          obtain hz : ¬ n = 0 := by omega
          clear hq2 h1 h2 h3
          go_enter Try.func22, Try.ntmps22
          go_wp2_with fail
          refine (rheaded_q _ l s 3 k1.out).mono ?_
          rintro e w' ⟨rfl, rfl⟩
          go_wp2_with fail
          refine (named_q _ t i v 1 k2.out).mono ?_
          rintro e w' ⟨rfl, rfl⟩
          go_wp2
          go_ret
          exact ⟨by first | rfl | exact ended_b (by simpa using hz), (Below.refl _ _).alloc (Nat.le_refl _) _⟩
      · obtain rfl : q = false := by rw [← hq2]; exact decide_eq_false fun h => h2 h.2.1
        have k2 := Lib.hid (decide_eq_false h2)
        have h3 := True.intro
        clear hq2 h1 h2 h3
        go_enter Try.func22, Try.ntmps22
        go_wp2_with fail
        refine (rheaded_q _ l s 3 k1.out).mono ?_
        rintro e w' ⟨rfl, rfl⟩
        go_wp2_with fail
        refine (named_q _ t i v 1 k2.out).mono ?_
        rintro e w' ⟨rfl, rfl⟩
        go_wp2
        go_ret
        exact ⟨rfl, (Below.refl _ _).alloc (Nat.le_refl _) _⟩
    · have hR : RightA ⟨l, s, 4, t, i, v, bs⟩ ↔ HeadOk l s 4 ∧ NumOk t i v 0 ∧ (n : Int) ≤ 0 := by unfold RightA; simp only [hn, show leastV 4 = 0 from by decide, show mostB 4 = 0 from by decide]
      have hq2 : decide (HeadOk l s 4 ∧ NumOk t i v 0 ∧ (n : Int) ≤ 0) = q := by rw [← hq]; exact decide_eq_decide.2 hR.symm
      clear hq hR hn
      by_cases h2 : NumOk t i v 0
      · have k2 := Lib.hid (decide_eq_true h2)
        by_cases h3 : (n : Int) ≤ 0
        · obtain rfl : q = true := by rw [← hq2]; exact decide_eq_true ⟨h1, h2, h3⟩
          obtain hz : n = 0 := by omega
          clear hq2 h1 h2 h3
          go_enter Try.func22, Try.ntmps22
          go_wp2_with fail
          refine (rheaded_q _ l s 4 k1.out).mono ?_
          rintro e w' ⟨rfl, rfl⟩
          go_wp2_with fail
          refine (named_q _ t i v 0 k2.out).mono ?_
          rintro e w' ⟨rfl, rfl⟩
          go_wp2
          go_ret
          exact ⟨by first | rfl | exact ended_b (by simpa using hz), (Below.refl _ _).alloc (Nat.le_refl _) _⟩
        · obtain rfl : q = false := by rw [← hq2]; exact decide_eq_false fun h => h3 h.2.2
          obtain hz : ¬ n = 0 := by omega
          clear hq2 h1 h2 h3
          go_enter Try.func22, Try.ntmps22
          go_wp2_with fail
          refine (rheaded_q _ l s 4 k1.out).mono ?_
          rintro e w' ⟨rfl, rfl⟩
          go_wp2_with fail
          refine (named_q _ t i v 0 k2.out).mono ?_
          rintro e w' ⟨rfl, rfl⟩
          go_wp2
          go_ret
          exact ⟨by first | rfl | exact ended_b (by simpa using hz), (Below.refl _ _).alloc (Nat.le_refl _) _⟩
      · obtain rfl : q = false := by rw [← hq2]; exact decide_eq_false fun h => h2 h.2.1
        have k2 := Lib.hid (decide_eq_false h2)
        have h3 := True.intro
        clear hq2 h1 h2 h3
        go_enter Try.func22, Try.ntmps22
        go_wp2_with fail
        refine (rheaded_q _ l s 4 k1.out).mono ?_
        rintro e w' ⟨rfl, rfl⟩
        go_wp2_with fail
        refine (named_q _ t i v 0 k2.out).mono ?_
        rintro e w' ⟨rfl, rfl⟩
        go_wp2
        go_ret
        exact ⟨rfl, (Below.refl _ _).alloc (Nat.le_refl _) _⟩
    · have hR : RightA ⟨l, s, 5, t, i, v, bs⟩ ↔ HeadOk l s 5 ∧ NumOk t i v 0 ∧ (n : Int) ≤ 0 := by unfold RightA; simp only [hn, show leastV 5 = 0 from by decide, show mostB 5 = 0 from by decide]
      have hq2 : decide (HeadOk l s 5 ∧ NumOk t i v 0 ∧ (n : Int) ≤ 0) = q := by rw [← hq]; exact decide_eq_decide.2 hR.symm
      clear hq hR hn
      by_cases h2 : NumOk t i v 0
      · have k2 := Lib.hid (decide_eq_true h2)
        by_cases h3 : (n : Int) ≤ 0
        · obtain rfl : q = true := by rw [← hq2]; exact decide_eq_true ⟨h1, h2, h3⟩
          obtain hz : n = 0 := by omega
          clear hq2 h1 h2 h3
          go_enter Try.func22, Try.ntmps22
          go_wp2_with fail
          refine (rheaded_q _ l s 5 k1.out).mono ?_
          rintro e w' ⟨rfl, rfl⟩
          go_wp2_with fail
          refine (named_q _ t i v 0 k2.out).mono ?_
          rintro e w' ⟨rfl, rfl⟩
          go_wp2
          go_ret
          exact ⟨by first | rfl | exact ended_b (by simpa using hz), (Below.refl _ _).alloc (Nat.le_refl _) _⟩
        · obtain rfl : q = false := by rw [← hq2]; exact decide_eq_false fun h => h3 h.2.2
          obtain hz : ¬ n = 0 := by omega
          clear hq2 h1 h2 h3
          go_enter Try.func22, Try.ntmps22
          go_wp2_with fail
          refine (rheaded_q _ l s 5 k1.out).mono ?_
          rintro e w' ⟨rfl, rfl⟩
          go_wp2_with fail
          refine (named_q _ t i v 0 k2.out).mono ?_
          rintro e w' ⟨rfl, rfl⟩
          go_wp2
          go_ret
          exact ⟨by first | rfl | exact ended_b (by simpa using hz), (Below.refl _ _).alloc (Nat.le_refl _) _⟩
      · obtain rfl : q = false := by rw [← hq2]; exact decide_eq_false fun h => h2 h.2.1
        have k2 := Lib.hid (decide_eq_false h2)
        have h3 := True.intro
        clear hq2 h1 h2 h3
        go_enter Try.func22, Try.ntmps22
        go_wp2_with fail
        refine (rheaded_q _ l s 5 k1.out).mono ?_
        rintro e w' ⟨rfl, rfl⟩
        go_wp2_with fail
        refine (named_q _ t i v 0 k2.out).mono ?_
        rintro e w' ⟨rfl, rfl⟩
        go_wp2
        go_ret
        exact ⟨rfl, (Below.refl _ _).alloc (Nat.le_refl _) _⟩
    · have hR : RightA ⟨l, s, 6, t, i, v, bs⟩ ↔ HeadOk l s 6 ∧ NumOk t i v 1 ∧ (n : Int) ≤ 0 := by unfold RightA; simp only [hn, show leastV 6 = 1 from by decide, show mostB 6 = 0 from by decide]
      have hq2 : decide (HeadOk l s 6 ∧ NumOk t i v 1 ∧ (n : Int) ≤ 0) = q := by rw [← hq]; exact decide_eq_decide.2 hR.symm
      clear hq hR hn
      by_cases h2 : NumOk t i v 1
      · have k2 := Lib.hid (decide_eq_true h2)
        by_cases h3 : (n : Int) ≤ 0
        · obtain rfl : q = true := by rw [← hq2]; exact decide_eq_true ⟨h1, h2, h3⟩
          obtain hz : n = 0 := by omega
          clear hq2 h1 h2 h3
          go_enter Try.func22, Try.ntmps22
          go_wp2_with fail
          refine (rheaded_q _ l s 6 k1.out).mono ?_
          rintro e w' ⟨rfl, rfl⟩
          go_wp2_with fail
          refine (named_q _ t i v 1 k2.out).mono ?_
          rintro e w' ⟨rfl, rfl⟩
          go_wp2
          go_ret
          exact ⟨by first | rfl | exact ended_b (by simpa using hz), (Below.refl _ _).alloc (Nat.le_refl _) _⟩
        · obtain rfl : q = false := by rw [← hq2]; exact decide_eq_false fun h => h3 h.2.2
          obtain hz : ¬ n = 0 := by omega
          clear hq2 h1 h2 h3
          go_enter Try.func22, Try.ntmps22
          go_wp2_with fail
          refine (rheaded_q _ l s 6 k1.out).mono ?_
          rintro e w' ⟨rfl, rfl⟩
          go_wp2_with fail
          refine (named_q _ t i v 1 k2.out).mono ?_
          rintro e w' ⟨rfl, rfl⟩
          go_wp2
          go_ret
          exact ⟨by first | rfl | exact ended_b (by simpa using hz), (Below.refl _ _).alloc (Nat.le_refl _) _⟩
      · obtain rfl : q = false := by rw [← hq2]; exact decide_eq_false fun h => h2 h.2.1
        have k2 := Lib.hid (decide_eq_false h2)
        have h3 := True.intro
        clear hq2 h1 h2 h3
        go_enter Try.func22, Try.ntmps22
        go_wp2_with fail
        refine (rheaded_q _ l s 6 k1.out).mono ?_
        rintro e w' ⟨rfl, rfl⟩
        go_wp2_with fail
        refine (named_q _ t i v 1 k2.out).mono ?_
        rintro e w' ⟨rfl, rfl⟩
        go_wp2
        go_ret
        exact ⟨rfl, (Below.refl _ _).alloc (Nat.le_refl _) _⟩
  · have k1 := Lib.hid (decide_eq_false h1)
    obtain rfl : q = false := by rw [← hq]; exact decide_eq_false fun h => h1 h.1
    clear hq h1
    go_enter Try.func22, Try.ntmps22
    go_wp2_with fail
    refine (rheaded_q _ l s o k1.out).mono ?_
    rintro e w' ⟨rfl, rfl⟩
    go_wp2
    go_ret
    exact ⟨rfl, (Below.refl _ _).alloc (Nat.le_refl _) _⟩
end
end Go.Proofs.Ytmiapegecoaccaa
