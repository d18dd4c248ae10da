/- What is right: within, headed, numbered, RightAsk, rightInfo. -/
import Derived.Test.YtmiapegecoaccaaRows
import Derived.Test.YtmiapegecoaccaaRwK
import Derived.Test.YtmiapegecoaccaaUnseal
import Derived.Test.YtmiapegecoaccaaBlobs
import Derived.Shelf.RegionOpenPlain
import Derived.Deep.LoopGhost
import Derived.Lib.SliceRun
import Derived.Deep.QuietTactic
import Derived.BigQuiet
import Derived.LaidEqlPtr
import Derived.Laws.ResultCell
import Derived.Deep.Upon
import Derived.WalkSpells
import Derived.WalkLawsBesides
namespace Go.Proofs.Ytmiapegecoaccaa
open Go.RowKit Go.Coop
set_option maxRecDepth 100000
/-- a call that tells this and turns nothing that was there -/
def Told (w : World) (q : Bool) (e : Ending) (w' : World) : Prop := e = .returned (.bool q) ∧ Below w.heap.size w w'
section
variable (w : World)
theorem within_q (n least most : Int) {q : Bool} (hq : decide (least ≤ n ∧ n ≤ most) = q) : Calls Try.prog 33 #[.int .i64 n, .int .i64 least, .int .i64 most] w fun e w' => e = .returned (.bool q) ∧ w = w' := by
  by_cases h1 : least ≤ n
  · by_cases h2 : n ≤ most
    · obtain rfl : q = true := by rw [← hq]; simp; omega
      clear hq
      go_enter Try.func33, Try.ntmps33
      go_wp2
      go_ret
      exact ⟨rfl, rfl⟩
    · obtain rfl : q = false := by rw [← hq]; simp; omega
      clear hq
      go_enter Try.func33, Try.ntmps33
      go_wp2
      go_ret
      exact ⟨rfl, rfl⟩
  · obtain rfl : q = false := by rw [← hq]; simp; omega
    clear hq
    go_enter Try.func33, Try.ntmps33
    go_wp2
    go_ret
    exact ⟨rfl, rfl⟩
theorem headed_q (l s o : Int) {q : Bool} (hq : decide (HeadOk l s o) = q) : Calls Try.prog 31 #[.int .i64 l, .int .i64 s, .int .u8 o] w fun e w' => e = .returned (.bool q) ∧ w = w' := by
  by_cases h1 : 1 ≤ l ∧ l ≤ 1099511627776
  · have k1 := Lib.hid (decide_eq_true h1)
    by_cases h2 : 1 ≤ s ∧ s ≤ 1099511627776
    · have k2 := Lib.hid (decide_eq_true h2)
      by_cases h3 : 1 ≤ o
      · by_cases h4 : o ≤ 6
        · obtain rfl : q = true := by rw [← hq]; exact decide_eq_true (by unfold HeadOk; omega)
          clear hq h1 h2
          go_enter Try.func31, Try.ntmps31
          go_wp2_with fail
          refine (within_q _ l 1 1099511627776 k1.out).mono ?_
          rintro e w' ⟨rfl, rfl⟩
          go_wp2_with fail
          refine (within_q _ s 1 1099511627776 k2.out).mono ?_
          rintro e w' ⟨rfl, rfl⟩
          go_wp2
          go_ret
          exact ⟨rfl, rfl⟩
        · obtain rfl : q = false := by rw [← hq]; exact decide_eq_false (by unfold HeadOk; omega)
          have e4 : decide (o ≤ 6) = false := decide_eq_false h4
          clear hq h1 h2
          go_enter Try.func31, Try.ntmps31
          go_wp2_with fail
          refine (within_q _ l 1 1099511627776 k1.out).mono ?_
          rintro e w' ⟨rfl, rfl⟩
          go_wp2_with fail
          refine (within_q _ s 1 1099511627776 k2.out).mono ?_
          rintro e w' ⟨rfl, rfl⟩
          go_wp2
          go_ret
          exact ⟨rfl, rfl⟩
      · obtain rfl : q = false := by rw [← hq]; exact decide_eq_false (by unfold HeadOk; omega)
        clear hq h1 h2
        go_enter Try.func31, Try.ntmps31
        go_wp2_with fail
        refine (within_q _ l 1 1099511627776 k1.out).mono ?_
        rintro e w' ⟨rfl, rfl⟩
        go_wp2_with fail
        refine (within_q _ s 1 1099511627776 k2.out).mono ?_
        rintro e w' ⟨rfl, rfl⟩
        go_wp2
        go_ret
        exact ⟨rfl, rfl⟩
    · have k2 := Lib.hid (decide_eq_false h2)
      obtain rfl : q = false := by rw [← hq]; exact decide_eq_false (by unfold HeadOk; omega)
      clear hq h1 h2
      go_enter Try.func31, Try.ntmps31
      go_wp2_with fail
      refine (within_q _ l 1 1099511627776 k1.out).mono ?_
      rintro e w' ⟨rfl, rfl⟩
      go_wp2_with fail
      refine (within_q _ s 1 1099511627776 k2.out).mono ?_
      rintro e w' ⟨rfl, rfl⟩
      go_wp2
      go_ret
      exact ⟨rfl, rfl⟩
  · have k1 := Lib.hid (decide_eq_false h1)
    obtain rfl : q = false := by rw [← hq]; exact decide_eq_false (by unfold HeadOk; omega)
    clear hq h1
    go_enter Try.func31, Try.ntmps31
    go_wp2_with fail
    refine (within_q _ l 1 1099511627776 k1.out).mono ?_
    rintro e w' ⟨rfl, rfl⟩
    go_wp2
    go_ret
    exact ⟨rfl, rfl⟩
theorem numbered_q (s i v p : Int) {q : Bool} (hq : decide (NumOk s i v p) = q) : Calls Try.prog 32 #[.int .i64 s, .int .i64 i, .int .i64 v, .int .i64 p] w fun e w' => e = .returned (.bool q) ∧ w = w' := by
  by_cases h1 : 0 ≤ s ∧ s ≤ 1099511627776
  · have k1 := Lib.hid (decide_eq_true h1)
    by_cases h2 : 0 ≤ i ∧ i ≤ 254
    · have k2 := Lib.hid (decide_eq_true h2)
      have k3 := Lib.hid (show decide (p ≤ v ∧ v ≤ 1099511627776) = q by rw [← hq]; exact decide_eq_decide.2 (by unfold NumOk; omega))
      clear hq h1 h2
      go_enter Try.func32, Try.ntmps32
      go_wp2_with fail
      refine (within_q _ s 0 1099511627776 k1.out).mono ?_
      rintro e w' ⟨rfl, rfl⟩
      go_wp2_with fail
      refine (within_q _ i 0 254 k2.out).mono ?_
      rintro e w' ⟨rfl, rfl⟩
      go_wp2_with fail
      refine (within_q _ v p 1099511627776 k3.out).mono ?_
      rintro e w' ⟨rfl, rfl⟩
      go_wp2
      go_ret
      exact ⟨rfl, rfl⟩
    · have k2 := Lib.hid (decide_eq_false h2)
      obtain rfl : q = false := by rw [← hq]; exact decide_eq_false (by unfold NumOk; omega)
      clear hq h1 h2
      go_enter Try.func32, Try.ntmps32
      go_wp2_with fail
      refine (within_q _ s 0 1099511627776 k1.out).mono ?_
      rintro e w' ⟨rfl, rfl⟩
      go_wp2_with fail
      refine (within_q _ i 0 254 k2.out).mono ?_
      rintro e w' ⟨rfl, rfl⟩
      go_wp2
      go_ret
      exact ⟨rfl, rfl⟩
  · have k1 := Lib.hid (decide_eq_false h1)
    obtain rfl : q = false := by rw [← hq]; exact decide_eq_false (by unfold NumOk; omega)
    clear hq h1
    go_enter Try.func32, Try.ntmps32
    go_wp2_with fail
    refine (within_q _ s 0 1099511627776 k1.out).mono ?_
    rintro e w' ⟨rfl, rfl⟩
    go_wp2
    go_ret
    exact ⟨rfl, rfl⟩
theorem ended_b {p q : Bool} (h : p = q) : Ending.returned (Value.bool p) = Ending.returned (Value.bool q) := by rw [h]
set_option maxHeartbeats 2000000 in
theorem rightA_is (l s o t i v : Int) (bs : List UInt8) (A : Option Addr) (n c : Nat) (hn : bs.length = n) {q : Bool} (hq : decide (RightA ⟨l, s, o, t, i, v, bs⟩) = q) : Calls Try.prog 10 #[.agg #[.int .i64 l, .int .i64 s, .int .u8 o, .int .i64 t, .int .i64 i, .int .i64 v, .slice A n c]] w (Told w q) := by

  by_cases o1 : o = 1
  · subst o1
    have hL : leastV 1 = 1 := by unfold leastV; simp
    have hM : mostB 1 = 65536 := by unfold mostB; simp
    have hR : RightA ⟨l, s, 1, t, i, v, bs⟩ ↔ HeadOk l s 1 ∧ NumOk t i v 1 ∧ (n : Int) ≤ 65536 := by unfold RightA; simp only [hn, hL, hM]
    have hq2 : decide (HeadOk l s 1 ∧ NumOk t i v 1 ∧ (n : Int) ≤ 65536) = q := by rw [← hq]; exact decide_eq_decide.2 hR.symm
    clear hq
    have hq := hq2
    clear hq2
    clear hR
    clear hL hM hn
    by_cases h1 : HeadOk l s 1
    · have k1 := Lib.hid (decide_eq_true h1)
      by_cases h2 : NumOk t i v 1
      · have k2 := Lib.hid (decide_eq_true h2)
        by_cases h3 : (n : Int) ≤ 65536
        · obtain rfl : q = true := by rw [← hq]; exact decide_eq_true ⟨h1, h2, h3⟩
          clear hq h1 h2
          go_enter Try.func10, Try.ntmps10
          go_wp2_with fail
          refine (headed_q _ l s 1 k1.out).mono ?_
          rintro e w' ⟨rfl, rfl⟩
          go_wp2_with fail
          refine (numbered_q _ t i v 1 k2.out).mono ?_
          rintro e w' ⟨rfl, rfl⟩
          go_wp2
          go_ret
          exact ⟨by first | rfl | exact ended_b (decide_eq_true (by omega)), (Below.refl _ _).alloc (Nat.le_refl _) _⟩
        · obtain rfl : q = false := by rw [← hq]; exact decide_eq_false fun h => h3 h.2.2
          have h3' : 65536 < (n : Int) := by omega
          clear hq h1 h2
          go_enter Try.func10, Try.ntmps10
          go_wp2_with fail
          refine (headed_q _ l s 1 k1.out).mono ?_
          rintro e w' ⟨rfl, rfl⟩
          go_wp2_with fail
          refine (numbered_q _ t i v 1 k2.out).mono ?_
          rintro e w' ⟨rfl, rfl⟩
          go_wp2
          go_ret
          exact ⟨ended_b (decide_eq_false (by omega)), (Below.refl _ _).alloc (Nat.le_refl _) _⟩
      · have k2 := Lib.hid (decide_eq_false h2)
        obtain rfl : q = false := by rw [← hq]; exact decide_eq_false fun h => h2 h.2.1
        clear hq h1 h2
        go_enter Try.func10, Try.ntmps10
        go_wp2_with fail
        refine (headed_q _ l s 1 k1.out).mono ?_
        rintro e w' ⟨rfl, rfl⟩
        go_wp2_with fail
        refine (numbered_q _ t i v 1 k2.out).mono ?_
        rintro e w' ⟨rfl, rfl⟩
        go_wp2
        go_ret
        exact ⟨rfl, (Below.refl _ _).alloc (Nat.le_refl _) _⟩
    · have k1 := Lib.hid (decide_eq_false h1)
      obtain rfl : q = false := by rw [← hq]; exact decide_eq_false fun h => h1 h.1
      clear hq h1
      go_enter Try.func10, Try.ntmps10
      go_wp2_with fail
      refine (headed_q _ l s 1 k1.out).mono ?_
      rintro e w' ⟨rfl, rfl⟩
      go_wp2
      go_ret
      exact ⟨rfl, (Below.refl _ _).alloc (Nat.le_refl _) _⟩
  by_cases o4 : o = 4
  · subst o4
    have hL : leastV 4 = 0 := by unfold leastV; simp
    have hM : mostB 4 = 0 := by unfold mostB; simp
    have hR : RightA ⟨l, s, 4, t, i, v, bs⟩ ↔ HeadOk l s 4 ∧ NumOk t i v 0 ∧ (n : Int) ≤ 0 := by unfold RightA; simp only [hn, hL, hM]
    have hq2 : decide (HeadOk l s 4 ∧ NumOk t i v 0 ∧ (n : Int) ≤ 0) = q := by rw [← hq]; exact decide_eq_decide.2 hR.symm
    clear hq
    have hq := hq2
    clear hq2
    clear hR
    clear hL hM hn
    by_cases h1 : HeadOk l s 4
    · have k1 := Lib.hid (decide_eq_true h1)
      by_cases h2 : NumOk t i v 0
      · have k2 := Lib.hid (decide_eq_true h2)
        by_cases h3 : (n : Int) ≤ 0
        · obtain rfl : q = true := by rw [← hq]; exact decide_eq_true ⟨h1, h2, h3⟩
          clear hq h1 h2
          go_enter Try.func10, Try.ntmps10
          go_wp2_with fail
          refine (headed_q _ l s 4 k1.out).mono ?_
          rintro e w' ⟨rfl, rfl⟩
          go_wp2_with fail
          refine (numbered_q _ t i v 0 k2.out).mono ?_
          rintro e w' ⟨rfl, rfl⟩
          go_wp2
          go_ret
          exact ⟨by first | rfl | exact ended_b (decide_eq_true (by omega)), (Below.refl _ _).alloc (Nat.le_refl _) _⟩
        · obtain rfl : q = false := by rw [← hq]; exact decide_eq_false fun h => h3 h.2.2
          have h3' : 0 < (n : Int) := by omega
          clear hq h1 h2
          go_enter Try.func10, Try.ntmps10
          go_wp2_with fail
          refine (headed_q _ l s 4 k1.out).mono ?_
          rintro e w' ⟨rfl, rfl⟩
          go_wp2_with fail
          refine (numbered_q _ t i v 0 k2.out).mono ?_
          rintro e w' ⟨rfl, rfl⟩
          go_wp2
          go_ret
          exact ⟨ended_b (decide_eq_false (by omega)), (Below.refl _ _).alloc (Nat.le_refl _) _⟩
      · have k2 := Lib.hid (decide_eq_false h2)
        obtain rfl : q = false := by rw [← hq]; exact decide_eq_false fun h => h2 h.2.1
        clear hq h1 h2
        go_enter Try.func10, Try.ntmps10
        go_wp2_with fail
        refine (headed_q _ l s 4 k1.out).mono ?_
        rintro e w' ⟨rfl, rfl⟩
        go_wp2_with fail
        refine (numbered_q _ t i v 0 k2.out).mono ?_
        rintro e w' ⟨rfl, rfl⟩
        go_wp2
        go_ret
        exact ⟨rfl, (Below.refl _ _).alloc (Nat.le_refl _) _⟩
    · have k1 := Lib.hid (decide_eq_false h1)
      obtain rfl : q = false := by rw [← hq]; exact decide_eq_false fun h => h1 h.1
      clear hq h1
      go_enter Try.func10, Try.ntmps10
      go_wp2_with fail
      refine (headed_q _ l s 4 k1.out).mono ?_
      rintro e w' ⟨rfl, rfl⟩
      go_wp2
      go_ret
      exact ⟨rfl, (Below.refl _ _).alloc (Nat.le_refl _) _⟩
  by_cases o5 : o = 5
  · subst o5
    have hL : leastV 5 = 0 := by unfold leastV; simp
    have hM : mostB 5 = 0 := by unfold mostB; simp
    have hR : RightA ⟨l, s, 5, t, i, v, bs⟩ ↔ HeadOk l s 5 ∧ NumOk t i v 0 ∧ (n : Int) ≤ 0 := by unfold RightA; simp only [hn, hL, hM]
    have hq2 : decide (HeadOk l s 5 ∧ NumOk t i v 0 ∧ (n : Int) ≤ 0) = q := by rw [← hq]; exact decide_eq_decide.2 hR.symm
    clear hq
    have hq := hq2
    clear hq2
    clear hR
    clear hL hM hn
    by_cases h1 : HeadOk l s 5
    · have k1 := Lib.hid (decide_eq_true h1)
      by_cases h2 : NumOk t i v 0
      · have k2 := Lib.hid (decide_eq_true h2)
        by_cases h3 : (n : Int) ≤ 0
        · obtain rfl : q = true := by rw [← hq]; exact decide_eq_true ⟨h1, h2, h3⟩
          clear hq h1 h2
          go_enter Try.func10, Try.ntmps10
          go_wp2_with fail
          refine (headed_q _ l s 5 k1.out).mono ?_
          rintro e w' ⟨rfl, rfl⟩
          go_wp2_with fail
          refine (numbered_q _ t i v 0 k2.out).mono ?_
          rintro e w' ⟨rfl, rfl⟩
          go_wp2
          go_ret
          exact ⟨by first | rfl | exact ended_b (decide_eq_true (by omega)), (Below.refl _ _).alloc (Nat.le_refl _) _⟩
        · obtain rfl : q = false := by rw [← hq]; exact decide_eq_false fun h => h3 h.2.2
          have h3' : 0 < (n : Int) := by omega
          clear hq h1 h2
          go_enter Try.func10, Try.ntmps10
          go_wp2_with fail
          refine (headed_q _ l s 5 k1.out).mono ?_
          rintro e w' ⟨rfl, rfl⟩
          go_wp2_with fail
          refine (numbered_q _ t i v 0 k2.out).mono ?_
          rintro e w' ⟨rfl, rfl⟩
          go_wp2
          go_ret
          exact ⟨ended_b (decide_eq_false (by omega)), (Below.refl _ _).alloc (Nat.le_refl _) _⟩
      · have k2 := Lib.hid (decide_eq_false h2)
        obtain rfl : q = false := by rw [← hq]; exact decide_eq_false fun h => h2 h.2.1
        clear hq h1 h2
        go_enter Try.func10, Try.ntmps10
        go_wp2_with fail
        refine (headed_q _ l s 5 k1.out).mono ?_
        rintro e w' ⟨rfl, rfl⟩
        go_wp2_with fail
        refine (numbered_q _ t i v 0 k2.out).mono ?_
        rintro e w' ⟨rfl, rfl⟩
        go_wp2
        go_ret
        exact ⟨rfl, (Below.refl _ _).alloc (Nat.le_refl _) _⟩
    · have k1 := Lib.hid (decide_eq_false h1)
      obtain rfl : q = false := by rw [← hq]; exact decide_eq_false fun h => h1 h.1
      clear hq h1
      go_enter Try.func10, Try.ntmps10
      go_wp2_with fail
      refine (headed_q _ l s 5 k1.out).mono ?_
      rintro e w' ⟨rfl, rfl⟩
      go_wp2
      go_ret
      exact ⟨rfl, (Below.refl _ _).alloc (Nat.le_refl _) _⟩
  have b1 : (o == 1) = false := by simpa using o1
  have b4 : (o == 4) = false := by simpa using o4
  have b5 : (o == 5) = false := by simpa using o5
  have HO := Lib.hid (And.intro o1 (And.intro o4 o5))
  clear o1 o4 o5
  have hL : leastV o = 1 := by unfold leastV; simp [HO.out.2.1, HO.out.2.2]
  have hM : mostB o = 0 := by unfold mostB; simp [HO.out.1]
  have hR : RightA ⟨l, s, o, t, i, v, bs⟩ ↔ HeadOk l s o ∧ NumOk t i v 1 ∧ (n : Int) ≤ 0 := by unfold RightA; simp only [hn, hL, hM]
  have hq2 : decide (HeadOk l s o ∧ NumOk t i v 1 ∧ (n : Int) ≤ 0) = q := by rw [← hq]; exact decide_eq_decide.2 hR.symm
  clear hq
  have hq := hq2
  clear hq2
  clear hR
  clear hL hM hn
  by_cases h1 : HeadOk l s o
  · have k1 := Lib.hid (decide_eq_true h1)
    by_cases h2 : NumOk t i v 1
    · have k2 := Lib.hid (decide_eq_true h2)
      by_cases h3 : (n : Int) ≤ 0
      · obtain rfl : q = true := by rw [← hq]; exact decide_eq_true ⟨h1, h2, h3⟩
        clear hq h1 h2
        go_enter Try.func10, Try.ntmps10
        go_wp2_with fail
        refine (headed_q _ l s o k1.out).mono ?_
        rintro e w' ⟨rfl, rfl⟩
        go_wp2_with fail
        refine (numbered_q _ t i v 1 k2.out).mono ?_
        rintro e w' ⟨rfl, rfl⟩
        go_wp2
        go_ret
        exact ⟨by first | rfl | exact ended_b (decide_eq_true (by omega)), (Below.refl _ _).alloc (Nat.le_refl _) _⟩
      · obtain rfl : q = false := by rw [← hq]; exact decide_eq_false fun h => h3 h.2.2
        have h3' : 0 < (n : Int) := by omega
        clear hq h1 h2
        go_enter Try.func10, Try.ntmps10
        go_wp2_with fail
        refine (headed_q _ l s o k1.out).mono ?_
        rintro e w' ⟨rfl, rfl⟩
        go_wp2_with fail
        refine (numbered_q _ t i v 1 k2.out).mono ?_
        rintro e w' ⟨rfl, rfl⟩
        go_wp2
        go_ret
        exact ⟨ended_b (decide_eq_false (by omega)), (Below.refl _ _).alloc (Nat.le_refl _) _⟩
    · have k2 := Lib.hid (decide_eq_false h2)
      obtain rfl : q = false := by rw [← hq]; exact decide_eq_false fun h => h2 h.2.1
      clear hq h1 h2
      go_enter Try.func10, Try.ntmps10
      go_wp2_with fail
      refine (headed_q _ l s o k1.out).mono ?_
      rintro e w' ⟨rfl, rfl⟩
      go_wp2_with fail
      refine (numbered_q _ t i v 1 k2.out).mono ?_
      rintro e w' ⟨rfl, rfl⟩
      go_wp2
      go_ret
      exact ⟨rfl, (Below.refl _ _).alloc (Nat.le_refl _) _⟩
  · have k1 := Lib.hid (decide_eq_false h1)
    obtain rfl : q = false := by rw [← hq]; exact decide_eq_false fun h => h1 h.1
    clear hq h1
    go_enter Try.func10, Try.ntmps10
    go_wp2_with fail
    refine (headed_q _ l s o k1.out).mono ?_
    rintro e w' ⟨rfl, rfl⟩
    go_wp2
    go_ret
    exact ⟨rfl, (Below.refl _ _).alloc (Nat.le_refl _) _⟩
theorem info_is (t i v z : Int) {q : Bool} (hq : decide (InfOk ⟨t, i, v, z⟩) = q) : Calls Try.prog 34 #[.agg #[.int .i64 t, .int .i64 i, .int .i64 v, .int .u8 z]] w (Told w q) := by
  have hR : InfOk ⟨t, i, v, z⟩ ↔ NumOk t i v 1 ∧ (z = 1 ∨ z = 2) := Iff.rfl
  have hq2 : decide (NumOk t i v 1 ∧ (z = 1 ∨ z = 2)) = q := by rw [← hq]; exact decide_eq_decide.2 hR.symm
  clear hq hR
  have hq := hq2
  clear hq2
  by_cases h1 : NumOk t i v 1
  · have k1 := Lib.hid (decide_eq_true h1)
    by_cases z1 : z = 1
    · subst z1
      obtain rfl : q = true := by rw [← hq]; exact decide_eq_true ⟨h1, .inl rfl⟩
      clear hq h1
      go_enter Try.func34, Try.ntmps34
      go_wp2_with fail
      refine (numbered_q _ t i v 1 k1.out).mono ?_
      rintro e w' ⟨rfl, rfl⟩
      go_wp2
      go_ret
      exact ⟨rfl, (Below.refl _ _).alloc (Nat.le_refl _) _⟩
    · have b1 : (z == 1) = false := by simpa using z1
      by_cases z2 : z = 2
      · subst z2
        obtain rfl : q = true := by rw [← hq]; exact decide_eq_true ⟨h1, .inr rfl⟩
        clear hq h1 z1
        go_enter Try.func34, Try.ntmps34
        go_wp2_with fail
        refine (numbered_q _ t i v 1 k1.out).mono ?_
        rintro e w' ⟨rfl, rfl⟩
        go_wp2
        go_ret
        exact ⟨rfl, (Below.refl _ _).alloc (Nat.le_refl _) _⟩
      · have b2 : (z == 2) = false := by simpa using z2
        obtain rfl : q = false := by rw [← hq]; exact decide_eq_false fun h => h.2.elim z1 z2
        clear hq h1 z1 z2
        go_enter Try.func34, Try.ntmps34
        go_wp2_with fail
        refine (numbered_q _ t i v 1 k1.out).mono ?_
        rintro e w' ⟨rfl, rfl⟩
        go_wp2
        go_ret
        exact ⟨rfl, (Below.refl _ _).alloc (Nat.le_refl _) _⟩
  · have k1 := Lib.hid (decide_eq_false h1)
    obtain rfl : q = false := by rw [← hq]; exact decide_eq_false fun h => h1 h.1
    clear hq h1
    go_enter Try.func34, Try.ntmps34
    go_wp2_with fail
    refine (numbered_q _ t i v 1 k1.out).mono ?_
    rintro e w' ⟨rfl, rfl⟩
    go_wp2
    go_ret
    exact ⟨rfl, (Below.refl _ _).alloc (Nat.le_refl _) _⟩
end
end Go.Proofs.Ytmiapegecoaccaa
