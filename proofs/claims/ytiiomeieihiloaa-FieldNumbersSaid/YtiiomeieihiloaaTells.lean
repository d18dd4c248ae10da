import Derived.Test.YtiiomeieihiloaaFLists
import Derived.Test.YtiiomeieihiloaaRef2
import Derived.Test.YtiiomeieihiloaaLaws
namespace Go.Proofs.Ytiiomeieihiloaa
open Go.RowKit Go.Coop

theorem div_both (a b : Nat) (ha : a < 256) (hb : b < 256) : ∃ Q E : Nat, (∀ (g : Nat) (w : World), FldAt w g → Calls Try.prog 18 #[.pointer (some ⟨g, 0, none⟩), .int .u8 (a : Int), .int .u8 (b : Int)] w fun e w' => e = .returned (.tuple #[.int .u8 (Q : Int), .int .i64 (E : Int)]) ∧ Below w.heap.size w w') ∧
    ∀ w : World, Calls Try.prog 22 #[.int .u8 (a : Int), .int .u8 (b : Int)] w fun e w' => e = .returned (.tuple #[.int .u8 (Q : Int), .int .i64 (E : Int)]) ∧ w = w' := by
  by_cases h0 : b = 0
  · subst h0
    exact ⟨0, 20, fun g w h => (div_zero g a w h).mono fun _ _ h => still_below h, fun w => rdiv_zero a w⟩
  · exact ⟨quo a b, 0, fun g w h => (div_any g a b w h ha hb h0).mono fun _ _ h => still_below h, fun w => rdiv_any a b w ha hb h0⟩
theorem rpow_k (a q : Nat) (x : Int) (w : World) (ha : a < 256) (hx : x ≤ 9223372036854775807) (e : pw a x.toNat = q) : Calls Try.prog 24 #[.int .u8 (a : Int), .int .i64 x] w fun e w' => e = .returned (.int .u8 (q : Int)) ∧ w = w' := by
  subst e
  by_cases h : x ≤ 0
  · rw [show x.toNat = 0 from by omega]
    exact rpow_low a x w h
  · obtain ⟨n, rfl⟩ := Int.eq_ofNat_of_zero_le (show 0 ≤ x by omega)
    rw [Int.toNat_natCast]
    exact rpow_any a n w ha (by omega)
theorem rdot_b (A : Option Addr) (n c : Nat) (la : List UInt8) (B : Option Addr) (m d : Nat) (lb : List UInt8) (q : Nat) (w : World) (ha : Rd w A n la) (hb : Rd w B m lb) (hn : n ≤ 140737488355328) (e : dot la lb = q) :
    Calls Try.prog 25 #[.slice A n c, .slice B m d] w fun e w' => e = .returned (.int .u8 (q : Int)) ∧ Below w.heap.size w w' := by
  subst e
  exact (rdot_any A n c la B m d lb w ha hb hn).mono fun _ _ h => still_below h

set_option maxRecDepth 100000 in
theorem tells_out (a b x : Int) (A : Option Addr) (n ca : Nat) (B : Option Addr) (m cb : Nat) (w : World) (h : 500 < n ∨ 500 < m) : Calls Try.prog 4 #[.int .u8 a, .int .u8 b, .int .i64 x, .slice A n ca, .slice B m cb] w fun e w' => e = .returned (.bool true) ∧ Below w.heap.size w w' := by
  by_cases h1 : 500 < n
  · have hb1 : decide (500 < (n : Int)) = true := by simp; omega
    clear h h1
    go_enter Try.func4, Try.ntmps4
    go_wp2_with fail
    refine (awake_any _).mono ?_
    rintro e w9 ⟨rfl, hb9⟩
    go_wp2
    go_ret
    exact ⟨rfl, hb9⟩
  · have hb1 : decide (500 < (n : Int)) = false := by simp; omega
    have hb2 : decide (500 < (m : Int)) = true := by simp; omega
    clear h h1
    go_enter Try.func4, Try.ntmps4
    go_wp2_with fail
    refine (awake_any _).mono ?_
    rintro e w9 ⟨rfl, hb9⟩
    go_wp2
    go_ret
    exact ⟨rfl, hb9⟩

set_option maxHeartbeats 4000000 in
set_option maxRecDepth 100000 in
theorem tells_in (a b : Nat) (x : Int) (A : Option Addr) (n ca : Nat) (la : List UInt8) (B : Option Addr) (m cb : Nat) (lb : List UInt8) (w : World) (ra : Rd w A n la) (rb : Rd w B m lb) (hn : n ≤ 500) (hm : m ≤ 500) (ha : a < 256) (hb' : b < 256) (hx : x ≤ 9223372036854775807) :
    Calls Try.prog 4 #[.int .u8 (a : Int), .int .u8 (b : Int), .int .i64 x, .slice A n ca, .slice B m cb] w fun e w' => e = .returned (.bool true) ∧ Below w.heap.size w w' := by
  obtain ⟨Q, E, hQ1, hQ2⟩ := div_both a b ha hb'
  obtain ⟨P, hP⟩ : ∃ P, pw a x.toNat = P := ⟨_, rfl⟩
  obtain ⟨D, hD⟩ : ∃ D, dot la lb = D := ⟨_, rfl⟩
  have HQ := Lib.hid (And.intro hQ1 hQ2)
  have HP := Lib.hid hP
  have HD := Lib.hid hD
  have HA := Lib.hid ra
  have HB := Lib.hid rb
  clear hQ1 hQ2 hP hD ra rb
  have hb1 : decide (500 < (n : Int)) = false := by simp; omega
  have hb2 : decide (500 < (m : Int)) = false := by simp; omega
  go_enter Try.func4, Try.ntmps4
  go_wp2_with fail
  refine (new_any _).mono ?_
  rintro e W0 ⟨g, rfl, hf, hg, hb⟩
  have HF0 := Lib.hid hf
  have HA0 := Lib.hid (HA.out.below hb (Nat.le_refl _))
  have HB0 := Lib.hid (HB.out.below hb (Nat.le_refl _))
  have HL0 := Lib.hid hb
  clear hf hb HA HB
  go_wp2_with fail
  refine (HQ.out.1 g _ HF0.out).mono ?_
  rintro e W1 ⟨rfl, hb⟩
  have HF1 := Lib.hid (HF0.out.below hb HF0.out.lt)
  have HA1 := Lib.hid (HA0.out.below hb (Nat.le_refl _))
  have HB1 := Lib.hid (HB0.out.below hb (Nat.le_refl _))
  have HL1 := Lib.hid (HL0.out.trans (hb.mono HL0.out.size))
  clear HF0 HA0 HB0 HL0
  clear hb
  go_wp2_with fail
  refine (HQ.out.2 _).mono ?_
  rintro e w2 ⟨rfl, rfl⟩
  go_wp2_with fail
  refine (copy_any _ n _ _ _ HA1.out (by omega)).mono ?_
  rintro e W2 ⟨Ap, cp, rfl, ho, hb⟩
  have HF2 := Lib.hid (HF1.out.below hb HF1.out.lt)
  have HA2 := Lib.hid (HA1.out.below hb (Nat.le_refl _))
  have HB2 := Lib.hid (HB1.out.below hb (Nat.le_refl _))
  have HL2 := Lib.hid (HL1.out.trans (hb.mono HL1.out.size))
  have Hp2 := Lib.hid ho.rd
  clear HF1 HA1 HB1 HL1
  clear hb ho
  go_wp2_with fail
  refine (copy_any _ m _ _ _ HB2.out (by omega)).mono ?_
  rintro e W3 ⟨Aq, cq, rfl, ho, hb⟩
  have HF3 := Lib.hid (HF2.out.below hb HF2.out.lt)
  have HA3 := Lib.hid (HA2.out.below hb (Nat.le_refl _))
  have HB3 := Lib.hid (HB2.out.below hb (Nat.le_refl _))
  have HL3 := Lib.hid (HL2.out.trans (hb.mono HL2.out.size))
  have Hp3 := Lib.hid (Hp2.out.below hb (Nat.le_refl _))
  have Hq3 := Lib.hid ho.rd
  clear HF2 HA2 HB2 HL2 Hp2
  clear hb ho
  go_wp2_with fail
  refine (lay_any g _ n _ _ a _ _ _ _ _ HF3.out Hp3.out Hq3.out ha (by omega)).mono ?_
  rintro e W4 ⟨Ao, co, rfl, ho, hb⟩
  have HF4 := Lib.hid (HF3.out.below hb HF3.out.lt)
  have HA4 := Lib.hid (HA3.out.below hb (Nat.le_refl _))
  have HB4 := Lib.hid (HB3.out.below hb (Nat.le_refl _))
  have HL4 := Lib.hid (HL3.out.trans (hb.mono HL3.out.size))
  have Hp4 := Lib.hid (Hp3.out.below hb (Nat.le_refl _))
  have Hq4 := Lib.hid (Hq3.out.below hb (Nat.le_refl _))
  have Ho4 := Lib.hid ho.rd
  clear HF3 HA3 HB3 HL3 Hp3 Hq3
  clear hb ho
  go_wp2_with fail
  refine (pow_k g a P x _ HF4.out ha hx HP.out).mono ?_
  rintro e w2 ⟨rfl, rfl⟩
  go_wp2_with fail
  refine (rpow_k a P x _ ha hx HP.out).mono ?_
  rintro e w2 ⟨rfl, rfl⟩
  go_wp2_with fail
  refine (dot_b g _ n _ _ _ _ _ _ D _ HF4.out Hp4.out Hq4.out (by omega) HD.out).mono ?_
  rintro e W5 ⟨rfl, hb⟩
  have HF5 := Lib.hid (HF4.out.below hb HF4.out.lt)
  have HA5 := Lib.hid (HA4.out.below hb (Nat.le_refl _))
  have HB5 := Lib.hid (HB4.out.below hb (Nat.le_refl _))
  have HL5 := Lib.hid (HL4.out.trans (hb.mono HL4.out.size))
  have Hp5 := Lib.hid (Hp4.out.below hb (Nat.le_refl _))
  have Hq5 := Lib.hid (Hq4.out.below hb (Nat.le_refl _))
  have Ho5 := Lib.hid (Ho4.out.below hb (Nat.le_refl _))
  clear HF4 HA4 HB4 HL4 Hp4 Hq4 Ho4
  clear hb
  go_wp2_with fail
  refine (rdot_b _ n _ _ _ _ _ _ D _ HA5.out HB5.out (by omega) HD.out).mono ?_
  rintro e W6 ⟨rfl, hb⟩
  have HF6 := Lib.hid (HF5.out.below hb HF5.out.lt)
  have HA6 := Lib.hid (HA5.out.below hb (Nat.le_refl _))
  have HB6 := Lib.hid (HB5.out.below hb (Nat.le_refl _))
  have HL6 := Lib.hid (HL5.out.trans (hb.mono HL5.out.size))
  have Hp6 := Lib.hid (Hp5.out.below hb (Nat.le_refl _))
  have Hq6 := Lib.hid (Hq5.out.below hb (Nat.le_refl _))
  have Ho6 := Lib.hid (Ho5.out.below hb (Nat.le_refl _))
  clear HF5 HA5 HB5 HL5 Hp5 Hq5 Ho5
  clear hb
  go_wp2_with fail
  refine (rlay_any _ n _ _ a _ _ _ _ _ HA6.out HB6.out ha (by omega)).mono ?_
  rintro e W7 ⟨Ar, cr, rfl, ho, hb⟩
  have HF7 := Lib.hid (HF6.out.below hb HF6.out.lt)
  have HA7 := Lib.hid (HA6.out.below hb (Nat.le_refl _))
  have HB7 := Lib.hid (HB6.out.below hb (Nat.le_refl _))
  have HL7 := Lib.hid (HL6.out.trans (hb.mono HL6.out.size))
  have Hp7 := Lib.hid (Hp6.out.below hb (Nat.le_refl _))
  have Hq7 := Lib.hid (Hq6.out.below hb (Nat.le_refl _))
  have Ho7 := Lib.hid (Ho6.out.below hb (Nat.le_refl _))
  have Hr7 := Lib.hid ho.rd
  clear HF6 HA6 HB6 HL6 Hp6 Hq6 Ho6
  clear hb ho
  go_wp2_with fail
  refine (same_yes _ _ _ _ _ _ _ _ Ho7.out Hr7.out).mono ?_
  rintro e w2 ⟨rfl, rfl⟩
  go_wp2_with fail
  refine (same_yes _ _ _ _ _ _ _ _ Hp7.out HA7.out).mono ?_
  rintro e w2 ⟨rfl, rfl⟩
  go_wp2_with fail
  refine (same_yes _ _ _ _ _ _ _ _ Hq7.out HB7.out).mono ?_
  rintro e w2 ⟨rfl, rfl⟩
  go_wp2_with fail
  refine (awake_any _).mono ?_
  rintro e w9 ⟨rfl, hb9⟩
  have H9 : Hid (Below w.heap.size w w9) := HL7.out.trans (hb9.mono HL7.out.size)
  clear hb9
  go_wp2
  go_ret
  exact ⟨rfl, H9.out⟩
end Go.Proofs.Ytiiomeieihiloaa
