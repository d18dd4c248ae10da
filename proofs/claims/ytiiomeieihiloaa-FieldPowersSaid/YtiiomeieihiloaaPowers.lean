import Derived.Test.YtiiomeieihiloaaAwake
namespace Go.Proofs.Ytiiomeieihiloaa
open Go.RowKit Go.Coop

theorem logs (a b m : Nat) (ha : a ≠ 0) (hb : b ≠ 0) (e : mul a b = m) : 0 < m ∧ lg m = (lg a + lg b) % 255 ∧ pw a 255 = 1 := by
  subst e
  exact ⟨Nat.pos_of_ne_zero (mul_ne a b ha hb), lg_mul a b ha hb, pw_255 a ha⟩
theorem pows (a b k l : Nat) (ha : a < 256) (hb : b < 256) : ∃ pk pl pkl m pm pb ab s2 a2 b2, (pw a k = pk ∧ pw a l = pl ∧ mul pk pl = pkl ∧ pw a (k + l) = pkl ∧ mul a b = m ∧ pw m k = pm ∧ pw b k = pb ∧ mul pk pb = pm ∧ a ^^^ b = ab ∧ pw ab 2 = s2 ∧ pw a 2 = a2 ∧ pw b 2 = b2 ∧ a2 ^^^ b2 = s2) ∧
    (pk < 256 ∧ pl < 256 ∧ m < 256 ∧ pb < 256 ∧ ab < 256 ∧ a2 < 256 ∧ b2 < 256) :=
  ⟨pw a k, pw a l, mul (pw a k) (pw a l), mul a b, pw (mul a b) k, pw b k, a ^^^ b, pw (a ^^^ b) 2, pw a 2, pw b 2, ⟨rfl, rfl, rfl, (pw_add a k l).symm, rfl, rfl, rfl, (pw_prod a b k).symm, rfl, rfl, rfl, rfl, (pw_sum a b ha hb).symm⟩,
    ⟨pw_lt _ _, pw_lt _ _, mul_lt _ _, pw_lt _ _, xor_lt _ _ ha hb, pw_lt _ _, pw_lt _ _⟩⟩

set_option maxHeartbeats 4000000 in
set_option maxRecDepth 100000 in
theorem powers_any (a b n m' : Nat) (w : World) (ha : a < 256) (hb : b < 256) (hn : n < 4294967296) (hm : m' < 4294967296) : Calls Try.prog 7 #[.int .u8 (a : Int), .int .u8 (b : Int), .int .u32 (n : Int), .int .u32 (m' : Int)] w fun e w' => e = .returned (.bool true) ∧ Below w.heap.size w w' := by
  obtain ⟨pk, pl, pkl, m, pm, pb, ab, s2, a2, b2, hE, hL⟩ := pows a b (n / 2) (m' / 2) ha hb
  have HE := Lib.hid hE
  have HL := Lib.hid hL
  clear hE hL
  go_enter Try.func7, Try.ntmps7
  go_wp2_with fail
  refine (new_any _).mono ?_
  rintro e w1 ⟨g, rfl, hf, hg, hb'⟩
  have HF := Lib.hid hf
  have HB := Lib.hid hb'
  clear hf hb'
  go_wp2_with fail
  refine (pow_k g a pk _ _ (by exact ⟨HF.out.lt, HF.out.pow, HF.out.log⟩) ha (by omega) ((by rw [show ((n : Int) / 2).toNat = n / 2 from by omega]; exact HE.out.1))).mono ?_
  rintro e w2 ⟨rfl, rfl⟩
  go_wp2_with fail
  refine (pow_k g a pl _ _ (by exact ⟨HF.out.lt, HF.out.pow, HF.out.log⟩) ha (by omega) (by rw [show ((m' : Int) / 2).toNat = m' / 2 from by omega]; exact HE.out.2.1)).mono ?_
  rintro e w2 ⟨rfl, rfl⟩
  go_wp2_with fail
  refine (mul_k g pk pl pkl _ (by exact ⟨HF.out.lt, HF.out.pow, HF.out.log⟩) HL.out.1 HL.out.2.1 HE.out.2.2.1).mono ?_
  rintro e w2 ⟨rfl, n1, rfl⟩
  go_wp2_with fail
  refine (pow_k g a pkl _ _ (by exact ⟨HF.out.lt, HF.out.pow, HF.out.log⟩) ha (by omega) (by rw [show ((n : Int) / 2 + (m' : Int) / 2).toNat = n / 2 + m' / 2 from by omega]; exact HE.out.2.2.2.1)).mono ?_
  rintro e w2 ⟨rfl, rfl⟩
  go_wp2_with fail
  refine (mul_k g a b m _ (by exact ⟨HF.out.lt, HF.out.pow, HF.out.log⟩) ha hb HE.out.2.2.2.2.1).mono ?_
  rintro e w2 ⟨rfl, n2, rfl⟩
  go_wp2_with fail
  refine (pow_k g m pm _ _ (by exact ⟨HF.out.lt, HF.out.pow, HF.out.log⟩) HL.out.2.2.1 (by omega) ((by rw [show ((n : Int) / 2).toNat = n / 2 from by omega]; exact HE.out.2.2.2.2.2.1))).mono ?_
  rintro e w2 ⟨rfl, rfl⟩
  go_wp2_with fail
  refine (pow_k g a pk _ _ (by exact ⟨HF.out.lt, HF.out.pow, HF.out.log⟩) ha (by omega) ((by rw [show ((n : Int) / 2).toNat = n / 2 from by omega]; exact HE.out.1))).mono ?_
  rintro e w2 ⟨rfl, rfl⟩
  go_wp2_with fail
  refine (pow_k g b pb _ _ (by exact ⟨HF.out.lt, HF.out.pow, HF.out.log⟩) hb (by omega) ((by rw [show ((n : Int) / 2).toNat = n / 2 from by omega]; exact HE.out.2.2.2.2.2.2.1))).mono ?_
  rintro e w2 ⟨rfl, rfl⟩
  go_wp2_with fail
  refine (mul_k g pk pb pm _ (by exact ⟨HF.out.lt, HF.out.pow, HF.out.log⟩) HL.out.1 HL.out.2.2.2.1 HE.out.2.2.2.2.2.2.2.1).mono ?_
  rintro e w2 ⟨rfl, n3, rfl⟩
  go_wp2_with fail
  refine (add_k g a b ab _ (by exact ⟨HF.out.lt, HF.out.pow, HF.out.log⟩) ha hb HE.out.2.2.2.2.2.2.2.2.1).mono ?_
  rintro e w2 ⟨rfl, rfl⟩
  go_wp2_with fail
  refine (pow_k g ab s2 2 _ (by exact ⟨HF.out.lt, HF.out.pow, HF.out.log⟩) HL.out.2.2.2.2.1 (by omega) (HE.out.2.2.2.2.2.2.2.2.2.1)).mono ?_
  rintro e w2 ⟨rfl, rfl⟩
  go_wp2_with fail
  refine (pow_k g a a2 2 _ (by exact ⟨HF.out.lt, HF.out.pow, HF.out.log⟩) ha (by omega) (HE.out.2.2.2.2.2.2.2.2.2.2.1)).mono ?_
  rintro e w2 ⟨rfl, rfl⟩
  go_wp2_with fail
  refine (pow_k g b b2 2 _ (by exact ⟨HF.out.lt, HF.out.pow, HF.out.log⟩) hb (by omega) (HE.out.2.2.2.2.2.2.2.2.2.2.2.1)).mono ?_
  rintro e w2 ⟨rfl, rfl⟩
  go_wp2_with fail
  refine (add_k g a2 b2 s2 _ (by exact ⟨HF.out.lt, HF.out.pow, HF.out.log⟩) HL.out.2.2.2.2.2.1 HL.out.2.2.2.2.2.2 HE.out.2.2.2.2.2.2.2.2.2.2.2.2).mono ?_
  rintro e w2 ⟨rfl, rfl⟩
  by_cases h0 : a = 0 ∨ b = 0
  · rcases h0 with h1 | h1
    · have ha0 : ((a : Int) == 0) = true := beq_iff_eq.2 (by omega)
      clear h1
      go_wp2_with fail
      generalize hW : w1.drewN _ = W at *
      have HW : Hid (Below w.heap.size w W) := by show Below _ _ _; rw [← hW]; exact ⟨HB.out.os, HB.out.tape, HB.out.output, HB.out.size, HB.out.block⟩
      clear hW
      refine (awake_any _).mono ?_
      rintro e w9 ⟨rfl, hb9⟩
      have H9 : Hid (Below w.heap.size w w9) := HW.out.trans (hb9.mono HW.out.size)
      clear hb9
      go_wp2
      go_ret
      exact ⟨rfl, H9.out⟩
    · have hb0 : ((b : Int) == 0) = true := beq_iff_eq.2 (by omega)
      by_cases h2 : a = 0
      · have ha0 : ((a : Int) == 0) = true := beq_iff_eq.2 (by omega)
        clear h1 h2
        go_wp2_with fail
        generalize hW : w1.drewN _ = W at *
        have HW : Hid (Below w.heap.size w W) := by show Below _ _ _; rw [← hW]; exact ⟨HB.out.os, HB.out.tape, HB.out.output, HB.out.size, HB.out.block⟩
        clear hW
        refine (awake_any _).mono ?_
        rintro e w9 ⟨rfl, hb9⟩
        have H9 : Hid (Below w.heap.size w w9) := HW.out.trans (hb9.mono HW.out.size)
        clear hb9
        go_wp2
        go_ret
        exact ⟨rfl, H9.out⟩
      · have ha0 : ((a : Int) == 0) = false := beq_eq_false_iff_ne.2 (by omega)
        clear h1 h2
        go_wp2_with fail
        generalize hW : w1.drewN _ = W at *
        have HW : Hid (Below w.heap.size w W) := by show Below _ _ _; rw [← hW]; exact ⟨HB.out.os, HB.out.tape, HB.out.output, HB.out.size, HB.out.block⟩
        clear hW
        refine (awake_any _).mono ?_
        rintro e w9 ⟨rfl, hb9⟩
        have H9 : Hid (Below w.heap.size w w9) := HW.out.trans (hb9.mono HW.out.size)
        clear hb9
        go_wp2
        go_ret
        exact ⟨rfl, H9.out⟩
  · have ha0 : ((a : Int) == 0) = false := beq_eq_false_iff_ne.2 (by omega)
    have hb0 : ((b : Int) == 0) = false := beq_eq_false_iff_ne.2 (by omega)
    have hla := lg_lt a ha
    have hlb := lg_lt b hb
    have HG := Lib.hid (logs a b m (by omega) (by omega) HE.out.2.2.2.2.1)
    obtain ⟨x, hx⟩ : ∃ x, lg a = x := ⟨_, rfl⟩
    obtain ⟨y, hy⟩ : ∃ y, lg b = y := ⟨_, rfl⟩
    have HX := Lib.hid (And.intro hx hy)
    rw [hx] at hla
    rw [hy] at hlb
    have hz : (((x + y) % 255 : Nat) : Int) = ((x : Int) + (y : Int)) % 255 := by push_cast; rfl
    clear hx hy
    go_wp2_with fail
    refine (log_k g a x _ (by exact ⟨HF.out.lt, HF.out.pow, HF.out.log⟩) ha (by omega) HX.out.1).mono ?_
    rintro e w2 ⟨rfl, rfl⟩
    go_wp2_with fail
    refine (log_k g b y _ (by exact ⟨HF.out.lt, HF.out.pow, HF.out.log⟩) hb (by omega) HX.out.2).mono ?_
    rintro e w2 ⟨rfl, rfl⟩
    go_wp2_with fail
    refine (mul_k g a b m _ (by exact ⟨HF.out.lt, HF.out.pow, HF.out.log⟩) ha hb HE.out.2.2.2.2.1).mono ?_
    rintro e w2 ⟨rfl, n4, rfl⟩
    go_wp2_with fail
    refine (log_k g m ((x + y) % 255) _ (by exact ⟨HF.out.lt, HF.out.pow, HF.out.log⟩) HL.out.2.2.1 HG.out.1 (by rw [← HX.out.1, ← HX.out.2]; exact HG.out.2.1)).mono ?_
    rintro e w2 ⟨rfl, rfl⟩
    go_wp2_with fail
    refine (pow_k g a 1 255 _ (by exact ⟨HF.out.lt, HF.out.pow, HF.out.log⟩) ha (by omega) (HG.out.2.2)).mono ?_
    rintro e w2 ⟨rfl, rfl⟩
    go_wp2_with fail
    generalize hW : w1.drewN _ = W at *
    have HW : Hid (Below w.heap.size w W) := by show Below _ _ _; rw [← hW]; exact ⟨HB.out.os, HB.out.tape, HB.out.output, HB.out.size, HB.out.block⟩
    clear hW
    refine (awake_any _).mono ?_
    rintro e w9 ⟨rfl, hb9⟩
    have H9 : Hid (Below w.heap.size w w9) := HW.out.trans (hb9.mono HW.out.size)
    clear hb9
    go_wp2
    go_ret
    exact ⟨rfl, H9.out⟩
end Go.Proofs.Ytiiomeieihiloaa
