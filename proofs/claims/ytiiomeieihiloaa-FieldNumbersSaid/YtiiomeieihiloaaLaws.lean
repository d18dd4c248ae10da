import Derived.Test.YtiiomeieihiloaaAwake
namespace Go.Proofs.Ytiiomeieihiloaa
open Go.RowKit Go.Coop

theorem div_b0 (g a b : Nat) (w : World) (h : FldAt w g) (h0 : b = 0) :
    Calls Try.prog 18 #[.pointer (some ⟨g, 0, none⟩), .int .u8 (a : Int), .int .u8 (b : Int)] w (Still w (.tuple #[.int .u8 0, .int .i64 20])) := by
  subst h0; exact div_zero g a w h
theorem inv_b0 (g b : Nat) (w : World) (h : FldAt w g) (h0 : b = 0) :
    Calls Try.prog 16 #[.pointer (some ⟨g, 0, none⟩), .int .u8 (b : Int)] w (Still w (.tuple #[.int .u8 0, .int .i64 20])) := by
  subst h0; exact inv_zero g w h
def Sums (a b c ab s3 bc : Nat) : Prop := a ^^^ b = ab ∧ b ^^^ a = ab ∧ ab ^^^ c = s3 ∧ b ^^^ c = bc ∧ a ^^^ bc = s3
def Prods (a b c bc m m3 mbc d mac : Nat) : Prop := mul a b = m ∧ mul b a = m ∧ mul m c = m3 ∧ mul b c = mbc ∧ mul a mbc = m3 ∧ mul a bc = d ∧ mul a c = mac ∧ m ^^^ mac = d
def Quos (a b q i : Nat) : Prop := quo a b = q ∧ quo 1 b = i ∧ q < 256 ∧ i < 256 ∧ mul q b = a ∧ mul i b = 1 ∧ mul a i = q
theorem letters (a b c : Nat) (ha : a < 256) (hb : b < 256) (hc : c < 256) : ∃ ab s3 bc m m3 mbc d mac, Sums a b c ab s3 bc ∧ Prods a b c bc m m3 mbc d mac ∧ (ab < 256 ∧ bc < 256 ∧ m < 256 ∧ mbc < 256 ∧ mac < 256) ∧ (a = 0 ∨ b = 0 → m = 0) ∧ (a ≠ 0 → b ≠ 0 → m ≠ 0) :=
  ⟨a ^^^ b, a ^^^ b ^^^ c, b ^^^ c, mul a b, mul (mul a b) c, mul b c, mul a (b ^^^ c), mul a c, ⟨rfl, Nat.xor_comm b a, rfl, rfl, (Nat.xor_assoc a b c).symm⟩,
    ⟨rfl, mul_comm b a, rfl, rfl, (mul_assoc a b c).symm, rfl, rfl, (mul_dist a b c hb hc).symm⟩, ⟨xor_lt _ _ ha hb, xor_lt _ _ hb hc, mul_lt _ _, mul_lt _ _, mul_lt _ _⟩,
    fun h => by unfold mul; rw [if_pos h], mul_ne a b⟩
theorem quos (a b : Nat) (ha : a < 256) (hb : b < 256) (h0 : b ≠ 0) : ∃ q i, Quos a b q i :=
  ⟨quo a b, quo 1 b, rfl, rfl, quo_lt _ _, quo_lt _ _, quo_mul a b ha h0 hb, quo_mul 1 b (by omega) h0 hb, (quo_one a b hb).symm⟩

set_option maxHeartbeats 4000000 in
set_option maxRecDepth 100000 in
theorem laws_any (a b c : Nat) (w : World) (ha : a < 256) (hb : b < 256) (hc : c < 256) : Calls Try.prog 6 #[.int .u8 (a : Int), .int .u8 (b : Int), .int .u8 (c : Int)] w fun e w' => e = .returned (.bool true) ∧ Below w.heap.size w w' := by
  obtain ⟨ab, s3, bc, m, m3, mbc, d, mac, hE, hM, hL, hm0, hm1⟩ := letters a b c ha hb hc
  have HE : Hid (a ^^^ b = ab ∧ b ^^^ a = ab ∧ ab ^^^ c = s3 ∧ b ^^^ c = bc ∧ a ^^^ bc = s3) := hE
  have HM : Hid (mul a b = m ∧ mul b a = m ∧ mul m c = m3 ∧ mul b c = mbc ∧ mul a mbc = m3 ∧ mul a bc = d ∧ mul a c = mac ∧ m ^^^ mac = d) := hM
  have HL := Lib.hid hL
  have HN := Lib.hid (And.intro hm0 hm1)
  clear hE hM hL hm0 hm1
  go_enter Try.func6, Try.ntmps6
  go_wp2_with fail
  refine (new_any _).mono ?_
  rintro e w1 ⟨g, rfl, hf, hg, hb'⟩
  have HF := Lib.hid hf
  have HB := Lib.hid hb'
  clear hf hb'
  go_wp2_with fail
  refine (add_k g a b ab _ (by exact ⟨HF.out.lt, HF.out.pow, HF.out.log⟩) ha hb HE.out.1).mono ?_
  rintro e w2 ⟨rfl, rfl⟩
  go_wp2_with fail
  refine (add_k g b a ab _ (by exact ⟨HF.out.lt, HF.out.pow, HF.out.log⟩) hb ha HE.out.2.1).mono ?_
  rintro e w2 ⟨rfl, rfl⟩
  go_wp2_with fail
  refine (add_k g a b ab _ (by exact ⟨HF.out.lt, HF.out.pow, HF.out.log⟩) ha hb HE.out.1).mono ?_
  rintro e w2 ⟨rfl, rfl⟩
  go_wp2_with fail
  refine (add_k g ab c s3 _ (by exact ⟨HF.out.lt, HF.out.pow, HF.out.log⟩) HL.out.1 hc HE.out.2.2.1).mono ?_
  rintro e w2 ⟨rfl, rfl⟩
  go_wp2_with fail
  refine (add_k g b c bc _ (by exact ⟨HF.out.lt, HF.out.pow, HF.out.log⟩) hb hc HE.out.2.2.2.1).mono ?_
  rintro e w2 ⟨rfl, rfl⟩
  go_wp2_with fail
  refine (add_k g a bc s3 _ (by exact ⟨HF.out.lt, HF.out.pow, HF.out.log⟩) ha HL.out.2.1 HE.out.2.2.2.2).mono ?_
  rintro e w2 ⟨rfl, rfl⟩
  go_wp2_with fail
  refine (mul_k g a b m _ (by exact ⟨HF.out.lt, HF.out.pow, HF.out.log⟩) ha hb HM.out.1).mono ?_
  rintro e w2 ⟨rfl, n1, rfl⟩
  go_wp2_with fail
  refine (mul_k g b a m _ (by exact ⟨HF.out.lt, HF.out.pow, HF.out.log⟩) hb ha HM.out.2.1).mono ?_
  rintro e w2 ⟨rfl, n2, rfl⟩
  go_wp2_with fail
  refine (mul_k g a b m _ (by exact ⟨HF.out.lt, HF.out.pow, HF.out.log⟩) ha hb HM.out.1).mono ?_
  rintro e w2 ⟨rfl, n3, rfl⟩
  go_wp2_with fail
  refine (mul_k g m c m3 _ (by exact ⟨HF.out.lt, HF.out.pow, HF.out.log⟩) HL.out.2.2.1 hc HM.out.2.2.1).mono ?_
  rintro e w2 ⟨rfl, n4, rfl⟩
  go_wp2_with fail
  refine (mul_k g b c mbc _ (by exact ⟨HF.out.lt, HF.out.pow, HF.out.log⟩) hb hc HM.out.2.2.2.1).mono ?_
  rintro e w2 ⟨rfl, n5, rfl⟩
  go_wp2_with fail
  refine (mul_k g a mbc m3 _ (by exact ⟨HF.out.lt, HF.out.pow, HF.out.log⟩) ha HL.out.2.2.2.1 HM.out.2.2.2.2.1).mono ?_
  rintro e w2 ⟨rfl, n6, rfl⟩
  go_wp2_with fail
  refine (add_k g b c bc _ (by exact ⟨HF.out.lt, HF.out.pow, HF.out.log⟩) hb hc HE.out.2.2.2.1).mono ?_
  rintro e w2 ⟨rfl, rfl⟩
  go_wp2_with fail
  refine (mul_k g a bc d _ (by exact ⟨HF.out.lt, HF.out.pow, HF.out.log⟩) ha HL.out.2.1 HM.out.2.2.2.2.2.1).mono ?_
  rintro e w2 ⟨rfl, n7, rfl⟩
  go_wp2_with fail
  refine (mul_k g a b m _ (by exact ⟨HF.out.lt, HF.out.pow, HF.out.log⟩) ha hb HM.out.1).mono ?_
  rintro e w2 ⟨rfl, n8, rfl⟩
  go_wp2_with fail
  refine (mul_k g a c mac _ (by exact ⟨HF.out.lt, HF.out.pow, HF.out.log⟩) ha hc HM.out.2.2.2.2.2.2.1).mono ?_
  rintro e w2 ⟨rfl, n9, rfl⟩
  go_wp2_with fail
  refine (add_k g m mac d _ (by exact ⟨HF.out.lt, HF.out.pow, HF.out.log⟩) HL.out.2.2.1 HL.out.2.2.2.2 HM.out.2.2.2.2.2.2.2).mono ?_
  rintro e w2 ⟨rfl, rfl⟩
  go_wp2_with fail
  refine (add_k g a 0 a _ (by exact ⟨HF.out.lt, HF.out.pow, HF.out.log⟩) ha (by omega) (Nat.xor_zero a)).mono ?_
  rintro e w2 ⟨rfl, rfl⟩
  go_wp2_with fail
  refine (mul_k g a 1 a _ (by exact ⟨HF.out.lt, HF.out.pow, HF.out.log⟩) ha (by omega) (mul_one a ha)).mono ?_
  rintro e w2 ⟨rfl, n10, rfl⟩
  go_wp2_with fail
  refine (mul_k g a 0 0 _ (by exact ⟨HF.out.lt, HF.out.pow, HF.out.log⟩) ha (by omega) (mul_zero a)).mono ?_
  rintro e w2 ⟨rfl, n11, rfl⟩
  go_wp2_with fail
  refine (add_k g a a 0 _ (by exact ⟨HF.out.lt, HF.out.pow, HF.out.log⟩) ha ha (Nat.xor_self a)).mono ?_
  rintro e w2 ⟨rfl, rfl⟩
  go_wp2_with fail
  refine (mul_k g a b m _ (by exact ⟨HF.out.lt, HF.out.pow, HF.out.log⟩) ha hb HM.out.1).mono ?_
  rintro e w2 ⟨rfl, n12, rfl⟩
  by_cases h0 : b = 0
  · by_cases h1 : a = 0
    · have hb0 : ((b : Int) == 0) = true := beq_iff_eq.2 (by omega)
      have hb1 : ((b : Int) != 0) = false := by rw [bne, hb0]; rfl
      have ha0 : ((a : Int) == 0) = true := beq_iff_eq.2 (by omega)
      have ha1 : ((a : Int) != 0) = false := by rw [bne, ha0]; rfl
      have hmz : ((m : Int) == 0) = true := beq_iff_eq.2 (by have := HN.out.1 (.inl h1); omega)
      clear ha0
      have HZ := Lib.hid h0
      clear h0 h1
      go_wp2_with fail
      refine (div_b0 g a b _ (by exact ⟨HF.out.lt, HF.out.pow, HF.out.log⟩) HZ.out).mono ?_
      rintro e w2 ⟨rfl, d1, rfl⟩
      go_wp2_with fail
      refine (inv_b0 g b _ (by exact ⟨HF.out.lt, HF.out.pow, HF.out.log⟩) HZ.out).mono ?_
      rintro e w2 ⟨rfl, d2, rfl⟩
      go_wp2_with fail
      generalize hW : w1.drewN _ = W at *
      have HW : Hid (Below w.heap.size w W) := by show Below _ _ _; rw [← hW]; exact ⟨HB.out.os, HB.out.tape, HB.out.output, HB.out.size, HB.out.block⟩
      clear hW
      refine (awake_any _).mono ?_
      rintro e w9 ⟨rfl, hb9⟩
      have H9 : Hid (Below w.heap.size w w9) := HW.out.trans (hb9.mono HW.out.size)
      clear hb9
      go_wp2
      go_ret
      exact ⟨rfl, H9.out⟩
    · have hb0 : ((b : Int) == 0) = true := beq_iff_eq.2 (by omega)
      have hb1 : ((b : Int) != 0) = false := by rw [bne, hb0]; rfl
      have ha0 : ((a : Int) == 0) = false := beq_eq_false_iff_ne.2 (by omega)
      have ha1 : ((a : Int) != 0) = true := by rw [bne, ha0]; rfl
      have hmz : ((m : Int) == 0) = true := beq_iff_eq.2 (by have := HN.out.1 (.inr h0); omega)
      clear ha0
      have HZ := Lib.hid h0
      clear h0 h1
      go_wp2_with fail
      refine (div_b0 g a b _ (by exact ⟨HF.out.lt, HF.out.pow, HF.out.log⟩) HZ.out).mono ?_
      rintro e w2 ⟨rfl, d1, rfl⟩
      go_wp2_with fail
      refine (inv_b0 g b _ (by exact ⟨HF.out.lt, HF.out.pow, HF.out.log⟩) HZ.out).mono ?_
      rintro e w2 ⟨rfl, d2, rfl⟩
      go_wp2_with fail
      generalize hW : w1.drewN _ = W at *
      have HW : Hid (Below w.heap.size w W) := by show Below _ _ _; rw [← hW]; exact ⟨HB.out.os, HB.out.tape, HB.out.output, HB.out.size, HB.out.block⟩
      clear hW
      refine (awake_any _).mono ?_
      rintro e w9 ⟨rfl, hb9⟩
      have H9 : Hid (Below w.heap.size w w9) := HW.out.trans (hb9.mono HW.out.size)
      clear hb9
      go_wp2
      go_ret
      exact ⟨rfl, H9.out⟩
  · by_cases h1 : a = 0
    · have hb0 : ((b : Int) == 0) = false := beq_eq_false_iff_ne.2 (by omega)
      have hb1 : ((b : Int) != 0) = true := by rw [bne, hb0]; rfl
      have ha0 : ((a : Int) == 0) = true := beq_iff_eq.2 (by omega)
      have ha1 : ((a : Int) != 0) = false := by rw [bne, ha0]; rfl
      have hmz : ((m : Int) == 0) = true := beq_iff_eq.2 (by have := HN.out.1 (.inl h1); omega)
      clear ha0
      obtain ⟨q, i, hQ⟩ := quos a b ha hb h0
      have HQ : Hid (quo a b = q ∧ quo 1 b = i ∧ q < 256 ∧ i < 256 ∧ mul q b = a ∧ mul i b = 1 ∧ mul a i = q) := hQ
      clear hQ
      have HZ := Lib.hid h0
      clear h0 h1
      go_wp2_with fail
      refine (div_k g a b q _ (by exact ⟨HF.out.lt, HF.out.pow, HF.out.log⟩) ha hb HZ.out HQ.out.1).mono ?_
      rintro e w2 ⟨rfl, d1, rfl⟩
      go_wp2_with fail
      refine (inv_k g b i _ (by exact ⟨HF.out.lt, HF.out.pow, HF.out.log⟩) hb HZ.out HQ.out.2.1).mono ?_
      rintro e w2 ⟨rfl, d2, rfl⟩
      go_wp2_with fail
      refine (mul_k g q b a _ (by exact ⟨HF.out.lt, HF.out.pow, HF.out.log⟩) HQ.out.2.2.1 hb HQ.out.2.2.2.2.1).mono ?_
      rintro e w2 ⟨rfl, n13, rfl⟩
      go_wp2_with fail
      refine (mul_k g i b 1 _ (by exact ⟨HF.out.lt, HF.out.pow, HF.out.log⟩) HQ.out.2.2.2.1 hb HQ.out.2.2.2.2.2.1).mono ?_
      rintro e w2 ⟨rfl, n14, rfl⟩
      go_wp2_with fail
      refine (mul_k g a i q _ (by exact ⟨HF.out.lt, HF.out.pow, HF.out.log⟩) ha HQ.out.2.2.2.1 HQ.out.2.2.2.2.2.2).mono ?_
      rintro e w2 ⟨rfl, n15, rfl⟩
      go_wp2_with fail
      generalize hW : w1.drewN _ = W at *
      have HW : Hid (Below w.heap.size w W) := by show Below _ _ _; rw [← hW]; exact ⟨HB.out.os, HB.out.tape, HB.out.output, HB.out.size, HB.out.block⟩
      clear hW
      refine (awake_any _).mono ?_
      rintro e w9 ⟨rfl, hb9⟩
      have H9 : Hid (Below w.heap.size w w9) := HW.out.trans (hb9.mono HW.out.size)
      clear hb9
      go_wp2
      go_ret
      exact ⟨rfl, H9.out⟩
    · have hb0 : ((b : Int) == 0) = false := beq_eq_false_iff_ne.2 (by omega)
      have hb1 : ((b : Int) != 0) = true := by rw [bne, hb0]; rfl
      have ha0 : ((a : Int) == 0) = false := beq_eq_false_iff_ne.2 (by omega)
      have ha1 : ((a : Int) != 0) = true := by rw [bne, ha0]; rfl
      have hmz : ((m : Int) == 0) = false := beq_eq_false_iff_ne.2 (by have := HN.out.2 h1 h0; omega)
      clear ha0
      obtain ⟨q, i, hQ⟩ := quos a b ha hb h0
      have HQ : Hid (quo a b = q ∧ quo 1 b = i ∧ q < 256 ∧ i < 256 ∧ mul q b = a ∧ mul i b = 1 ∧ mul a i = q) := hQ
      clear hQ
      have HZ := Lib.hid h0
      clear h0 h1
      go_wp2_with fail
      refine (div_k g a b q _ (by exact ⟨HF.out.lt, HF.out.pow, HF.out.log⟩) ha hb HZ.out HQ.out.1).mono ?_
      rintro e w2 ⟨rfl, d1, rfl⟩
      go_wp2_with fail
      refine (inv_k g b i _ (by exact ⟨HF.out.lt, HF.out.pow, HF.out.log⟩) hb HZ.out HQ.out.2.1).mono ?_
      rintro e w2 ⟨rfl, d2, rfl⟩
      go_wp2_with fail
      refine (mul_k g q b a _ (by exact ⟨HF.out.lt, HF.out.pow, HF.out.log⟩) HQ.out.2.2.1 hb HQ.out.2.2.2.2.1).mono ?_
      rintro e w2 ⟨rfl, n13, rfl⟩
      go_wp2_with fail
      refine (mul_k g i b 1 _ (by exact ⟨HF.out.lt, HF.out.pow, HF.out.log⟩) HQ.out.2.2.2.1 hb HQ.out.2.2.2.2.2.1).mono ?_
      rintro e w2 ⟨rfl, n14, rfl⟩
      go_wp2_with fail
      refine (mul_k g a i q _ (by exact ⟨HF.out.lt, HF.out.pow, HF.out.log⟩) ha HQ.out.2.2.2.1 HQ.out.2.2.2.2.2.2).mono ?_
      rintro e w2 ⟨rfl, n15, rfl⟩
      go_wp2_with fail
      generalize hW : w1.drewN _ = W at *
      have HW : Hid (Below w.heap.size w W) := by show Below _ _ _; rw [← hW]; exact ⟨HB.out.os, HB.out.tape, HB.out.output, HB.out.size, HB.out.block⟩
      clear hW
      refine (awake_any _).mono ?_
      rintro e w9 ⟨rfl, hb9⟩
      have H9 : Hid (Below w.heap.size w w9) := HW.out.trans (hb9.mono HW.out.size)
      clear hb9
      go_wp2
      go_ret
      exact ⟨rfl, H9.out⟩
end Go.Proofs.Ytiiomeieihiloaa
