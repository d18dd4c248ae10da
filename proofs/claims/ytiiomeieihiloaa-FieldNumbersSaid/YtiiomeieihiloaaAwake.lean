import Derived.Test.YtiiomeieihiloaaDot
namespace Go.Proofs.Ytiiomeieihiloaa
open Go.RowKit Go.Coop

theorem size_alloc (w : World) (o : Obj) : (w.alloc o).heap.size = w.heap.size + 1 := by simp
theorem div_k (g a b q : Nat) (w : World) (h : FldAt w g) (ha : a < 256) (hb : b < 256) (b0 : b ≠ 0) (e : quo a b = q) :
    Calls Try.prog 18 #[.pointer (some ⟨g, 0, none⟩), .int .u8 (a : Int), .int .u8 (b : Int)] w (Still w (.tuple #[.int .u8 (q : Int), .int .i64 0])) := by
  subst e; exact div_any g a b w h ha hb b0
theorem inv_k (g b q : Nat) (w : World) (h : FldAt w g) (hb : b < 256) (b0 : b ≠ 0) (e : quo 1 b = q) :
    Calls Try.prog 16 #[.pointer (some ⟨g, 0, none⟩), .int .u8 (b : Int)] w (Still w (.tuple #[.int .u8 (q : Int), .int .i64 0])) := by
  subst e; exact inv_any g b w h hb b0
theorem log_k (g a q : Nat) (w : World) (h : FldAt w g) (ha : a < 256) (h0 : 0 < a) (e : lg a = q) :
    Calls Try.prog 14 #[.pointer (some ⟨g, 0, none⟩), .int .u8 (a : Int)] w fun e w' => e = .returned (.tuple #[.int .i64 (q : Int), .int .i64 0]) ∧ w = w' := by
  subst e; exact log_any g a w h ha h0
theorem mul_k (g a b q : Nat) (w : World) (h : FldAt w g) (ha : a < 256) (hb : b < 256) (e : mul a b = q) :
    Calls Try.prog 11 #[.pointer (some ⟨g, 0, none⟩), .int .u8 (a : Int), .int .u8 (b : Int)] w (Still w (.int .u8 (q : Int))) := by
  subst e; exact mul_any g a b w h ha hb
theorem add_k (g a b q : Nat) (w : World) (h : FldAt w g) (ha : a < 256) (hb : b < 256) (e : a ^^^ b = q) :
    Calls Try.prog 13 #[.pointer (some ⟨g, 0, none⟩), .int .u8 (a : Int), .int .u8 (b : Int)] w fun e w' => e = .returned (.int .u8 (q : Int)) ∧ w = w' := by
  subst e; exact add_any g a b w h ha hb
theorem pow_k (g a q : Nat) (x : Int) (w : World) (h : FldAt w g) (ha : a < 256) (h1 : x ≤ 9223372036854775807) (e : pw a x.toNat = q) :
    Calls Try.prog 17 #[.pointer (some ⟨g, 0, none⟩), .int .u8 (a : Int), .int .i64 x] w fun e w' => e = .returned (.int .u8 (q : Int)) ∧ w = w' := by
  subst e; exact pow_any g a x w h ha h1
theorem dot_k (g : Nat) (A : Option Addr) (n c : Nat) (la : List UInt8) (B : Option Addr) (m d : Nat) (lb : List UInt8) (q : Nat) (w : World) (h : FldAt w g) (ha : Rd w A n la) (hb : Rd w B m lb) (hn : n ≤ 140737488355328) (e : dot la lb = q) :
    Calls Try.prog 19 #[.pointer (some ⟨g, 0, none⟩), .slice A n c, .slice B m d] w (Still w (.int .u8 (q : Int))) := by
  subst e; exact dot_any g A n c la B m d lb w h ha hb hn
theorem rd_two (w : World) (x y : Nat) (hx : x < 256) (hy : y < 256) (fr : Nat × Nat) : Rd (w.alloc (.cells #[.int .u8 (x : Int), .int .u8 (y : Int)] 5 fr)) (some ⟨w.heap.size, 0, none⟩) 2 [UInt8.ofNat x, UInt8.ofNat y] :=
  Rd.new w [UInt8.ofNat x, UInt8.ofNat y] _ 5 fr fun j c hj => by
    match j, hj with
    | 0, hj => simp at hj; subst hj; simp only [BV, UInt8.toNat_ofNat']; rw [Nat.mod_eq_of_lt hx]; rfl
    | 1, hj => simp at hj; subst hj; simp only [BV, UInt8.toNat_ofNat']; rw [Nat.mod_eq_of_lt hy]; rfl

set_option maxRecDepth 100000 in
theorem awake_any (w : World) : Calls Try.prog 21 #[] w fun e w' => e = .returned (.bool true) ∧ Below w.heap.size w w' := by
  go_enter Try.func21, Try.ntmps21
  go_wp2_with fail
  refine (new_any _).mono ?_
  rintro e w1 ⟨g, rfl, hf, hg, hb⟩
  have HF := Lib.hid hf
  have HB := Lib.hid hb
  clear hf hb
  go_wp2_with fail
  refine (div_k g 29 2 128 _ (by exact ⟨HF.out.lt, HF.out.pow, HF.out.log⟩) (by omega) (by omega) (by omega) (by decide +kernel)).mono ?_
  rintro e w2 ⟨rfl, n1, rfl⟩
  go_wp2_with fail
  refine (inv_k g 2 142 _ (by exact ⟨HF.out.lt, HF.out.pow, HF.out.log⟩) (by omega) (by omega) (by decide +kernel)).mono ?_
  rintro e w2 ⟨rfl, n2, rfl⟩
  go_wp2_with fail
  refine (log_k g 29 8 _ (by exact ⟨HF.out.lt, HF.out.pow, HF.out.log⟩) (by omega) (by omega) (by decide +kernel)).mono ?_
  rintro e w2 ⟨rfl, rfl⟩
  go_wp2_with fail
  refine (log_k g 1 0 _ (by exact ⟨HF.out.lt, HF.out.pow, HF.out.log⟩) (by omega) (by omega) (by decide +kernel)).mono ?_
  rintro e w2 ⟨rfl, rfl⟩
  go_wp2_with fail
  refine (inv_zero g _ (by exact ⟨HF.out.lt, HF.out.pow, HF.out.log⟩)).mono ?_
  rintro e w2 ⟨rfl, n3, rfl⟩
  go_wp2_with fail
  refine (add_k g 5 3 6 _ (by exact ⟨HF.out.lt, HF.out.pow, HF.out.log⟩) (by omega) (by omega) (by decide +kernel)).mono ?_
  rintro e w2 ⟨rfl, rfl⟩
  go_wp2_with fail
  refine (mul_k g 2 128 29 _ (by exact ⟨HF.out.lt, HF.out.pow, HF.out.log⟩) (by omega) (by omega) (by decide +kernel)).mono ?_
  rintro e w2 ⟨rfl, n4, rfl⟩
  go_wp2_with fail
  refine (mul_k g 3 3 5 _ (by exact ⟨HF.out.lt, HF.out.pow, HF.out.log⟩) (by omega) (by omega) (by decide +kernel)).mono ?_
  rintro e w2 ⟨rfl, n5, rfl⟩
  go_wp2_with fail
  refine (pow_k g 2 29 8 _ (by exact ⟨HF.out.lt, HF.out.pow, HF.out.log⟩) (by omega) (by omega) (by decide +kernel)).mono ?_
  rintro e w2 ⟨rfl, rfl⟩
  generalize hW : w1.drewN _ = W at *
  have hF : FldAt W g := by rw [← hW]; exact ⟨HF.out.lt, HF.out.pow, HF.out.log⟩
  have hB : Below w.heap.size w W := by rw [← hW]; exact ⟨HB.out.os, HB.out.tape, HB.out.output, HB.out.size, HB.out.block⟩
  have HF2 := Lib.hid hF
  have HB2 := Lib.hid hB
  clear hF hB HF HB hW
  go_wp2_with fail
  have h1 := (rd_two W 1 2 (by omega) (by omega) (0, 0)).alloc (.cells #[.int .u8 3, .int .u8 4] 5)
  have h2 := rd_two (W.alloc (.cells #[.int .u8 1, .int .u8 2] 5)) 3 4 (by omega) (by omega) (0, 0)
  rw [size_alloc] at h2
  refine (dot_k g _ 2 2 _ _ 2 2 _ 11 _ ((HF2.out.alloc _).alloc _) h1 h2 (by omega) (by decide +kernel)).mono ?_
  rintro e w3 ⟨rfl, n6, rfl⟩
  clear h1 h2
  generalize hW3 : World.drewN _ n6 = W3 at *
  have hF3 : FldAt W3 g := by rw [← hW3]; exact ((HF2.out.alloc _).alloc _).drewN _
  have hB3 : Below w.heap.size w W3 := by
    have h3 := (HB2.out.alloc HB2.out.size (.cells #[.int .u8 1, .int .u8 2] 5)).alloc (by rw [size_alloc]; have := HB2.out.size; omega) (.cells #[.int .u8 3, .int .u8 4] 5)
    rw [← hW3]
    exact ⟨h3.os, h3.tape, h3.output, h3.size, h3.block⟩
  have HF3 := Lib.hid hF3
  have HB3 := Lib.hid hB3
  clear hF3 hB3 HF2 HB2 hW3
  go_wp2_with fail
  have h1 := (rd_two W3 1 1 (by omega) (by omega) (0, 0)).alloc (.cells #[.int .u8 3, .int .u8 128] 5)
  have h2 := rd_two (W3.alloc (.cells #[.int .u8 1, .int .u8 1] 5)) 3 128 (by omega) (by omega) (0, 0)
  rw [size_alloc] at h2
  have hl := lay_any g _ 2 2 _ 2 _ 2 2 _ _ ((HF3.out.alloc _).alloc _) h1 h2 (by omega) (by omega)
  rw [show lay 2 [UInt8.ofNat 1, UInt8.ofNat 1] [UInt8.ofNat 3, UInt8.ofNat 128] = [UInt8.ofNat 7, UInt8.ofNat 28] from by decide +kernel] at hl
  refine hl.mono ?_
  rintro e w4 ⟨A4, c4, rfl, ho4, hb4⟩
  clear h1 h2 hl
  have HB4 : Hid (Below w.heap.size w w4) := by
    have h3 := (HB3.out.alloc HB3.out.size (.cells #[.int .u8 1, .int .u8 1] 5)).alloc (by rw [size_alloc]; have := HB3.out.size; omega) (.cells #[.int .u8 3, .int .u8 128] 5)
    exact h3.trans (hb4.mono h3.size)
  have HO4 := Lib.hid ho4.rd
  clear ho4 hb4
  go_wp2_with fail
  refine (same_yes A4 2 c4 _ _ 2 2 _ (HO4.out.alloc _) (rd_two w4 7 28 (by omega) (by omega) (0, 0))).mono ?_
  rintro e w5 ⟨rfl, rfl⟩
  go_wp2
  go_ret
  exact ⟨rfl, HB4.out.alloc HB4.out.size _⟩
end Go.Proofs.Ytiiomeieihiloaa
