import Derived.Test.YtiiomeieihiloaaAwake
namespace Go.Proofs.Ytiiomeieihiloaa
open Go.RowKit Go.Coop

/-- a pointer that leads to no field -/
def NoFld (w : World) (p : Option Addr) : Prop := p = none ∨ ∃ g, p = some ⟨g, 0, none⟩ ∧ w.cell? ⟨g, 0, none⟩ = some (.int .u8 0)
theorem NoFld.drewN {w : World} {p : Option Addr} (h : NoFld w p) (n : Nat) : NoFld (w.drewN n) p := h
theorem made_none (p : Option Addr) (w : World) (h : NoFld w p) : Calls Try.prog 28 #[.pointer p] w fun e w' => e = .returned (.bool false) ∧ w = w' := by
  rcases h with rfl | ⟨g, rfl, h⟩
  · exact made_nil w
  · exact made_no g w h
theorem div_none (p : Option Addr) (a b : Int) (w : World) (h : NoFld w p) : Calls Try.prog 18 #[.pointer p, .int .u8 a, .int .u8 b] w fun e w' => e = .returned (.tuple #[.int .u8 0, .int .i64 1]) ∧ w = w' := by
  have H := Lib.hid h
  clear h
  go_enter Try.func18, Try.ntmps18
  go_wp2_with (go_at_call 28; refine (made_none _ _ H.out).mono ?_; rintro e w' ⟨rfl, rfl⟩)
  go_ret2
  exact ⟨rfl, rfl⟩
theorem inv_none (p : Option Addr) (a : Int) (w : World) (h : NoFld w p) : Calls Try.prog 16 #[.pointer p, .int .u8 a] w fun e w' => e = .returned (.tuple #[.int .u8 0, .int .i64 1]) ∧ w = w' := by
  have H := Lib.hid h
  clear h
  go_enter Try.func16, Try.ntmps16
  go_wp2_with (go_at_call 18; refine (div_none _ _ _ _ H.out).mono ?_; rintro e w' ⟨rfl, rfl⟩)
  go_ret2
  exact ⟨rfl, rfl⟩
theorem log_none (p : Option Addr) (a : Int) (w : World) (h : NoFld w p) : Calls Try.prog 14 #[.pointer p, .int .u8 a] w fun e w' => e = .returned (.tuple #[.int .i64 0, .int .i64 1]) ∧ w = w' := by
  have H := Lib.hid h
  clear h
  go_enter Try.func14, Try.ntmps14
  go_wp2_with (go_at_call 28; refine (made_none _ _ H.out).mono ?_; rintro e w' ⟨rfl, rfl⟩)
  go_ret2
  exact ⟨rfl, rfl⟩
theorem add_none (p : Option Addr) (a b : Int) (w : World) (h : NoFld w p) : Calls Try.prog 13 #[.pointer p, .int .u8 a, .int .u8 b] w fun e w' => e = .returned (.int .u8 0) ∧ w = w' := by
  have H := Lib.hid h
  clear h
  go_enter Try.func13, Try.ntmps13
  go_wp2_with (go_at_call 28; refine (made_none _ _ H.out).mono ?_; rintro e w' ⟨rfl, rfl⟩)
  go_ret
  exact ⟨rfl, rfl⟩
theorem mul_none (p : Option Addr) (a b : Int) (w : World) (h : NoFld w p) : Calls Try.prog 11 #[.pointer p, .int .u8 a, .int .u8 b] w fun e w' => e = .returned (.int .u8 0) ∧ w = w' := by
  have H := Lib.hid h
  clear h
  go_enter Try.func11, Try.ntmps11
  go_wp2_with (go_at_call 28; refine (made_none _ _ H.out).mono ?_; rintro e w' ⟨rfl, rfl⟩)
  go_ret
  exact ⟨rfl, rfl⟩
theorem pow_none (p : Option Addr) (a n : Int) (w : World) (h : NoFld w p) : Calls Try.prog 17 #[.pointer p, .int .u8 a, .int .i64 n] w fun e w' => e = .returned (.int .u8 0) ∧ w = w' := by
  have H := Lib.hid h
  clear h
  go_enter Try.func17, Try.ntmps17
  go_wp2_with (go_at_call 28; refine (made_none _ _ H.out).mono ?_; rintro e w' ⟨rfl, rfl⟩)
  go_ret
  exact ⟨rfl, rfl⟩
theorem lay_none (p : Option Addr) (A : Option Addr) (n c : Nat) (x : Int) (B : Option Addr) (m d : Nat) (w : World) (h : NoFld w p) : Calls Try.prog 20 #[.pointer p, .slice A n c, .int .u8 x, .slice B m d] w fun e w' => e = .returned (.slice none 0 0) ∧ w = w' := by
  have H := Lib.hid h
  clear h
  go_enter Try.func20, Try.ntmps20
  go_wp2_with (go_at_call 28; refine (made_none _ _ H.out).mono ?_; rintro e w' ⟨rfl, rfl⟩)
  go_ret
  exact ⟨rfl, rfl⟩
theorem mul_nq (p : Option Addr) (a b : Int) (w : World) (h : NoFld w p) (n : Nat) : Calls Try.prog 11 #[.pointer p, .int .u8 a, .int .u8 b] (w.drewN n) fun e w'' => e = .returned (.int .u8 0) ∧ ∃ m, w'' = w.drewN m :=
  (mul_none p a b (w.drewN n) (h.drewN n)).mono fun _ _ ⟨he, hw⟩ => ⟨he, n, hw.symm⟩
theorem add_nq (p : Option Addr) (a b : Int) (w : World) (h : NoFld w p) (n : Nat) : Calls Try.prog 13 #[.pointer p, .int .u8 a, .int .u8 b] (w.drewN n) fun e w'' => e = .returned (.int .u8 0) ∧ ∃ m, w'' = w.drewN m :=
  (add_none p a b (w.drewN n) (h.drewN n)).mono fun _ _ ⟨he, hw⟩ => ⟨he, n, hw.symm⟩

set_option maxRecDepth 100000 in
theorem dot_none (p : Option Addr) (A : Option Addr) (n c : Nat) (la : List UInt8) (w : World) (h : NoFld w p) (ha : Rd w A n la) (hn : n ≤ 9223372036854775807) :
    Calls Try.prog 19 #[.pointer p, .slice A n c, .slice A n c] w (Still w (.int .u8 0)) := by
  have hs3 : min (n : Int) (n : Int) = (n : Int) := Int.min_self _
  have HF := Lib.hid h
  have HA := Lib.hid ha
  clear h ha
  go_enter Try.func19, Try.ntmps19
  go_wp2
  clear hs3
  go_loopw [7, 14] (fun v i wr => ∃ (k q : Nat), k ≤ n ∧ i = .int .i64 k ∧ v = .int .u8 0 ∧ wr = w.drewN q) (fun _ i _ => n - (intOf i).toNat)
  case atStart => exact ⟨0, 0, by omega, rfl, rfl, rfl⟩
  case round =>
    obtain ⟨k, q, hk, rfl, rfl, hq⟩ := hrel
    have HQ := Lib.hid hq
    clear hq
    by_cases hlt : k < n
    · obtain ⟨ad, x, rfl, _, hx, hcx⟩ := (show Rd wr A n la by rw [HQ.out]; exact HA.out.drewN q).at_ (k := k) (by omega)
      unfold BV at hcx
      have hkn : (k : Int) < n := by omega
      have hk0 : (0 : Int) ≤ k := by omega
      have hF : NoFld wr p := by rw [HQ.out]; exact HF.out.drewN q
      have KM := Lib.hid (fun a b => mul_nq p a b wr hF)
      have KA := Lib.hid (fun a b => add_nq p a b wr hF)
      clear hF hx
      go_wp2_with fail
      go_quiet (first
        | (go_at_call 11; exact KM.out _ _ _)
        | (go_at_call 13; exact KA.out _ _ _))
      go_wp2
      go_roundw
      case rel => exact ⟨k + 1, _, by omega, by go_num, rfl, by rw [HQ.out, World.drewN_drewN]⟩
      case measure => simp [intOf]; omega
    · go_wp2
      go_ret
      exact ⟨rfl, q, HQ.out⟩

theorem or00 : bits BinOp.or IntKind.u8 0 0 = 0 := by decide
set_option maxHeartbeats 1000000 in
set_option maxRecDepth 100000 in
theorem none_any (a b n : Int) (A : Option Addr) (m c : Nat) (l : List UInt8) (w : World) (hr : Rd w A m l) (hm : m ≤ 9223372036854775807) : Calls Try.prog 5 #[.int .u8 a, .int .u8 b, .int .i64 n, .slice A m c] w fun e w' => e = .returned (.bool true) ∧ Below w.heap.size w w' := by
  have hz := (zero_of_info info42).1
  obtain ⟨Z, hZ⟩ : ∃ Z, Z = (Array.replicate 255 (Value.int .u8 0) ++ Array.replicate 256 (.int .i64 0)) := ⟨_, rfl⟩
  rw [← hZ] at hz
  have hZ0 : Z[0]? = some (.int .u8 0) := by rw [hZ]; simp
  have HZ := Lib.hid hZ0
  have HR := Lib.hid hr
  clear hZ hr hZ0
  go_enter Try.func5, Try.ntmps5
  go_wp2
  clear hz
  have hB := ((Below.refl w.heap.size w).alloc (Nat.le_refl _) (.cells Z 42)).alloc (by simp) (.cells #[.pointer none, .pointer (some ⟨w.heap.size, 0, none⟩)] 22)
  have hc0 : ((w.alloc (.cells Z 42)).alloc (.cells #[.pointer none, .pointer (some ⟨w.heap.size, 0, none⟩)] 22)).cell? ⟨w.heap.size, 0, none⟩ = some (.int .u8 0) := by
    rw [World.cell?_alloc_lt _ _ _ (by simp), cell_of_row _ w.heap.size 0 Z 42 (0, 0) (heap_alloc_new w _)]
    exact HZ.out
  have hc1 : ∀ j : Nat, ((w.alloc (.cells Z 42)).alloc (.cells #[.pointer none, .pointer (some ⟨w.heap.size, 0, none⟩)] 22)).cell? ⟨w.heap.size + 1, j, none⟩ = (#[.pointer none, .pointer (some ⟨w.heap.size, 0, none⟩)] : Array Value)[j]? := by
    intro j
    have := cell_of_row ((w.alloc (.cells Z 42)).alloc (.cells #[.pointer none, .pointer (some ⟨w.heap.size, 0, none⟩)] 22)) (w.alloc (.cells Z 42)).heap.size j _ 22 (0, 0) (heap_alloc_new _ _)
    rwa [size_alloc] at this
  have hrr := (HR.out.alloc (.cells Z 42)).alloc (.cells #[.pointer none, .pointer (some ⟨w.heap.size, 0, none⟩)] 22)
  have HB := Lib.hid hB
  have HC0 := Lib.hid hc0
  have HC1 := Lib.hid hc1
  have HRR := Lib.hid hrr
  clear hB hc0 hc1 hrr
  go_loopw [23] (fun i wr => ∃ (k q : Nat), k ≤ 2 ∧ i = .int .i64 k ∧ wr = ((w.alloc (.cells Z 42)).alloc (.cells #[.pointer none, .pointer (some ⟨w.heap.size, 0, none⟩)] 22)).drewN q) (fun i _ => 2 - (intOf i).toNat)
  case atStart => exact ⟨0, 0, by omega, rfl, rfl⟩
  case round =>
    obtain ⟨k, q, hk, rfl, hq⟩ := hrel
    have HQ := Lib.hid hq
    clear hq
    by_cases hlt : k < 2
    · obtain ⟨p, hp, hno⟩ : ∃ p, wr.cell? ⟨w.heap.size + 1, k, none⟩ = some (.pointer p) ∧ NoFld wr p := by
        rw [HQ.out]
        obtain rfl | rfl : k = 0 ∨ k = 1 := by omega
        · exact ⟨none, HC1.out 0, .inl rfl⟩
        · exact ⟨_, HC1.out 1, .inr ⟨_, rfl, HC0.out⟩⟩
      have hr2 : Rd wr A m l := by rw [HQ.out]; exact HRR.out.drewN q
      have HNo := Lib.hid hno
      have HR2 := Lib.hid hr2
      have hor := or00
      clear hno hr2
      have hk0 : (0 : Int) ≤ k := by omega
      have hk2 : (k : Int) < 2 := by omega
      go_wp2_with fail
      refine (div_none p _ _ _ (by exact HNo.out)).mono ?_
      rintro e w2 ⟨rfl, rfl⟩
      go_wp2_with fail
      refine (inv_none p _ _ (by exact HNo.out)).mono ?_
      rintro e w2 ⟨rfl, rfl⟩
      go_wp2_with fail
      refine (log_none p _ _ (by exact HNo.out)).mono ?_
      rintro e w2 ⟨rfl, rfl⟩
      go_wp2_with fail
      refine (add_none p _ _ _ (by exact HNo.out)).mono ?_
      rintro e w2 ⟨rfl, rfl⟩
      go_wp2_with fail
      refine (mul_none p _ _ _ (by exact HNo.out)).mono ?_
      rintro e w2 ⟨rfl, rfl⟩
      go_wp2_with fail
      refine (pow_none p _ _ _ (by exact HNo.out)).mono ?_
      rintro e w2 ⟨rfl, rfl⟩
      go_wp2_with fail
      refine (dot_none p A m c l _ (by exact HNo.out) (by exact HR2.out) hm).mono ?_
      rintro e w2 ⟨rfl, nd, rfl⟩
      go_wp2_with fail
      refine (lay_none p _ _ _ _ _ _ _ _ (HNo.out.drewN _)).mono ?_
      rintro e w2 ⟨rfl, rfl⟩
      go_wp2
      go_roundw
      case rel => exact ⟨k + 1, _, by omega, by go_num, by rw [HQ.out, World.drewN_drewN]⟩
      case measure => simp [intOf]; omega
    · have HB2 : Hid (Below w.heap.size w wr) := by show Below _ _ _; rw [HQ.out]; exact ⟨HB.out.os, HB.out.tape, HB.out.output, HB.out.size, HB.out.block⟩
      go_wp2_with fail
      refine (awake_any _).mono ?_
      rintro e w9 ⟨rfl, hb9⟩
      have H9 : Hid (Below w.heap.size w w9) := HB2.out.trans (hb9.mono HB2.out.size)
      clear hb9
      go_wp2
      go_ret
      exact ⟨rfl, H9.out⟩
end Go.Proofs.Ytiiomeieihiloaa
