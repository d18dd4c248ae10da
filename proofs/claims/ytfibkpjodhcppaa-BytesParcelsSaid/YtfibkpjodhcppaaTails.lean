import Derived.Test.YtfibkpjodhcppaaAwake
import Derived.Test.YtfibkpjodhcppaaUnseal
import Derived.Deep.RegionLaw
import Derived.Lib.MinMax
import Derived.Test.YtfibkpjodhcppaaLin
namespace Go.Proofs.Ytfibkpjodhcppaa
open Go.RowKit Go.Coop

/-- 'b[:hi]' -/
theorem slice_h (A : Option Addr) (n c y : Nat) (hy : y ≤ c) (w : World) : (Instr.slice 32 (.slice A n c) none (some (.int .i64 (y : Int))) none).run Try.prog w = .ok (.slice A y c) w := by
  obtain ⟨i, hi, hz, h1, h2⟩ := info_parts info5
  have he : Try.prog.elem 32 = 5 := by simp [Program.elem, Try.underlying32]
  have hb : (Instr.sliceBounds true n c none (some (.int .i64 (y : Int))) none).run Try.prog w = .ok (0, y, c) w := by
    simp [Instr.sliceBounds, run_sliceBound, *]
  rw [run_slice_any w 32 A n c (by rw [he]; exact Try.underlying32), hb, he]
  simp [sizeOf, typeInfo, hi, h1, sliced, Result.andThen]
  cases A <;> simp [Addr.add]

theorem sum_q (a : Addr) (t : Nat → Nat) (A : Option Addr) (n c : Nat) (l : List UInt8) (S : Nat) (w : World) (ht : TabAt w a t) (hr : Rd w A n l) (hn : n ≤ 140737488355328) (hS : crc t l = S) (k : Nat) :
    Calls Try.prog 17 #[.pointer (some a), .slice A n c] (w.drewN k) fun e w' => e = .returned (.int .u32 (S : Int)) ∧ ∃ m, w' = w.drewN m := by
  subst hS
  exact (sum_any a t A n c l (w.drewN k) ht (hr.drewN k) hn).mono fun e w' ⟨h1, h2⟩ => ⟨h1, k, h2.symm⟩

theorem xor_u32 {a b X : Nat} (ha : a < 4294967296) (hb : b < 4294967296) (h : a ^^^ b = X) : bits BinOp.xor IntKind.u32 (a : Int) (b : Int) = (X : Int) := by
  rw [u32_xor_nat a b ha hb, h]

theorem unsealed_sealed (t : Nat → Nat) (l : List UInt8) (n : Nat) (hn : n = l.length + 4) : unsealed (crc t ((sealed t l).take (n - 4))) (sealed t l) = (l, 0) := by
  have h1 : (sealed t l).length = l.length + 4 := sealed_length t l
  have h2 : (sealed t l).take l.length = l := by unfold sealed; exact List.take_left
  unfold unsealed
  rw [hn, h1, if_neg (by omega), Nat.add_sub_cancel, h2]
  exact if_pos rfl

/-- a law's end -/
def Holds (w : World) (e : Ending) (w' : World) : Prop := e = .returned (.bool true) ∧ Below w.heap.size w w'

set_option maxRecDepth 100000 in
theorem tails_out (A B C : Option Addr) (n c m d p q : Nat) (w : World) (h : 300 < n ∨ 100 < m ∨ 100 < p) :
    Calls Try.prog 8 #[.slice A n c, .slice B m d, .slice C p q] w (Holds w) := by
  by_cases h1 : 300 < n
  · go_enter Try.func8, Try.ntmps8
    go_wp2_with (go_at_call 18; refine (awake_any _).mono ?_; rintro e w1 ⟨rfl, hb1⟩)
    go_ret
    exact ⟨rfl, hb1⟩
  · by_cases h2 : 100 < m
    · go_enter Try.func8, Try.ntmps8
      go_wp2_with (go_at_call 18; refine (awake_any _).mono ?_; rintro e w1 ⟨rfl, hb1⟩)
      go_ret
      exact ⟨rfl, hb1⟩
    · have h3 : 100 < p := by omega
      clear h
      go_enter Try.func8, Try.ntmps8
      go_wp2_with (go_at_call 18; refine (awake_any _).mono ?_; rintro e w1 ⟨rfl, hb1⟩)
      go_ret
      exact ⟨rfl, hb1⟩

set_option maxHeartbeats 1000000 in
set_option maxRecDepth 100000 in
theorem tails_in (A B C : Option Addr) (n c m d p q : Nat) (l k j : List UInt8) (w : World) (h1 : n ≤ 300) (h2 : m ≤ 100) (h3 : p ≤ 100) (hr1 : Rd w A n l) (hr2 : Rd w B m k) (hr3 : Rd w C p j) (hc2 : m ≤ d) (hc3 : p ≤ q) :
    Calls Try.prog 8 #[.slice A n c, .slice B m d, .slice C p q] w (Holds w) := by
  obtain ⟨Z, hZs, hz⟩ := zero24
  have HZ := Lib.hid hZs
  clear hZs
  obtain ⟨s, hs1, hs2, hs3⟩ : ∃ s : Nat, s ≤ m ∧ s ≤ p ∧ min (m : Int) (p : Int) = (s : Int) := ⟨min m p, by omega, by omega, by omega⟩
  have hd1 : decide (300 < (n : Int)) = false := by simp; omega
  have hd2 : decide (100 < (m : Int)) = false := by simp; omega
  have hd3 : decide (100 < (p : Int)) = false := by simp; omega
  go_enter Try.func8, Try.ntmps8
  go_wp2_with (first
    | (go_at_call 10; refine (table_any _).mono ?_; rintro e w1 ⟨rfl, hb1⟩; rw [show tarr ((List.range 256).map entry) = T0 from rfl])
    | ((with_reducible refine wpList_store_new (o := ⟨none, .store 24 (.tmp 7) (.tmp 29), _, _, _, _⟩) ?_ 24 (.tmp 7) (.tmp 29) ?_ T0 Z ?_ ?_ 24 size24' HZ.out T0_one ?_)
       case refine_1 => rfl
       case refine_2 => rfl
       case refine_3 => rfl
       case refine_4 => rfl))
  have hb2 : Below w.heap.size w (w1.alloc (.cells T0 24)) := hb1.alloc hb1.size _
  have ht2 := tab_new w1 (0, 0)
  have hlt : w1.heap.size < (w1.alloc (.cells T0 24)).heap.size := by rw [size_alloc]; omega
  have HT := Lib.hid ht2
  have h1' := Lib.hid (hr1.below hb2 (Nat.le_refl _))
  have h2' := Lib.hid (hr2.below hb2 (Nat.le_refl _))
  have h3' := Lib.hid (hr3.below hb2 (Nat.le_refl _))
  have HB := Lib.hid hb2
  clear hd1 hd2 hd3 hs3 hz ht2 hb1 hb2 hr1 hr2 hr3
  generalize w1.alloc (.cells T0 24) = w2 at *
  have kb := fun w => slice_h B m d s (by omega) w
  go_region_law (first
    | (refine step_app _ rfl (.tmp 36) (.tmp 39) 32 rfl w2.heap.size 5 Try.underlying32 info5 (A := A3) (n := n) (c := c3) (by simp [Act.eval]) ho3 (B := B) (m := s) (d := d) (by simp [Act.eval]) ((h2'.out.take hs1).drew.below hb3 (Nat.le_refl _)) (by omega) hb3.size (n + s) rfl ?_; intro A4 c4 w4 ho4 hg4 hat4)
    | (go_simp; go_at_call 19; refine (copy_any A n c l _ (h1'.out.drew) (by omega)).mono ?_; rintro e w3 ⟨A3, c3, rfl, ho3, hb3⟩))
  clear kb
  have hb4 : Below w2.heap.size w2 w4 := ((Below.refl _ w2).drew.trans hb3).grown hg4 hb3.size (fun k hk => (ho3.block k hk).1)
  have HO4 := Lib.hid ho4
  have HB4 := Lib.hid hb4
  have hs4 : w2.heap.size ≤ w4.heap.size := hb4.size
  clear ho3 hb3 hg4 hat4 ho4 hb4
  go_wp2_with fail
  have kb := fun w => slice_h C p q s (by omega) w
  go_region_law (first
    | (refine step_app _ rfl (.tmp 42) (.tmp 45) 32 rfl w4.heap.size 5 Try.underlying32 info5 (A := A5) (n := n) (c := c5) (by simp [Act.eval]) ho5 (B := C) (m := s) (d := q) (by simp [Act.eval]) (((h3'.out.take hs2).below HB4.out (Nat.le_refl _)).drew.below hb5 (Nat.le_refl _)) (by omega) hb5.size (n + s) rfl ?_; intro A6 c6 w6 ho6 hg6 hat6)
    | (go_simp; go_at_call 19; refine (copy_any A n c l _ ((h1'.out.below HB4.out (Nat.le_refl _)).drew) (by omega)).mono ?_; rintro e w5 ⟨A5, c5, rfl, ho5, hb5⟩))
  clear kb
  have hb6 : Below w4.heap.size w4 w6 := ((Below.refl _ w4).drew.trans hb5).grown hg6 hb5.size (fun k hk => (ho5.block k hk).1)
  have hb26 : Below w2.heap.size w2 w6 := HB4.out.trans (hb6.mono hs4)
  have HB26 := Lib.hid hb26
  have HO6 := Lib.hid ho6
  have HR4 := Lib.hid (HO4.out.rd.below hb6 (Nat.le_refl _))
  have HRa := Lib.hid ((h2'.out.take hs1).below hb26 (Nat.le_refl _))
  have HRb := Lib.hid ((h3'.out.take hs2).below hb26 (Nat.le_refl _))
  have HT6 := Lib.hid (HT.out.below hlt hb26)
  have hc4 := HO4.out.cap
  have hc6 := ho6.cap
  have hlt6 : w1.heap.size < w6.heap.size := Nat.lt_of_lt_of_le hlt hb26.size
  clear ho5 hb5 hg6 hat6 ho6 hb6 hb26 HO4 HB4 hs4
  -- the four sums
  obtain ⟨S1, e1⟩ : ∃ S, crc entry (l ++ k.take s) = S := ⟨_, rfl⟩
  obtain ⟨S2, e2⟩ : ∃ S, crc entry (l ++ j.take s) = S := ⟨_, rfl⟩
  obtain ⟨S3, e3⟩ : ∃ S, crc entry (k.take s) = S := ⟨_, rfl⟩
  obtain ⟨S4, e4⟩ : ∃ S, crc entry (j.take s) = S := ⟨_, rfl⟩
  have hlens : (k.take s).length = (j.take s).length := by have := HRa.out.len; have := HRb.out.len; omega
  have hX := crc_tails l (k.take s) (j.take s) hlens
  rw [e1, e2, e3, e4] at hX
  have l1 : S1 < 4294967296 := by rw [← e1]; exact crc_lt _ _
  have l2 : S2 < 4294967296 := by rw [← e2]; exact crc_lt _ _
  have l3 : S3 < 4294967296 := by rw [← e3]; exact crc_lt _ _
  have l4 : S4 < 4294967296 := by rw [← e4]; exact crc_lt _ _
  obtain ⟨X, eX⟩ : ∃ X, S3 ^^^ S4 = X := ⟨_, rfl⟩
  have x12 := xor_u32 l1 l2 (hX.trans eX)
  have x34 := xor_u32 l3 l4 eX
  have q1 := Lib.hid (fun nq => sum_q _ _ A4 (n + s) c4 _ S1 w6 HT6.out HR4.out (by omega) e1 nq)
  have q2 := Lib.hid (fun nq => sum_q _ _ A6 (n + s) c6 _ S2 w6 HT6.out HO6.out.rd (by omega) e2 nq)
  have q3 := Lib.hid (fun nq => sum_q _ _ B s d _ S3 w6 HT6.out HRa.out (by omega) e3 nq)
  have q4 := Lib.hid (fun nq => sum_q _ _ C s q _ S4 w6 HT6.out HRb.out (by omega) e4 nq)
  clear e1 e2 e3 e4 hX eX l1 l2 l3 l4 hlens
  have ka := fun w => slice_h B m d s (by omega) w
  have kb := fun w => slice_h C p q s (by omega) w
  go_wp2_with fail
  go_quiet ((go_at_call 17; first | with_reducible exact q1.out _ | with_reducible exact q2.out _ | with_reducible exact q3.out _ | with_reducible exact q4.out _))
  clear ka kb q1 q2 q3 q4 x12 x34
  have HT7 : Hid (TabAt (w6.drewN nq) ⟨w1.heap.size, 0, none⟩ entry) := HT6.out
  have HR7 := Lib.hid (HR4.out.drewN nq)
  have HB7 : Hid (Below w.heap.size w (w6.drewN nq)) := HB.out.trans ⟨HB26.out.os, HB26.out.tape, HB26.out.output, HB26.out.size, fun k hk => HB26.out.block k (Nat.lt_of_lt_of_le hk HB.out.size)⟩
  have hlt7 : w1.heap.size < (w6.drewN nq).heap.size := hlt6
  clear HT6 HR4 HB26 HO6 HRa HRb h1' h2' h3' HT HB hlt hlt6
  generalize w6.drewN nq = w7 at *
  generalize l ++ k.take s = x at *
  have hxl := HR7.out.len
  have HXL := Lib.hid hxl
  clear hxl
  go_wp2_with fail
  refine (seal_any _ _ _ _ _ _ _ HT7.out HR7.out (by omega)).mono ?_
  rintro e w8 ⟨A8, c8, rfl, ho8, hb8⟩
  have HT8 := Lib.hid (HT7.out.below hlt7 hb8)
  have hlt8 : w1.heap.size < w8.heap.size := Nat.lt_of_lt_of_le hlt7 hb8.size
  go_wp2_with fail
  refine (seal_any _ _ _ _ _ _ _ HT8.out ho8.rd (by omega)).mono ?_
  rintro e w9 ⟨A9, c9, rfl, ho9, hb9⟩
  have HT9 := Lib.hid (HT8.out.below hlt8 hb9)
  have hlt9 : w1.heap.size < w9.heap.size := Nat.lt_of_lt_of_le hlt8 hb9.size
  go_wp2_with fail
  have hU := unseal_any _ _ _ _ c9 _ _ HT9.out ho9.rd (by omega) ho9.cap
  rw [unsealed_sealed entry (sealed entry x) _ (by rw [sealed_length, HXL.out])] at hU
  refine hU.mono ?_
  rintro e w10 ⟨A10, n10, c10, rfl, hr10, hc10, hb10⟩
  clear hU
  have hl10 : n10 = n + s + 4 := by have := hr10.len; simp only [sealed_length, HXL.out] at this; omega
  subst hl10
  have HT10 := Lib.hid (HT9.out.below hlt9 hb10)
  have hlt10 : w1.heap.size < w10.heap.size := Nat.lt_of_lt_of_le hlt9 hb10.size
  go_wp2_with fail
  have hU := unseal_any _ _ _ _ c10 _ _ HT10.out hr10 (by omega) hc10
  rw [unsealed_sealed entry x _ (by rw [HXL.out])] at hU
  refine hU.mono ?_
  rintro e w11 ⟨A11, n11, c11, rfl, hr11, hc11, hb11⟩
  clear hU
  have HBx : Hid (Below w7.heap.size w7 w11) := ((hb8.trans (hb9.mono hb8.size)).trans (hb10.mono (Nat.le_trans hb8.size hb9.size))).trans (hb11.mono (Nat.le_trans (Nat.le_trans hb8.size hb9.size) hb10.size))
  have kc1 := conv_str (P := Try.prog) Try.underlying32 Try.underlying5 Try.underlying9 hr11 c11
  have kc2 := conv_str (P := Try.prog) Try.underlying32 Try.underlying5 Try.underlying9 (HR7.out.below HBx.out (Nat.le_refl _)) c4
  clear ho8 hb8 ho9 hb9 hr10 hc10 hb10 hr11 hc11 hb11
  go_wp2_with fail
  refine (awake_any _).mono ?_
  rintro e w12 ⟨rfl, hb12⟩
  go_wp2
  go_ret
  exact ⟨rfl, (HB7.out.trans (HBx.out.mono HB7.out.size)).trans (hb12.mono (Nat.le_trans HB7.out.size HBx.out.size))⟩
end Go.Proofs.Ytfibkpjodhcppaa
