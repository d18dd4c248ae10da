import Derived.Test.YtiiomeieihiloaaAwake
namespace Go.Proofs.Ytiiomeieihiloaa
open Go.RowKit Go.Coop

theorem info49 : (Try.prog.info? 49).map (fun i => (i.zero, i.size)) = some (some (.agg (Array.replicate 256 (.bool false))), 256) := by kernel_rfl

/-- which elements have come -/
def sn (k j : Nat) : Bool := (List.range k).any fun i => ex i == j
def tm (a k j : Nat) : Bool := (List.range k).any fun i => mul a (i + 1) == j
theorem sn_succ (k j : Nat) : sn (k + 1) j = (sn k j || ex k == j) := by simp [sn, List.range_succ, List.any_append]
theorem tm_succ (a k j : Nat) : tm a (k + 1) j = (tm a k j || mul a (k + 1) == j) := by simp [tm, List.range_succ, List.any_append]
theorem sn_new (k : Nat) (h : k < 255) : sn k (ex k) = false := by
  unfold sn
  rw [List.any_eq_false]
  intro i hi
  have hi : i < k := by simpa using hi
  intro e
  have e : ex i = ex k := by simpa using e
  have h1 := lg_ex i (by omega)
  rw [e, lg_ex k h] at h1
  omega
theorem tm_new (a k : Nat) (ha : a ≠ 0) (h : k < 255) : tm a k (mul a (k + 1)) = false := by
  unfold tm
  rw [List.any_eq_false]
  intro i hi
  have hi : i < k := by simpa using hi
  intro e
  have e : mul a (i + 1) = mul a (k + 1) := by simpa using e
  have := mul_cancel a (i + 1) (k + 1) (by omega) (by omega) ha e
  omega

structure Bools (w : World) (g : Nat) (f : Nat → Bool) : Prop where
  at_ : ∃ cs : Array Value, w.heap[g]? = some (.cells cs 49 (0, 0)) ∧ ∀ j, j < 256 → cs[j]? = some (.bool (f j))
theorem Bools.cell {w : World} {g : Nat} {f : Nat → Bool} (h : Bools w g f) {j : Nat} (hj : j < 256) : w.cell? ⟨g, j, none⟩ = some (.bool (f j)) := by
  obtain ⟨cs, h1, h2⟩ := h.at_
  rw [cell_of_row w g j cs 49 (0, 0) h1, h2 j hj]
theorem Bools.frozen {w : World} {g : Nat} {f : Nat → Bool} (h : Bools w g f) (j : Nat) : w.frozen? ⟨g, j, none⟩ = false := by
  obtain ⟨cs, h1, h2⟩ := h.at_
  simp [World.frozen?, h1]
theorem Bools.set_ {w : World} {g : Nat} {f f' : Nat → Bool} (h : Bools w g f) (x : Nat) (hf : ∀ j, f' j = (f j || x == j)) : Bools (w.setCell ⟨g, x, none⟩ (.bool true)) g f' := by
  obtain ⟨cs, h1, h2⟩ := h.at_
  refine ⟨cs.setIfInBounds x (.bool true), ?_, fun j hj => ?_⟩
  · simp [World.setCell, Array.getElem?_modify, h1]
  · have hl : j < cs.size := (Array.getElem?_eq_some_iff.1 (h2 j hj)).1
    by_cases e : x = j
    · subst e; rw [Array.getElem?_setIfInBounds_self_of_lt hl, hf]; simp
    · rw [Array.getElem?_setIfInBounds_ne e, h2 j hj, hf]; simp [e]
theorem Bools.far {w : World} {g : Nat} {f : Nat → Bool} (h : Bools w g f) {p : Addr} (hp : g ≠ p.block) (u : Value) : Bools (w.setCell p u) g f := by
  obtain ⟨cs, h1, h2⟩ := h.at_
  exact ⟨cs, (Below.heap_setCell w p u g hp).trans h1, h2⟩
theorem Bools.drewN {w : World} {g : Nat} {f : Nat → Bool} (h : Bools w g f) (n : Nat) : Bools (w.drewN n) g f := ⟨h.at_⟩
theorem Bools.alloc {w : World} {g : Nat} {f : Nat → Bool} (h : Bools w g f) (hg : g < w.heap.size) (o : Obj) : Bools (w.alloc o) g f := by
  obtain ⟨cs, h1, h2⟩ := h.at_
  exact ⟨cs, (Below.heap_alloc w o g hg).trans h1, h2⟩
theorem Bools.new (w : World) (f : Nat → Bool) (hf : ∀ j, f j = false) : Bools (w.alloc (.cells (Array.replicate 256 (.bool false)) 49)) w.heap.size f :=
  ⟨_, heap_alloc_new w _, fun j hj => by simp [hj, hf]⟩
theorem FldAt.far {w : World} {g : Nat} (h : FldAt w g) {p : Addr} (hp : g ≠ p.block) (u : Value) : FldAt (w.setCell p u) g :=
  ⟨by have := h.lt; simpa [World.setCell] using this, fun i hi => (World.cell?_setCell_other w p _ u (fun e => hp (by subst e; rfl))).trans (h.pow i hi), fun x hx => (World.cell?_setCell_other w p _ u (fun e => hp (by subst e; rfl))).trans (h.log x hx)⟩
theorem mul_two (k : Nat) (h : k < 255) : mul (ex k) 2 = ex (k + 1) := by
  rw [mul, if_neg (by have := (ex_pos k).2; omega), lg_ex k h, show lg 2 = 1 from by decide +kernel, ex_mod]

theorem once_zero (w : World) : Calls Try.prog 8 #[.int .u8 0] w fun e w' => e = .returned (.bool true) ∧ Below w.heap.size w w' := by
  go_enter Try.func8, Try.ntmps8
  go_wp2_with fail
  refine (awake_any _).mono ?_
  rintro e w9 ⟨rfl, hb9⟩
  go_wp2
  go_ret
  exact ⟨rfl, hb9⟩

set_option maxHeartbeats 1000000 in
set_option maxRecDepth 100000 in
theorem once_some (a : Nat) (w : World) (ha : a < 256) (h0 : a ≠ 0) : Calls Try.prog 8 #[.int .u8 (a : Int)] w fun e w' => e = .returned (.bool true) ∧ Below w.heap.size w w' := by
  have ha0 : ((a : Int) == 0) = false := beq_eq_false_iff_ne.2 (by omega)
  have HA0 := Lib.hid h0
  have hz := (zero_of_info info49).1
  obtain ⟨Z, hZ⟩ : ∃ Z, Z = (Array.replicate 256 (Value.bool false)) := ⟨_, rfl⟩
  rw [← hZ] at hz
  have HZ := Lib.hid hZ
  clear hZ h0
  go_enter Try.func8, Try.ntmps8
  go_wp2_with fail
  refine (new_any _).mono ?_
  rintro e w1 ⟨g, rfl, hf, hg, hb'⟩
  have HF := Lib.hid hf
  have HB := Lib.hid hb'
  clear hf hb'
  go_wp2
  clear hz ha0
  have hn1 : (Bools ((w1.alloc (.cells Z 49)).alloc (.cells Z 49)) w1.heap.size (sn 0)) := by rw [HZ.out]; exact (Bools.new w1 (sn 0) (fun _ => rfl)).alloc (by simp) _
  have hn2 : (Bools ((w1.alloc (.cells Z 49)).alloc (.cells Z 49)) (w1.heap.size + 1) (tm a 0)) := by
    have := Bools.new (w1.alloc (.cells (Array.replicate 256 (.bool false)) 49)) (tm a 0) (fun _ => rfl)
    rw [size_alloc] at this
    rw [HZ.out]
    exact this
  have HN := Lib.hid (And.intro hn1 hn2)
  clear hn1 hn2
  go_loopw [6, 7] (fun x i wr => ∃ (k X : Nat), k ≤ 255 ∧ i = .int .i64 k ∧ x = .int .u8 (X : Int) ∧ X < 256 ∧ Hid (X = ex k) ∧ Bools wr w1.heap.size (sn k) ∧ Bools wr (w1.heap.size + 1) (tm a k) ∧ FldAt wr g ∧ Below w.heap.size w wr) (fun _ i _ => 255 - (intOf i).toNat)
  case atStart => exact ⟨0, 1, by omega, rfl, rfl, by omega, rfl, HN.out.1, HN.out.2, (HF.out.alloc _).alloc _, (HB.out.alloc HB.out.size _).alloc (by rw [size_alloc]; have := HB.out.size; omega) _⟩
  case round =>
    obtain ⟨k, X, hk, rfl, rfl, hX, HX, hs, ht, hF, hB⟩ := hrel
    have hg1 := HF.out.lt
    have hw1 := HB.out.size
    by_cases hlt : k < 255
    · obtain ⟨Y, hY⟩ : ∃ Y, mul a (k + 1) = Y := ⟨_, rfl⟩
      have hYl : Y < 256 := by rw [← hY]; exact mul_lt _ _
      have hY0 : Y ≠ 0 := by rw [← hY]; exact mul_ne a (k + 1) HA0.out (by omega)
      have hX0 : X ≠ 0 := by rw [HX.out]; exact (ex_pos k).2
      have hxe : ((X : Int) == 0) = false := beq_eq_false_iff_ne.2 (by omega)
      have hye : ((Y : Int) == 0) = false := beq_eq_false_iff_ne.2 (by omega)
      have hcs := hs.cell hX
      have hct := ht.cell hYl
      rw [HX.out, sn_new k hlt, ← HX.out] at hcs
      rw [← hY, tm_new a k HA0.out hlt, hY] at hct
      have hfs := hs.frozen X
      have hft := ht.frozen Y
      have hne : w1.heap.size ≠ w1.heap.size + 1 := by omega
      have hkw : ((k : Int) + 1) % 256 = (k : Int) + 1 := by omega
      have HY := Lib.hid hY
      have HS := Lib.hid hs
      have HT := Lib.hid ht
      have HF2 := Lib.hid hF
      have HB2 := Lib.hid hB
      have hXi : (X : Int) < 256 := by omega
      have hYi : (Y : Int) < 256 := by omega
      clear hX0 hY0 hY hs ht hF hB
      go_wp2_with fail
      refine (mul_k g a (k + 1) Y _ HF2.out ha (by omega) HY.out).mono ?_
      rintro e w2 ⟨rfl, n1, rfl⟩
      clear hkw
      go_wp2_with fail
      have hb1 : Below w.heap.size w (wr.drewN n1) := ⟨HB2.out.os, HB2.out.tape, HB2.out.output, HB2.out.size, HB2.out.block⟩
      have hF2 : FldAt (((wr.drewN n1).setCell ⟨w1.heap.size, X, none⟩ (.bool true)).setCell ⟨w1.heap.size + 1, Y, none⟩ (.bool true)) g := ((HF2.out.drewN n1).far (p := ⟨w1.heap.size, X, none⟩) (by simp; omega) _).far (by simp; omega) _
      have hS2 : Bools (((wr.drewN n1).setCell ⟨w1.heap.size, X, none⟩ (.bool true)).setCell ⟨w1.heap.size + 1, Y, none⟩ (.bool true)) w1.heap.size (sn (k + 1)) := ((HS.out.drewN n1).set_ X (fun j => by rw [sn_succ, HX.out])).far (by simp) _
      have hT2 : Bools (((wr.drewN n1).setCell ⟨w1.heap.size, X, none⟩ (.bool true)).setCell ⟨w1.heap.size + 1, Y, none⟩ (.bool true)) (w1.heap.size + 1) (tm a (k + 1)) := ((HT.out.drewN n1).far (p := ⟨w1.heap.size, X, none⟩) (by simp) _).set_ Y (fun j => by rw [tm_succ, HY.out])
      have hB2 : Below w.heap.size w (((wr.drewN n1).setCell ⟨w1.heap.size, X, none⟩ (.bool true)).setCell ⟨w1.heap.size + 1, Y, none⟩ (.bool true)) := (hb1.setCell (by simp; omega) _).setCell (by simp; omega) _
      have HH := Lib.hid (And.intro hF2 (And.intro hS2 (And.intro hT2 hB2)))
      clear hb1 hF2 hS2 hT2 hB2 hcs hct hfs hft
      generalize ((wr.drewN n1).setCell ⟨w1.heap.size, X, none⟩ (.bool true)).setCell ⟨w1.heap.size + 1, Y, none⟩ (.bool true) = W2 at *
      have HX2 : Hid (mul X 2 = ex (k + 1)) := by show _ = _; rw [HX.out]; exact mul_two k hlt
      refine (mul_k g X 2 _ _ HH.out.1 hX (by omega) HX2.out).mono ?_
      rintro e w2 ⟨rfl, n2, rfl⟩
      go_wp2
      go_roundw
      case rel =>
        refine ⟨k + 1, ex (k + 1), by omega, by go_num, rfl, (ex_pos _).1, rfl, HH.out.2.1.drewN _, HH.out.2.2.1.drewN _, HH.out.1.drewN _, ?_⟩
        exact ⟨HH.out.2.2.2.os, HH.out.2.2.2.tape, HH.out.2.2.2.output, HH.out.2.2.2.size, HH.out.2.2.2.block⟩
      case measure => simp [intOf]; omega
    · obtain rfl : k = 255 := by omega
      have hx1 : X = 1 := by rw [HX.out]; exact ex_255
      subst hx1
      have HB2 := Lib.hid hB
      clear hB hF hs ht
      go_wp2_with fail
      refine (awake_any _).mono ?_
      rintro e w9 ⟨rfl, hb9⟩
      have H9 : Hid (Below w.heap.size w w9) := HB2.out.trans (hb9.mono HB2.out.size)
      clear hb9
      go_wp2
      go_ret
      exact ⟨rfl, H9.out⟩

theorem once_any (a : Nat) (w : World) (ha : a < 256) : Calls Try.prog 8 #[.int .u8 (a : Int)] w fun e w' => e = .returned (.bool true) ∧ Below w.heap.size w w' := by
  by_cases h0 : a = 0
  · subst h0; exact once_zero w
  · exact once_some a w ha h0
end Go.Proofs.Ytiiomeieihiloaa
