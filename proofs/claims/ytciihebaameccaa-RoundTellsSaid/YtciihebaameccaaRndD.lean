/- has, alone, Begin. -/
import Derived.Test.YtciihebaameccaaRndC
namespace Go.Proofs.Ytciihebaameccaa
open Go.RowKit Go.Coop
set_option maxRecDepth 100000
abbrev RVal (r : Rn) (A : Option Addr) (n c : Nat) : Value := .agg #[.int .i64 r.s, .int .i64 r.v, .int .i64 r.need, .int .i64 r.ph, .slice A n c]
/-- one round is told, its marks in memory of their own -/
def OneR (w : World) (r : Rn) (e : Ending) (w' : World) : Prop := ∃ A c, e = .returned (RVal r A r.ms.length c) ∧ OwnV w' w.heap.size 3 A r.ms.length c (r.ms.map IV) ∧ Below w.heap.size w w'
/-- a round and an error -/
def TwoR (w : World) (p : Rn × Int) (e : Ending) (w' : World) : Prop := ∃ A c, e = .returned (.tuple #[RVal p.1 A p.1.ms.length c, .int .i64 p.2]) ∧ RdV w' A p.1.ms.length (p.1.ms.map IV) ∧ (∀ j, A.map (·.block) = some j → w.heap.size ≤ j) ∧ Below w.heap.size w w'
theorem row5 {w : World} {b : Nat} {T : TypeId} {x0 x1 x2 x3 x4 v0 v1 v2 v3 v4 : Value} (h : w.heap[b]? = some (.cells #[x0, x1, x2, x3, x4] T (0, 0))) : (((((w.setCell ⟨b, 0, none⟩ v0).setCell ⟨b, 1, none⟩ v1).setCell ⟨b, 2, none⟩ v2).setCell ⟨b, 3, none⟩ v3).setCell ⟨b, 4, none⟩ v4).heap[b]? = some (.cells #[v0, v1, v2, v3, v4] T (0, 0)) := by
  have h1 := heap_setCell_same w b 0 _ T v0 h
  have h2 := heap_setCell_same _ b 1 _ T v1 h1
  have h3 := heap_setCell_same _ b 2 _ T v2 h2
  have h4 := heap_setCell_same _ b 3 _ T v3 h3
  exact heap_setCell_same _ b 4 _ T v4 h4
theorem row1 {w : World} {b : Nat} {T : TypeId} {x0 x1 x2 x3 x4 v4 : Value} (h : w.heap[b]? = some (.cells #[x0, x1, x2, x3, x4] T (0, 0))) : (w.setCell ⟨b, 4, none⟩ v4).heap[b]? = some (.cells #[x0, x1, x2, x3, v4] T (0, 0)) := heap_setCell_same w b 4 _ T v4 h
theorem row3 {w : World} {b : Nat} {T : TypeId} {x0 x1 x2 x3 x4 v3 : Value} (h : w.heap[b]? = some (.cells #[x0, x1, x2, x3, x4] T (0, 0))) : (w.setCell ⟨b, 3, none⟩ v3).heap[b]? = some (.cells #[x0, x1, x2, v3, x4] T (0, 0)) := heap_setCell_same w b 3 _ T v3 h
theorem thaw5 {w : World} {b : Nat} {x0 x1 x2 x3 x4 : Value} {T : TypeId} (h : w.heap[b]? = some (.cells #[x0, x1, x2, x3, x4] T (0, 0))) : w.frozen? ⟨b, 0, none⟩ = false ∧ w.frozen? ⟨b, 1, none⟩ = false ∧ w.frozen? ⟨b, 2, none⟩ = false ∧ w.frozen? ⟨b, 3, none⟩ = false ∧ w.frozen? ⟨b, 4, none⟩ = false :=
  ⟨frozen_of_row w b 0 _ T h, frozen_of_row w b 1 _ T h, frozen_of_row w b 2 _ T h, frozen_of_row w b 3 _ T h, frozen_of_row w b 4 _ T h⟩
def zr (n : Nat) : List Value := (List.replicate n (0 : Int)).map IV
theorem made3 (n : Nat) : madeCells (Value.int .i64 0).cells (n * 1) = ((List.replicate n (0 : Int)).map IV).toArray := by
  apply Array.ext_getElem?
  intro j
  by_cases h : j < n
  · simp [madeCells, h, Value.cells, Nat.mod_one]
  · rw [Array.getElem?_eq_none (by simp [madeCells]; omega), Array.getElem?_eq_none (by simp; omega)]
theorem make24 (n : Nat) (hk : n ≤ 1000000) (W : World) : (Instr.makeSlice 24 (.int .i64 (n : Int)) (.int .i64 (n : Int))).run Try.prog W = .ok (.slice (some ⟨W.heap.size, 0, none⟩) n n) (W.alloc (.cells (zr n).toArray 3)) := by
  obtain ⟨i, hi, hz, hs, hb⟩ := info_parts info3
  have := run_make (P := Try.prog) W 24 3 i (.int .i64 0) Try.underlying24 hi hz .i64 .i64 n n (by omega) (by omega) (by rw [hb]; omega) (by omega)
  rw [hs, Int.toNat_natCast, made3] at this
  exact this
section
variable (w : World)
set_option maxHeartbeats 1000000 in
theorem hasR_is (s v need ph i : Int) {A : Option Addr} {n c : Nat} {ms : List Int} (h : RdV w A n (ms.map IV)) (hn : n ≤ 1000000) {q : Bool} (hq : decide (HasR ⟨s, v, need, ph, ms⟩ i) = q) : Calls Try.prog 39 #[.agg #[.int .i64 s, .int .i64 v, .int .i64 need, .int .i64 ph, .slice A n c], .int .i64 i] w (Told w q) := by
  have hln : ms.length = n := by simpa using h.len
  obtain ⟨w1, hw1⟩ : ∃ z, w.alloc (.cells #[.int .i64 s, .int .i64 v, .int .i64 need, .int .i64 ph, .slice A n c] 26) = z := ⟨_, rfl⟩
  obtain ⟨hb1, hx1⟩ := box_new hw1
  obtain ⟨b, hb⟩ : ∃ b, w.heap.size = b := ⟨_, rfl⟩
  rw [hb] at hx1
  have hr1 := Lib.hid (h.below hb1 (Nat.le_refl _))
  have HB1 := Lib.hid hb1
  have HX1 := Lib.hid hx1
  obtain ⟨⟨m0, m1, m2, m3, m4⟩, hbl⟩ := five26 hx1
  clear h hb1 hx1
  by_cases hR : RightR ⟨s, v, need, ph, ms⟩
  · have kR := Lib.hid (decide_eq_true hR)
    have hn1 : 1 ≤ n := by have := hR.1.2.2.1.1; simp only [hln] at this; omega
    have hw : IntKind.i64.wrap ((n : Int) - 1) = (n : Int) - 1 := IntWalk.i64_in _ (by omega)
    obtain ⟨k, hk, hkI⟩ : ∃ k : Bool, Hid (decide (0 ≤ i ∧ i ≤ (n : Int) - 1) = k) ∧ q = k := ⟨_, rfl, by
      rw [← hq]
      refine decide_eq_decide.2 ⟨fun h => ⟨h.2.1, ?_⟩, fun h => ⟨hR, h.1, ?_⟩⟩
      · have := h.2.2
        simp only [hln] at this
        omega
      · simp only [hln]
        omega⟩
    subst hkI
    clear hq hR hn1
    go_enter Try.func39, Try.ntmps39
    go_wp2_with fail
    (try rw [hw1]); (try rw [hb])
    refine (right_is _ s v need ph hr1.out hn kR.out).mono ?_
    rintro e w2 ⟨rfl, hb2⟩
    have HB2 := Lib.hid (HB1.out.trans (hb2.mono HB1.out.size))
    obtain ⟨⟨f0, f1, f2, f3, f4⟩, hbl2⟩ := five26 ((hb2.block _ (lt_of_block HX1.out)).trans HX1.out)
    clear hb2 m0 m1 m2 m3 m4
    go_wp2_with fail
    refine (fits_q _ i 0 ((n : Int) - 1) hk.out).mono ?_
    rintro e w' ⟨rfl, rfl⟩
    go_wp2
    go_ret
    exact told_mk rfl HB2.out
  · have kR := Lib.hid (decide_eq_false hR)
    obtain rfl : q = false := by rw [← hq]; exact decide_eq_false (fun h => hR h.1)
    clear hq hR
    go_enter Try.func39, Try.ntmps39
    go_wp2_with fail
    (try rw [hw1]); (try rw [hb])
    refine (right_is _ s v need ph hr1.out hn kR.out).mono ?_
    rintro e w2 ⟨rfl, hb2⟩
    have HB2 := Lib.hid (HB1.out.trans (hb2.mono HB1.out.size))
    clear hb2
    go_wp2
    go_ret
    exact told_mk rfl HB2.out
set_option maxHeartbeats 1000000 in
theorem alone_is (s v need ph : Int) {A : Option Addr} {n c : Nat} {ms : List Int} (h : RdV w A n (ms.map IV)) (hn : n ≤ 1000000) : Calls Try.prog 40 #[.agg #[.int .i64 s, .int .i64 v, .int .i64 need, .int .i64 ph, .slice A n c]] w (OneR w ⟨s, v, need, ph, ms⟩) := by
  obtain ⟨w1, hw1⟩ : ∃ z, w.alloc (.cells #[.int .i64 s, .int .i64 v, .int .i64 need, .int .i64 ph, .slice A n c] 26) = z := ⟨_, rfl⟩
  obtain ⟨w2, hw2⟩ : ∃ z, w1.alloc (.cells #[.int .i64 0, .int .i64 0, .int .i64 0, .int .i64 0, .slice none 0 0] 26) = z := ⟨_, rfl⟩
  obtain ⟨hb1, hx1⟩ := box_new hw1
  obtain ⟨hb2, hx2⟩ := box_new hw2
  obtain ⟨b, hb⟩ : ∃ b, w.heap.size = b := ⟨_, rfl⟩
  obtain ⟨b2, hbb⟩ : ∃ b, w1.heap.size = b := ⟨_, rfl⟩
  have hlt : b < b2 := by rw [← hb, ← hbb]; exact lt_of_block hx1
  have hx12 := (hb2.block _ (lt_of_block hx1)).trans hx1
  rw [hb] at hx12
  rw [hbb] at hx2
  have hB2 := hb1.trans (hb2.mono hb1.size)
  have hR := h.below hB2 (Nat.le_refl _)
  have hne : b2 ≠ b := by omega
  have hne' : b ≠ b2 := by omega
  obtain ⟨⟨m0, m1, m2, m3, m4⟩, hbl⟩ := five26 hx12
  have HE := Lib.hid (And.intro hR (And.intro hB2 (And.intro hx12 (And.intro hx2 (And.intro hb hlt)))))
  clear h hR hB2 hx12 hx2 hlt hx1 hb1 hb2 hbl
  go_enter Try.func40, Try.ntmps40
  go_wp2_with fail
  (try rw [hw1]); (try rw [hw2]); (try rw [hb]); (try rw [hbb])
  clear hw1 hw2 hb hbb
  refine (clone_is _ HE.out.1 hn).mono ?_
  rintro e w3 ⟨A3, c3, rfl, ho3, hb3⟩
  have hx13 := (hb3.block _ (lt_of_block HE.out.2.2.1)).trans HE.out.2.2.1
  have hx23 := (hb3.block _ (lt_of_block HE.out.2.2.2.1)).trans HE.out.2.2.2.1
  obtain ⟨⟨n0, n1, n2, n3, n4⟩, nbl⟩ := five26 hx13
  obtain ⟨⟨r0, r1, r2, r3, r4⟩, rbl⟩ := five26 hx23
  obtain ⟨g0, g1, g2, g3, g4⟩ := thaw5 hx13
  obtain ⟨y0, y1, y2, y3, y4⟩ := thaw5 hx23
  obtain ⟨w4, hw4⟩ : ∃ z, w3.setCell ⟨b, 4, none⟩ (.slice A3 ms.length c3) = z := ⟨_, rfl⟩
  have hx14 : w4.heap[b]? = some (.cells #[.int .i64 s, .int .i64 v, .int .i64 need, .int .i64 ph, .slice A3 ms.length c3] 26 (0, 0)) := hw4 ▸ row1 hx13
  have hbt4 : But [b] w3 w4 := hw4 ▸ (But.refl _ _).setCell (by simp) _
  have hx24 := hbt4.cells hx23 (by simp; exact hne)
  have HS4 := Lib.hid (And.intro ho3 (And.intro hb3 (And.intro hbt4 hx24)))
  obtain ⟨⟨k0, k1, k2, k3, k4⟩, kbl⟩ := five26 hx14
  obtain ⟨⟨p0, p1, p2, p3, p4⟩, pbl⟩ := five26 hx24
  obtain ⟨l0, l1, l2, l3, l4⟩ := thaw5 hx24
  clear ho3 hb3 hx13 hx23 hbt4 hx24 hx14 m0 m1 m2 m3 m4
  go_wp2
  (try rw [hw4])
  obtain ⟨q1, q2, q3, q4⟩ := HS4.out
  have hw := row5 (v0 := .int .i64 s) (v1 := .int .i64 v) (v2 := .int .i64 need) (v3 := .int .i64 ph) (v4 := .slice A3 ms.length c3) q4
  refine bodyPost_ret (v := .agg #[.int .i64 s, .int .i64 v, .int .i64 need, .int .i64 ph, .slice A3 ms.length c3]) (results_cell_row rfl _ _ b2 26 _ (0, 0) _ rfl hw Try.underlying26 rfl (by kernel_rfl)) rfl ⟨A3, c3, rfl, ?_, ?_⟩
  · have hbt : But [b, b2] w3 (((((w4.setCell ⟨b2, 0, none⟩ (.int .i64 s)).setCell ⟨b2, 1, none⟩ (.int .i64 v)).setCell ⟨b2, 2, none⟩ (.int .i64 need)).setCell ⟨b2, 3, none⟩ (.int .i64 ph)).setCell ⟨b2, 4, none⟩ (.slice A3 ms.length c3)) := (((((q3.mono (by simp)).setCell (by simp) _).setCell (by simp) _).setCell (by simp) _).setCell (by simp) _).setCell (by simp) _
    refine (q1.but hbt fun j hj hm => ?_).lower' (by simpa using HE.out.2.1.size)
    have h1 := (q1.block j hj).1
    have h2 := lt_of_block HE.out.2.2.1
    have h3 := lt_of_block HE.out.2.2.2.1
    simp at hm
    omega
  · have hlo : Below w.heap.size w w4 := by
      rw [← hw4]
      exact (HE.out.2.1.trans (q2.mono HE.out.2.1.size)).setCell (by have := HE.out.2.2.2.2.1; simp; omega) _
    have hle : w.heap.size ≤ b2 := by have := HE.out.2.2.2.2; omega
    exact ((((hlo.setCell (by simpa using hle) _).setCell (by simpa using hle) _).setCell (by simpa using hle) _).setCell (by simpa using hle) _).setCell (by simpa using hle) _
end
end Go.Proofs.Ytciihebaameccaa
