/- FindSpares' walk. -/
import Derived.Test.YtkkpfehgobanbaaFndJ
namespace Go.Proofs.Ytkkpfehgobanbaa
open Go.RowKit Go.Coop
set_option maxRecDepth 100000
def S0 : Fq := ⟨1, 1, 2, 1, [0, 0], [], []⟩
def S1 (l : List UInt8) : Fq := ⟨1, 1, 2, 1, [0, 1], [1], [l]⟩
def S2 (l : List UInt8) : Fq := ⟨1, 1, 2, 2, [1, 1], [1, 0], [l, l]⟩
theorem lev1 {l : List UInt8} (h : l.length ≤ 65536) : levelB [l] = true := by simp [levelB, h]
theorem lev2 {l : List UInt8} (h : l.length ≤ 65536) : levelB [l, l] = true := by simp [levelB, h]
theorem right_S0 : RightF S0 := right_mk (by decide) (by decide) (by decide)
theorem right_S1 {l : List UInt8} (h : l.length ≤ 65536) : RightF (S1 l) := right_mk ⟨by show MayF 1 1 (2 : Nat) 2; decide, by show (ixs 0 [0, 1]).length + (ixs 1 [0, 1]).length + (ixs 2 [0, 1]).length = 2; decide, by show ((ixs 1 [0, 1]).length : Int) ≤ 2; decide, rfl, rfl, lev1 h⟩ (by show ([1] : List Int).Nodup ∧ ∀ x ∈ ([1] : List Int), x ∈ ixs 1 [0, 1]; decide) (by show (1 : Int) = phF 2 [0, 1]; decide)
theorem begin_S : beginF 1 1 2 2 = (S0, 0) := by
  unfold beginF
  rw [if_pos (by decide)]
  rfl
theorem told_S0 {l : List UInt8} (h : l.length ≤ 65536) : S0.told 1 0 l = (S1 l, 0) := told_got right_S0 (by decide) (by decide) ⟨rfl, lev1 h⟩
theorem told_S1 {l : List UInt8} (h : l.length ≤ 65536) : (S1 l).told 0 0 l = (S2 l, 0) := told_got (right_S1 h) (by show (0 : Int) ≤ 0 ∧ (0 : Int) ≤ ((2 : Nat) : Int) - 1; decide) ⟨rfl, rfl⟩ ⟨rfl, lev2 h⟩
theorem ok_S0 : S0.Ok := by have h := begin_ok 1 1 2 2; rw [begin_S] at h; exact h
theorem ok_S1 {l : List UInt8} (h : l.length ≤ 65536) : (S1 l).Ok := ⟨by show 2 ≤ 1000000; decide, by show 1 ≤ 1000000; decide, by show 1 ≤ 1000000; decide, by intro x hx; have hx : x ∈ [l] := hx; simp at hx; subst hx; omega⟩
theorem rd_under {w w' : World} {A : Option Addr} {n : Nat} {l : List UInt8} (h : Rd w A n l) (hb : Below w.heap.size w w') : Rd w' A n l := h.below hb (Nat.le_refl _)
theorem FW.but5 {w w' : World} {r : Fq} {A : Option Addr} {c : Nat} {B : Option Addr} {d : Nat} {C : Option Addr} {k g z : Nat} {cs : Array Value} (h : FW w r A c B d C k) (ho : MO w z z C r.bs.length k r.bs) (hg : g < z) (hb : Go.Coop.But [g] w w') (hx : w.heap[g]? = some (.cells cs 5 (0, 0))) : FW w' r A c B d C k := by
  have hn : ∀ {X : Option Addr} {n c E : Nat} {l : List Value}, OwnV w 0 E X n c l → E ≠ 5 → ∀ i, X.map (·.block) = some i → i ∉ [g] := fun ho hE i hi hm => by
    obtain ⟨cur, hc⟩ := ho.typ hi
    simp at hm
    subst hm
    rw [hc] at hx
    injection hx with hx
    injection hx with _ hx _
    exact hE hx
  obtain ⟨vs, hv, _⟩ := h.oc.out
  exact ⟨h.oa.but hb (hn h.oa (by decide)), h.ob.but hb (hn h.ob (by decide)), (mo_but ho hb (hn hv (by decide)) (fun i cur _ hi hm => by simp at hm; omega)).lower (Nat.zero_le _) (Nat.zero_le _)⟩
theorem own_row {w : World} {b : Nat} {A : Option Addr} {n c : Nat} {l : List UInt8} (h : Go.Coop.Own w b 5 A n c l) (hn : 0 < n) : ∃ g cur, A = some ⟨g, 0, none⟩ ∧ w.heap[g]? = some (.cells cur 5 (0, 0)) ∧ b ≤ g := by
  rcases h.row.2 with ⟨_, h0⟩ | ⟨g, cap, cur, hv, hb, hg, _⟩
  · omega
  · injection hv with hA _ _
    exact ⟨g, cur, hA, hg, hb⟩
theorem cell_set {w : World} {g : Nat} {u v : Value} (h : w.cell? ⟨g, 0, none⟩ = some u) : (w.setCell ⟨g, 0, none⟩ v).cell? ⟨g, 0, none⟩ = some v := by
  exact World.cell?_setCell_same _ _ _ h
theorem own_lt {w : World} {b g : Nat} {A : Option Addr} {n c : Nat} {l : List UInt8} (h : Go.Coop.Own w b 5 A n c l) (_ : 0 < n) (e : A = some ⟨g, 0, none⟩) : g < w.heap.size := by
  obtain ⟨cur, hc, _⟩ := h.cells_at g e
  exact lt_of_block hc
theorem own0 {w : World} {b E g n c : Nat} {l : List Value} (h : OwnV w b E (some ⟨g, 0, none⟩) n c l) (hn : 0 < n) : ∃ u, w.cell? ⟨g, 0, none⟩ = some u := by
  obtain ⟨ad, e, _, hc⟩ := h.rd.cells hn
  injection e with e
  subst e
  obtain ⟨u, hu⟩ : ∃ u, l[0]? = some u := ⟨_, List.getElem?_eq_getElem (by have := h.len; omega)⟩
  have := hc 0 u hu
  rw [addr_at] at this
  exact ⟨u, this⟩
theorem own_cell {w : World} {b g : Nat} {n c : Nat} {l : List UInt8} (h : Go.Coop.Own w b 5 (some ⟨g, 0, none⟩) n c l) {x : UInt8} (hx : l[0]? = some x) : w.cell? ⟨g, 0, none⟩ = some (.int .u8 (x.toNat : Int)) := by
  have hn : 0 < n := by have := (List.getElem?_eq_some_iff.1 hx).1; have := h.len; omega
  obtain ⟨ad, e, _, hc⟩ := h.rd.cells hn
  injection e with e
  subst e
  have := hc 0 x hx
  rwa [addr_at] at this
section
variable (w : World)
set_option maxHeartbeats 1200000 in
theorem spares_law {X : Option Addr} {xl xd : Nat} {l : List UInt8} (hX : Rd w X xl l) : Calls Try.prog 7 #[.slice X xl xd] w (Told w true) := by
  have HX := Lib.hid hX
  have hxl : l.length = xl := hX.len
  clear hX
  by_cases h0 : xl = 0
  · subst h0
    go_enter Try.func7, Try.ntmps7
    go_wp2_with fail
    refine (awake_is _).mono ?_
    rintro e wq ⟨rfl, hbq⟩
    have HQ := Lib.hid (hbq)
    clear hbq
    go_wp2
    go_ret
    exact told_mk rfl HQ.out
  · have hxb : ((xl : Int) == 0) = false := by simp; omega
    have hxb2 : ¬ (xl : Int) = 0 := by omega
    by_cases h1 : 100 < xl
    · have hxc : decide ((100 : Int) < (xl : Int)) = true := decide_eq_true (by omega)
      go_enter Try.func7, Try.ntmps7
      go_wp2_with fail
      refine (awake_is _).mono ?_
      rintro e wq ⟨rfl, hbq⟩
      have HQ := Lib.hid (hbq)
      clear hbq
      go_wp2
      go_ret
      exact told_mk rfl HQ.out
    · have hxc : decide ((100 : Int) < (xl : Int)) = false := decide_eq_false (by omega)
      have hle : Hid (l.length ≤ 65536) := by show _ ≤ _; omega
      obtain ⟨x0, hx0⟩ : ∃ x, l[0]? = some x := ⟨_, List.getElem?_eq_getElem (by omega)⟩
      have HX0 := Lib.hid (And.intro hx0 hxl)
      clear hx0 hxl
      go_enter Try.func7, Try.ntmps7
      go_wp2_with fail
      refine (begin_is _ 1 1 2 2).mono ?_
      rintro e w1 h1
      rw [begin_S] at h1
      obtain ⟨A1, c1, B1, d1, C1, k1, rfl, hf1, hb1⟩ := h1.tw
      clear h1
      obtain ⟨bf, hbf⟩ : ∃ z, w1.heap.size = z := ⟨_, rfl⟩
      obtain ⟨w2, hw2⟩ : ∃ z, w1.alloc (.cells #[.int .i64 S0.s, .int .i64 S0.v, .int .i64 S0.need, .int .i64 S0.ph, .slice A1 S0.ms.length c1, .slice B1 S0.ws.length d1, .slice C1 S0.bs.length k1] 27) = z := ⟨_, rfl⟩
      obtain ⟨hf2, hb2⟩ := BF.new hf1 hw2 hbf
      have HB_w2 := Lib.hid (hb1.trans (hb2.mono hb1.size))
      have Hf_w2 := Lib.hid hf2
      have HX_w2 := Lib.hid (HX.out.below HB_w2.out (Nat.le_refl _))
      clear hf1 hb1 hf2 hb2
      have Kf := Hf_w2
      have KX := HX_w2
      have HB2S := Lib.hid HB_w2.out.size
      have HZ_w2 := Lib.hid (Below.refl w2.heap.size w2)
      go_wp2_with fail
      (try rw [hw2]); (try rw [hbf])
      clear hw2 hbf
      refine (copy_any X xl xd l w2 HX_w2.out (by omega)).mono ?_
      rintro e w3 ⟨A3, c3, rfl, ho3, hB⟩
      have hW : Below w2.heap.size w2 w3 := hB
      have HB_w3 := Lib.hid (HB_w2.out.trans (hW.mono HB_w2.out.size))
      have Hf_w3 := Lib.hid (Hf_w2.out.below hW)
      have HX_w3 := Lib.hid (HX_w2.out.below hW (Nat.le_refl _))
      have HZ_w3 := Lib.hid (HZ_w2.out.trans (hW.mono HZ_w2.out.size))
      clear hW HB_w2 Hf_w2 HX_w2 HZ_w2
      have HO3 := Lib.hid ho3
      have HGI3 := Lib.hid (fun g (e : A3 = some ⟨g, 0, none⟩) => own_lt ho3 (by omega) e)
      have HS2 : Hid (w.heap.size ≤ w2.heap.size) := HB2S.out
      clear ho3 hB
      obtain ⟨⟨f0, f1, f2, f3, f4, f5, f6⟩, fbl⟩ := Hf_w3.out.cells
      go_wp2_with fail
      refine (told_is _ S0.s S0.v S0.need S0.ph 1 0 (Hf_w3.out.fw.fr ok_S0) HO3.out.rd (by omega) (told_S0 hle.out)).mono ?_
      rintro e w4 ⟨A4, c4, B4, d4, C4, k4, rfl, oa, ob, oc, dj, hB⟩
      clear f0 f1 f2 f3 f4 f5 f6 fbl
      have hW : Below w3.heap.size w3 w4 := hB
      have HB_w4 := Lib.hid (HB_w3.out.trans (hW.mono HB_w3.out.size))
      have Hf_w4 := Lib.hid (Hf_w3.out.below hW)
      have HX_w4 := Lib.hid (HX_w3.out.below hW (Nat.le_refl _))
      have HZ_w4 := Lib.hid (HZ_w3.out.trans (hW.mono HZ_w3.out.size))
      clear hW HB_w3 Hf_w3 HX_w3 HZ_w3
      have HO4 := Lib.hid (HO3.out.below hB (Nat.le_refl _))
      have HFW : Hid (FW w4 (S1 l) A4 c4 B4 d4 C4 k4) := ⟨oa.lower' (Nat.zero_le _), ob.lower' (Nat.zero_le _), oc.lower (Nat.zero_le _) (Nat.zero_le _)⟩
      have HMO := Lib.hid oc
      clear oa ob oc dj hB HO3
      obtain ⟨bo, hbo⟩ : ∃ z, w4.heap.size = z := ⟨_, rfl⟩
      obtain ⟨w5, hw5⟩ : ∃ z, w4.alloc (.cells #[.int .i64 (S1 l).s, .int .i64 (S1 l).v, .int .i64 (S1 l).need, .int .i64 (S1 l).ph, .slice A4 (S1 l).ms.length c4, .slice B4 (S1 l).ws.length d4, .slice C4 (S1 l).bs.length k4] 27) = z := ⟨_, rfl⟩
      obtain ⟨ho5, hB⟩ := BF.new HFW.out hw5 hbo
      have hW : Below w4.heap.size w4 w5 := hB
      have HB_w5 := Lib.hid (HB_w4.out.trans (hW.mono HB_w4.out.size))
      have Hf_w5 := Lib.hid (Hf_w4.out.below hW)
      have HX_w5 := Lib.hid (HX_w4.out.below hW (Nat.le_refl _))
      have HZ_w5 := Lib.hid (HZ_w4.out.trans (hW.mono HZ_w4.out.size))
      clear hW HB_w4 Hf_w4 HX_w4 HZ_w4
      have Ho_w5 := Lib.hid (ho5)
      have HO5 := Lib.hid (HO4.out.below hB (Nat.le_refl _))
      have HM5 := Lib.hid (HMO.out.below hB (Nat.le_refl _))
      clear ho5 hB HO4 HFW HMO
      obtain ⟨gi, cu, rfl, hgc, hgl⟩ := own_row HO5.out (by omega)
      have hg0 := own_cell HO5.out HX0.out.1
      have hgf : w5.frozen? ⟨gi, 0, none⟩ = false := by simp [World.frozen?, hgc]
      have HGC := Lib.hid (And.intro hgc hgl)
      have HGI : Hid (gi < w3.heap.size) := HGI3.out gi rfl
      clear hgc hgl
      obtain ⟨w6, hw6⟩ : ∃ z, w5.setCell ⟨gi, 0, none⟩ (.int .u8 (bits .xor .u8 (x0.toNat : Int) 255)) = z := ⟨_, rfl⟩
      have hbt : Go.Coop.But [gi] w5 w6 := hw6 ▸ (Go.Coop.But.refl _ _).setCell (by simp) _
      have HZ6 : Hid (Below w2.heap.size w2 w6) := HZ_w5.out.trans (hbt.below (B := w2.heap.size) HZ_w5.out.size (by intro i hi; simp at hi; have := HGC.out.2; omega))
      have Kf6 := Lib.hid ((⟨(HZ6.out.block _ (lt_of_block Kf.out.row)).trans Kf.out.row, Kf.out.fw.below HZ6.out⟩ : BF w6 bf S0 A1 c1 B1 d1 C1 k1))
      have KX6 := Lib.hid (KX.out.below HZ6.out (Nat.le_refl _))
      have hgi3 : gi < w3.heap.size := HGI.out
      have Ko6 : Hid (BF w6 bo (S1 l) A4 c4 B4 d4 C4 k4) := ⟨hbt.cells Ho_w5.out.row (fun hm => by simp at hm; subst hm; have h1 := Ho_w5.out.row; rw [HGC.out.1] at h1; injection h1 with h1; injection h1 with _ h1 _; exact absurd h1 (by decide)), Ho_w5.out.fw.but5 HM5.out hgi3 hbt HGC.out.1⟩
      have HB6 : Hid (Below w.heap.size w w6) := HB_w5.out.trans (hbt.below (B := w.heap.size) HB_w5.out.size (by intro i hi; simp at hi; have := HGC.out.2; have := HS2.out; omega))
      obtain ⟨⟨f0, f1, f2, f3, f4, f5, f6⟩, fbl⟩ := Hf_w5.out.cells
      obtain ⟨⟨o0, o1, o2, o3, o4, o5, o6⟩, obl⟩ := Ko6.out.cells
      go_wp2_with fail
      (try rw [hw5]); (try rw [hbo]); (try rw [hw6])
      clear hw5 hbo hw6 hbt hgi3 hgf hg0
      clear f0 f1 f2 f3 f4 f5 f6 fbl
      clear o0 o1 o2 o3 o4 o5 o6 obl Hf_w5 HX_w5 HZ_w5 Ho_w5 HB_w5 Kf KX
      have HB_w6 := HB6
      have HB_w6K := HB6
      clear HB6
      have HY_w6 := Lib.hid (Below.refl w6.heap.size w6)
      refine (told_is _ (S1 l).s (S1 l).v (S1 l).need (S1 l).ph 0 0 (Ko6.out.fw.fr (ok_S1 hle.out)) KX6.out (by omega) (told_S1 hle.out)).mono ?_
      rintro e w7 ⟨A7, c7, B7, d7, C7, k7, rfl, oa, ob, oc, dj, hB⟩
      have hW : Below w6.heap.size w6 w7 := hB
      have HB_w7 := Lib.hid (HB_w6.out.trans (hW.mono HB_w6.out.size))
      have HY_w7 := Lib.hid (HY_w6.out.trans (hW.mono HY_w6.out.size))
      clear hW HB_w6 HY_w6
      have HFW : Hid (FW w7 (S2 l) A7 c7 B7 d7 C7 k7) := ⟨oa.lower' (Nat.zero_le _), ob.lower' (Nat.zero_le _), oc.lower (Nat.zero_le _) (Nat.zero_le _)⟩
      have HOA := Lib.hid oa
      have HOB := Lib.hid ob
      have HOC := Lib.hid oc
      clear oa ob oc dj hB
      obtain ⟨bt, hbt⟩ : ∃ z, w7.heap.size = z := ⟨_, rfl⟩
      obtain ⟨w8, hw8⟩ : ∃ z, w7.alloc (.cells #[.int .i64 (S2 l).s, .int .i64 (S2 l).v, .int .i64 (S2 l).need, .int .i64 (S2 l).ph, .slice A7 (S2 l).ms.length c7, .slice B7 (S2 l).ws.length d7, .slice C7 (S2 l).bs.length k7] 27) = z := ⟨_, rfl⟩
      obtain ⟨ht8, hB⟩ := BF.new HFW.out hw8 hbt
      have HOA8 := Lib.hid (HOA.out.below hB (Nat.le_refl _))
      have HOB8 := Lib.hid (HOB.out.below hB (Nat.le_refl _))
      have HOC8 := Lib.hid (HOC.out.below hB (Nat.le_refl _))
      have hW : Below w7.heap.size w7 w8 := hB
      have HB_w8 := Lib.hid (HB_w7.out.trans (hW.mono HB_w7.out.size))
      have HY_w8 := Lib.hid (HY_w7.out.trans (hW.mono HY_w7.out.size))
      clear hW HB_w7 HY_w7
      have Ht_w8 := Lib.hid (ht8)
      clear ht8 hB HFW HOA HOB HOC
      go_upto_region 8 with (fail)
      (try rw [hw8]); (try rw [hbt])
      clear hw8 hbt
      obtain ⟨g4, B40, d40, r4, hC4, hg4, hgl4, hf40, hr4, hc4, ho4⟩ := Ko6.out.fw.oc.row (show 0 < (S1 l).bs.length by show 0 < 1; decide)
      subst hC4
      obtain rfl : r4 = l := by have h1 : (S1 l).bs[0]? = some l := rfl; rw [h1] at hr4; injection hr4 with hr4; exact hr4.symm
      have HR4 := Lib.hid ho4.rd
      have HC4 := Lib.hid (And.intro hc4 hgl4)
      clear hg4 hgl4 hf40 hr4 hc4 ho4
      have hl1 : (S1 r4).bs.length = 1 := rfl
      have hl2 : (S2 r4).bs.length = 2 := rfl
      have hxr : r4.length = xl := HX0.out.2
      obtain ⟨⟨o0, o1, o2, o3, o4, o5, o6⟩, obl⟩ := seven ((HY_w8.out.block _ (lt_of_block Ko6.out.row)).trans Ko6.out.row)
      have hc4 := (HY_w8.out.cell (p := ⟨g4, 0, none⟩) HC4.out.2).trans HC4.out.1
      obtain ⟨⟨t0, t1, t2, t3, t4, t5, t6⟩, tbl⟩ := Ht_w8.out.cells
      go_wp2_with fail
      rw [← hxr]
      refine (same_any _ _ _ r4 _ _ _ r4 w8 (HR4.out.below HY_w8.out (Nat.le_refl _)) (by have h := KX6.out.below HY_w8.out (Nat.le_refl _); rw [← hxr] at h; exact h)).mono ?_
      rintro e w' ⟨rfl, rfl⟩
      rw [beq_self_eq_true]
      obtain ⟨g7, B70, d70, r7, hC7, hg7, hgl7, hf70, hr7, hc7, ho7⟩ := HOC8.out.row (show 0 < (S2 r4).bs.length by show 0 < 2; decide)
      subst hC7
      obtain rfl : r7 = r4 := by have h1 : (S2 r4).bs[0]? = some r4 := rfl; rw [h1] at hr7; injection hr7 with hr7; exact hr7.symm
      obtain ⟨g70, cu7, hB70, hgc7, hgb7⟩ := own_row ho7 (by omega)
      subst hB70
      have hv7 := own_cell ho7 HX0.out.1
      have hf7 : w8.frozen? ⟨g70, 0, none⟩ = false := by simp [World.frozen?, hgc7]
      obtain ⟨w9, hw9⟩ : ∃ z, w8.setCell ⟨g70, 0, none⟩ (.int .u8 (bits .xor .u8 (x0.toNat : Int) 255)) = z := ⟨_, rfl⟩
      have hbt : Go.Coop.But [g70] w8 w9 := hw9 ▸ (Go.Coop.But.refl _ _).setCell (by simp) _
      have HY_w9 : Hid (Below w6.heap.size w6 w9) := HY_w8.out.trans (hbt.below (B := w6.heap.size) HY_w8.out.size (by intro i hi; simp at hi; omega))
      have hne : ∀ {E i : Nat} {cur : Array Value}, w8.heap[i]? = some (.cells cur E (0, 0)) → E ≠ 5 → i ∉ [g70] := fun hi hE hm => by
        simp at hm
        subst hm
        rw [hgc7] at hi
        injection hi with hi
        injection hi with _ hi _
        exact hE hi.symm
      have HOA9 := Lib.hid (HOA8.out.but hbt (fun j hj => by obtain ⟨c, hc⟩ := HOA8.out.typ hj; exact hne hc (by decide)))
      have HOB9 := Lib.hid (HOB8.out.but hbt (fun j hj => by obtain ⟨c, hc⟩ := HOB8.out.typ hj; exact hne hc (by decide)))
      have HT9 := Lib.hid (hbt.cells Ht_w8.out.row (hne Ht_w8.out.row (by decide)))
      clear hne
      obtain ⟨⟨p0, p1, p2, p3, p4, p5, p6⟩, pbl⟩ := seven HT9.out
      go_upto_region 11 with (fail)
      (try rw [hw9])
      clear hw9 hbt
      clear o0 o1 o2 o3 o4 o5 o6 obl hc4
      clear hv7 hf7 hc7 hf70 hr7 ho7 hgc7 hg7 hgl7 HOA8 HOB8 HOC8
      clear t0 t1 t2 t3 t4 t5 t6 tbl
      obtain ⟨gm, rfl, hgm, hgml, hfm⟩ := HOA9.out.addr (show 0 < (S2 r7).ms.length by show 0 < 2; decide)
      obtain ⟨gw, rfl, hgw, hgwl, hfw⟩ := HOB9.out.addr (show 0 < (S2 r7).ws.length by show 0 < 2; decide)
      obtain ⟨cm, hcm⟩ := HOA9.out.typ (j := gm) rfl
      obtain ⟨cw, hcw⟩ := HOB9.out.typ (j := gw) rfl
      have hm2 : (S2 r7).ms.length = 2 := rfl
      have hw2 : (S2 r7).ws.length = 2 := rfl
      have hnm : bt ≠ gm := fun e => by subst e; have h := HT9.out; rw [hcm] at h; injection h with h; injection h with _ h _; exact absurd h (by decide)
      have hnw : bt ≠ gw := fun e => by subst e; have h := HT9.out; rw [hcw] at h; injection h with h; injection h with _ h _; exact absurd h (by decide)
      obtain ⟨y0, h_y0⟩ : ∃ z, w9.drew = z := ⟨_, rfl⟩
      have hS0 : y0.cell? ⟨bt, 4, none⟩ = some (.slice (some ⟨gm, 0, none⟩) (S2 r7).ms.length c7) ∧ y0.cell? ⟨bt, 5, none⟩ = some (.slice (some ⟨gw, 0, none⟩) (S2 r7).ws.length d7) := h_y0 ▸ ⟨p4, p5⟩
      have hfm0 : y0.frozen? ⟨gm, 0, none⟩ = false := h_y0 ▸ hfm 0
      have hfw0 : y0.frozen? ⟨gw, 0, none⟩ = false := h_y0 ▸ hfw 0
      have hvm : ∃ u, y0.cell? ⟨gm, 0, none⟩ = some u := by rw [← h_y0]; exact own0 HOA9.out.drew (by show 0 < 2; decide)
      have hvw : ∃ u, y0.cell? ⟨gw, 0, none⟩ = some u := by rw [← h_y0]; exact own0 HOB9.out.drew (by show 0 < 2; decide)
      obtain ⟨um, hvm⟩ := hvm
      obtain ⟨uw, hvw⟩ := hvw
      have HY0 : Hid (Below w6.heap.size w6 y0) := h_y0 ▸ HY_w9.out.drew
      refine wp_region_held_drew (S := fun u => u.cell? ⟨bt, 4, none⟩ = some (.slice (some ⟨gm, 0, none⟩) (S2 r7).ms.length c7) ∧ u.cell? ⟨bt, 5, none⟩ = some (.slice (some ⟨gw, 0, none⟩) (S2 r7).ws.length d7)) (by kernel_rfl) (by rw [h_y0]; exact hS0) (fun hHeld => ?_)
      rw [h_y0]
      clear h_y0 hHeld
      have hHeld := hS0
      refine wpAnyH_take (i := 0) (oi := ⟨some 81, _, _, _, _, _⟩) (v := ?_) rfl (by kernel_rfl) (by kernel_rfl) (by kernel_rfl) (fun _ _ _ h => h) (Or.inl ⟨by rfl, ?_⟩) (by assumption) ?_
      rotate_left
      · intro w hSw
        (try dsimp only at hSw)
        go_simp
        all_goals (with_reducible rfl)
      try simp only [Act.put, List.setIfInBounds_toArray, List.set_cons_zero, List.set_cons_succ]
      refine wpAnyH_take (i := 1) (oi := ⟨some 82, _, _, _, _, _⟩) (v := ?_) rfl (by kernel_rfl) (by kernel_rfl) (by kernel_rfl) (fun _ _ _ h => h) (Or.inl ⟨by rfl, ?_⟩) (by assumption) ?_
      rotate_left
      · intro w hSw
        (try dsimp only at hSw)
        go_simp
        all_goals (with_reducible rfl)
      try simp only [Act.put, List.setIfInBounds_toArray, List.set_cons_zero, List.set_cons_succ]
      refine wpAnyH_take (i := 2) (oi := ⟨some 83, _, _, _, _, _⟩) (v := ?_) rfl (by kernel_rfl) (by kernel_rfl) (by kernel_rfl) (fun _ _ _ h => h) (Or.inl ⟨by rfl, ?_⟩) (by assumption) ?_
      rotate_left
      · intro w hSw
        (try dsimp only at hSw)
        go_simp
        all_goals (with_reducible rfl)
      try simp only [Act.put, List.setIfInBounds_toArray, List.set_cons_zero, List.set_cons_succ]
      refine wpAnyH_take (i := 3) (oi := ⟨some 84, _, _, _, _, _⟩) (v := ?_) rfl (by kernel_rfl) (by kernel_rfl) (by kernel_rfl) (fun _ _ _ h => h) (Or.inl ⟨by rfl, ?_⟩) (by assumption) ?_
      rotate_left
      · intro w hSw
        (try dsimp only at hSw)
        go_simp
        all_goals (with_reducible rfl)
      try simp only [Act.put, List.setIfInBounds_toArray, List.set_cons_zero, List.set_cons_succ]
      refine wpAnyH_take (i := 4) (oi := ⟨some 85, _, _, _, _, _⟩) (v := ?_) rfl (by kernel_rfl) (by kernel_rfl) (by kernel_rfl) (fun _ _ _ h => h) (Or.inl ⟨by rfl, ?_⟩) (by assumption) ?_
      rotate_left
      · intro w hSw
        (try dsimp only at hSw)
        go_simp
        all_goals (with_reducible rfl)
      try simp only [Act.put, List.setIfInBounds_toArray, List.set_cons_zero, List.set_cons_succ]
      refine wpAnyH_ready (rs := [5]) (by kernel_rfl) (by simp) (AllReadyH.cons (o := ⟨none, _, _, _, _, _⟩) rfl (fun K hK => ?_) AllReadyH.nil)
      go_simp
      obtain ⟨y1, hy1⟩ : ∃ z, y0.setCell ⟨gm, 0, none⟩ (.int .i64 9) = z := ⟨_, rfl⟩
      (try rw [hy1])
      have hb1' : Go.Coop.But [gm] y0 y1 := hy1 ▸ (Go.Coop.But.refl _ _).setCell (by simp) _
      have hs1 : y1.cell? ⟨bt, 4, none⟩ = some (.slice (some ⟨gm, 0, none⟩) (S2 r7).ms.length c7) ∧ y1.cell? ⟨bt, 5, none⟩ = some (.slice (some ⟨gw, 0, none⟩) (S2 r7).ws.length d7) := ⟨(hy1 ▸ World.cell?_setCell_other _ _ _ _ (by intro q; injection q with q _ _; exact hnm q.symm)).trans hS0.1, (hy1 ▸ World.cell?_setCell_other _ _ _ _ (by intro q; injection q with q _ _; exact hnm q.symm)).trans hS0.2⟩
      have HY1 : Hid (Below w6.heap.size w6 y1) := HY0.out.trans (hb1'.below (B := w6.heap.size) HY0.out.size (by intro i hi; simp at hi; omega))
      have hfw1 : y1.frozen? ⟨gw, 0, none⟩ = false := by rw [← hy1]; simpa using hfw0
      obtain ⟨uw1, hvw1⟩ : ∃ u, y1.cell? ⟨gw, 0, none⟩ = some u := by
        by_cases e : gm = gw
        · subst e; exact ⟨.int .i64 9, by rw [← hy1]; exact cell_set hvm⟩
        · exact ⟨uw, by rw [← hy1]; exact (World.cell?_setCell_other _ _ _ _ (by intro q; injection q with q _ _; exact e q)).trans hvw⟩
      refine hK.out _ _ (by exact hs1) (fun hHeld => ?_)
      clear hK K hy1 hb1' hHeld
      have hHeld := hs1
      try simp only [Act.put, List.setIfInBounds_toArray, List.set_cons_zero, List.set_cons_succ]
      refine wpAnyH_take (i := 6) (oi := ⟨some 86, _, _, _, _, _⟩) (v := ?_) rfl (by kernel_rfl) (by kernel_rfl) (by kernel_rfl) (fun _ _ _ h => h) (Or.inl ⟨by rfl, ?_⟩) (by assumption) ?_
      rotate_left
      · intro w hSw
        (try dsimp only at hSw)
        go_simp
        all_goals (with_reducible rfl)
      try simp only [Act.put, List.setIfInBounds_toArray, List.set_cons_zero, List.set_cons_succ]
      refine wpAnyH_ready (rs := [7]) (by kernel_rfl) (by simp) (AllReadyH.cons (o := ⟨none, _, _, _, _, _⟩) rfl (fun K hK => ?_) AllReadyH.nil)
      go_simp
      obtain ⟨y2, hy2⟩ : ∃ z, y1.setCell ⟨gw, 0, none⟩ (.int .i64 9) = z := ⟨_, rfl⟩
      (try rw [hy2])
      have hb2' : Go.Coop.But [gw] y1 y2 := hy2 ▸ (Go.Coop.But.refl _ _).setCell (by simp) _
      have HY2 : Hid (Below w6.heap.size w6 y2) := HY1.out.trans (hb2'.below (B := w6.heap.size) HY1.out.size (by intro i hi; simp at hi; omega))
      refine hK.out _ _ (by exact ⟨(hy2 ▸ World.cell?_setCell_other _ _ _ _ (by intro q; injection q with q _ _; exact hnw q.symm)).trans hs1.1, (hy2 ▸ World.cell?_setCell_other _ _ _ _ (by intro q; injection q with q _ _; exact hnw q.symm)).trans hs1.2⟩) (fun hHeld => ?_)
      clear hK K hy2 hb2' hHeld
      try simp only [Act.put, List.setIfInBounds_toArray, List.set_cons_zero, List.set_cons_succ]
      refine wpAnyH_done (by kernel_rfl) ?_ _
      clear hS0 hs1 hfm hfw hfm0 hfw0 hvm hvw hvw1 hfw1 hgm hgw hgml hgwl hcm hcw hnm hnw p0 p1 p2 p3 p4 p5 p6 pbl HY0 HY1 HOA9 HOB9 HT9
      have HY_y2 := HY2
      have HB_y2 := Lib.hid (HB_w6K.out.trans (HY2.out.mono HB_w6K.out.size))
      clear HY2
      obtain ⟨⟨o0, o1, o2, o3, o4, o5, o6⟩, obl⟩ := seven ((HY_y2.out.block _ (lt_of_block Ko6.out.row)).trans Ko6.out.row)
      have hc4 := (HY_y2.out.cell (p := ⟨g4, 0, none⟩) HC4.out.2).trans HC4.out.1
      go_wp2_with fail
      (try rw [← hxr])
      refine (same_any _ _ _ r7 _ _ _ r7 y2 (HR4.out.below HY_y2.out (Nat.le_refl _)) (by have h := KX6.out.below HY_y2.out (Nat.le_refl _); rw [← hxr] at h; exact h)).mono ?_
      rintro e w' ⟨rfl, rfl⟩
      rw [beq_self_eq_true]
      go_wp2_with fail
      obtain ⟨v1, hv1⟩ : ∃ z, y2.alloc (.cells #[.int .i64 0, .int .i64 1] 3) = z := ⟨_, rfl⟩
      obtain ⟨hrv1, hB⟩ := lit_in (w := y2) (l := [0, 1]) rfl hv1
      clear o0 o1 o2 o3 o4 o5 o6 obl hc4
      have hW : Below y2.heap.size y2 v1 := hB
      have HB_v1 := Lib.hid (HB_y2.out.trans (hW.mono HB_y2.out.size))
      have HY_v1 := Lib.hid (HY_y2.out.trans (hW.mono HY_y2.out.size))
      clear hW HB_y2 HY_y2
      clear hB
      (try rw [hv1]); clear hv1
      have hsr : RdV v1 A4 (S1 r7).ms.length (([0, 1] : List Int).map IV) := Ko6.out.fw.oa.rd.below HY_v1.out (Nat.le_refl _)
      refine (ints_is (l := [0, 1]) (n := (S1 r7).ms.length) hsr hrv1 (by show 2 ≤ 1000000; decide) (q := true) (by decide)).mono ?_
      clear hsr
      rintro e v1b ⟨rfl, hB⟩
      clear hrv1
      have hW : Below v1.heap.size v1 v1b := hB
      have HB_v1b := Lib.hid (HB_v1.out.trans (hW.mono HB_v1.out.size))
      have HY_v1b := Lib.hid (HY_v1.out.trans (hW.mono HY_v1.out.size))
      clear hW HB_v1 HY_v1
      clear hB
      obtain ⟨⟨o0, o1, o2, o3, o4, o5, o6⟩, obl⟩ := seven ((HY_v1b.out.block _ (lt_of_block Ko6.out.row)).trans Ko6.out.row)
      have hc4 := (HY_v1b.out.cell (p := ⟨g4, 0, none⟩) HC4.out.2).trans HC4.out.1
      go_wp2_with fail
      obtain ⟨v2, hv2⟩ : ∃ z, v1b.alloc (.cells #[.int .i64 1] 3) = z := ⟨_, rfl⟩
      obtain ⟨hrv2, hB⟩ := lit_in (w := v1b) (l := [1]) rfl hv2
      clear o0 o1 o2 o3 o4 o5 o6 obl hc4
      have hW : Below v1b.heap.size v1b v2 := hB
      have HB_v2 := Lib.hid (HB_v1b.out.trans (hW.mono HB_v1b.out.size))
      have HY_v2 := Lib.hid (HY_v1b.out.trans (hW.mono HY_v1b.out.size))
      clear hW HB_v1b HY_v1b
      clear hB
      (try rw [hv2]); clear hv2
      have hsr : RdV v2 B4 (S1 r7).ws.length (([1] : List Int).map IV) := Ko6.out.fw.ob.rd.below HY_v2.out (Nat.le_refl _)
      refine (ints_is (l := [1]) (n := (S1 r7).ws.length) hsr hrv2 (by show 1 ≤ 1000000; decide) (q := true) (by decide)).mono ?_
      clear hsr
      rintro e v2b ⟨rfl, hB⟩
      clear hrv2
      have hW : Below v2.heap.size v2 v2b := hB
      have HB_v2b := Lib.hid (HB_v2.out.trans (hW.mono HB_v2.out.size))
      have HY_v2b := Lib.hid (HY_v2.out.trans (hW.mono HY_v2.out.size))
      clear hW HB_v2 HY_v2
      clear hB
      obtain ⟨⟨f0, f1, f2, f3, f4, f5, f6⟩, fbl⟩ := seven ((HY_v2b.out.block _ (lt_of_block Kf6.out.row)).trans Kf6.out.row)
      go_wp2_with fail
      obtain ⟨v3, hv3⟩ : ∃ z, v2b.alloc (.cells #[.int .i64 0, .int .i64 0] 3) = z := ⟨_, rfl⟩
      obtain ⟨hrv3, hB⟩ := lit_in (w := v2b) (l := [0, 0]) rfl hv3
      have hW : Below v2b.heap.size v2b v3 := hB
      have HB_v3 := Lib.hid (HB_v2b.out.trans (hW.mono HB_v2b.out.size))
      have HY_v3 := Lib.hid (HY_v2b.out.trans (hW.mono HY_v2b.out.size))
      clear hW HB_v2b HY_v2b
      clear hB
      (try rw [hv3]); clear hv3
      have hsr : RdV v3 A1 S0.ms.length (([0, 0] : List Int).map IV) := Kf6.out.fw.oa.rd.below HY_v3.out (Nat.le_refl _)
      refine (ints_is (l := [0, 0]) (n := S0.ms.length) hsr hrv3 (by show 2 ≤ 1000000; decide) (q := true) (by decide)).mono ?_
      clear hsr
      rintro e v3b ⟨rfl, hB⟩
      clear hrv3
      have hW : Below v3.heap.size v3 v3b := hB
      have HB_v3b := Lib.hid (HB_v3.out.trans (hW.mono HB_v3.out.size))
      have HY_v3b := Lib.hid (HY_v3.out.trans (hW.mono HY_v3.out.size))
      clear hW HB_v3 HY_v3
      clear hB
      clear f0 f1 f2 f3 f4 f5 f6 fbl
      go_wp2_with fail
      refine (awake_is _).mono ?_
      rintro e wq ⟨rfl, hbq⟩
      have HQ := Lib.hid (HB_v3b.out.trans (hbq.mono HB_v3b.out.size))
      clear hbq
      go_wp2
      go_ret
      exact told_mk rfl HQ.out
end
end Go.Proofs.Ytkkpfehgobanbaa
