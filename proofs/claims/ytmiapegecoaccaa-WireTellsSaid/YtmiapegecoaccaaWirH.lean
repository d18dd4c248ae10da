/- getInfo; the closure of GetTell. -/
import Derived.Test.YtmiapegecoaccaaWirG
import Derived.Deep.RegionHeld3
namespace Go.Proofs.Ytmiapegecoaccaa
open Go.RowKit Go.Coop
set_option maxRecDepth 100000
theorem zero30 : (Try.prog.info? 30).map (fun i => (i.zero, i.size)) = some (some (.agg #[.int .i64 0, .int .i64 0, .int .i64 0, .int .u8 0]), 4) := by kernel_rfl
theorem row4 {w : World} {b : Nat} {T : TypeId} {x0 x1 x2 x3 v0 v1 v2 v3 : Value} (h : w.heap[b]? = some (.cells #[x0, x1, x2, x3] T (0, 0))) :
    ((((w.setCell ⟨b, 0, none⟩ v0).setCell ⟨b, 1, none⟩ v1).setCell ⟨b, 2, none⟩ v2).setCell ⟨b, 3, none⟩ v3).heap[b]? = some (.cells #[v0, v1, v2, v3] T (0, 0)) := by
  have h0 := set7 h v0 (i := 0) (cs' := #[v0, x1, x2, x3]) rfl
  have h1 := set7 h0 v1 (i := 1) (cs' := #[v0, v1, x2, x3]) rfl
  have h2 := set7 h1 v2 (i := 2) (cs' := #[v0, v1, v2, x3]) rfl
  exact set7 h2 v3 (i := 3) (cs' := #[v0, v1, v2, v3]) rfl
theorem but4 {w : World} {b : Nat} {v0 v1 v2 v3 : Value} : But [b] w ((((w.setCell ⟨b, 0, none⟩ v0).setCell ⟨b, 1, none⟩ v1).setCell ⟨b, 2, none⟩ v2).setCell ⟨b, 3, none⟩ v3) := by
  refine But.setCell (gs := [b]) (p := ⟨b, 3, none⟩) ?_ (by simp) _
  refine But.setCell (gs := [b]) (p := ⟨b, 2, none⟩) ?_ (by simp) _
  refine But.setCell (gs := [b]) (p := ⟨b, 1, none⟩) ?_ (by simp) _
  refine But.setCell (gs := [b]) (p := ⟨b, 0, none⟩) ?_ (by simp) _
  exact But.refl _ _
theorem _root_.Go.Coop.OwnK.typ {w : World} {base E k n c : Nat} {A : Option Addr} {vs : List Value} (h : OwnK w base E k A n c vs) {j : Nat} (hj : A.map (·.block) = some j) : ∃ cur, w.heap[j]? = some (.cells cur E (0, 0)) := h.row_w.typ hj
theorem NSt.drew {w : World} {bb ba bw n c : Nat} {A : Option Addr} {b : List UInt8} {s : Nat × Bool} (h : NSt w bb ba bw A n c b s) : NSt w.drew bb ba bw A n c b s :=
  ⟨h.kb, h.ka, h.kw, h.rd.drew, h.apart, h.small, h.cap, h.le, h.old⟩
section
variable (w : World)
set_option maxHeartbeats 2000000 in
theorem getInfo_is {bb ba bw n c : Nat} {A : Option Addr} {b : List UInt8} {s : Nat × Bool} (h : NSt w bb ba bw A n c b s) :
    Calls Try.prog 39 #[nextV bb ba bw] w fun e w' => e = .returned (ival (rdI b s).1) ∧ NSt w' bb ba bw A n c b (rdI b s).2 ∧ But [ba, bw] w w' := by
  obtain ⟨gr, hgr⟩ : ∃ g, w.heap.size = g := ⟨_, rfl⟩
  obtain ⟨y1, hy1⟩ : ∃ x, w.alloc (.cells #[.int .i64 0, .int .i64 0, .int .i64 0, .int .u8 0] 30) = x := ⟨_, rfl⟩
  obtain ⟨hb1, hx1⟩ := box_new hy1
  obtain ⟨y2, hy2⟩ : ∃ x, y1.alloc (.cells #[.int .i64 0, .int .i64 0, .int .i64 0, .int .u8 0] 30) = x := ⟨_, rfl⟩
  obtain ⟨hb2, hx2⟩ := box_new hy2
  have t1 : y1.heap.size = gr + 1 := by rw [← hy1, size_alloc, hgr]
  rw [hgr] at hx1
  rw [t1] at hx2
  have hB : Below w.heap.size w y2 := hb1.trans (hb2.mono hb1.size)
  have hg2 : y2.heap[gr]? = _ := (hb2.block gr (by omega)).trans hx1
  have HNE : Hid (bb < gr ∧ ba < gr ∧ bw < gr) := Lib.hid ⟨by have := h.kb.lt; omega, by have := h.ka.lt; omega, by have := h.kw.lt; omega⟩
  have HK := Lib.hid (And.intro (h.below hB (Nat.le_refl _)) (And.intro hg2 (And.intro hx2 (But.of_below (gs := [ba, bw]) hB))))
  have HY := Lib.hid (And.intro hy1 hy2)
  have HA : Hid (∀ j, A.map (·.block) = some j → j < gr) := Lib.hid (fun j hj => by rw [← hgr]; exact h.old j hj)
  clear hb1 hb2 hx1 hx2 hB hg2 hy1 hy2 h
  go_enter Try.func39, Try.ntmps39
  obtain ⟨v0, hv0⟩ : ∃ v, (nx b 1099511627776 s).1 = v := ⟨_, rfl⟩
  obtain ⟨s0, hs0⟩ : ∃ v, (nx b 1099511627776 s).2 = v := ⟨_, rfl⟩
  have hN := next_is y2 HK.out.1 1099511627776 (by omega)
  rw [hv0, hs0] at hN
  have HN := Lib.hid hN
  have HS0 := Lib.hid (And.intro hv0 hs0)
  clear hN hv0 hs0
  go_wp2_with fail
  rw [HY.out.1, HY.out.2]
  refine HN.out.mono ?_
  rintro e u0 ⟨rfl, hst, hbu⟩
  clear HN
  have hru : u0.heap[gr]? = _ := hbu.cells HK.out.2.1 (by have := HNE.out; simp; omega)
  have hgu : u0.heap[gr + 1]? = _ := hbu.cells HK.out.2.2.1 (by have := HNE.out; simp; omega)
  have hbu2 := HK.out.2.2.2.trans hbu
  have gc := cell_of_row _ (gr + 1) 0 _ 30 (0, 0) hgu
  have gf := frozen_of_row u0 (gr + 1) 0 _ 30 hgu
  obtain ⟨w0, hw0⟩ : ∃ x, u0.setCell ⟨gr + 1, 0, none⟩ (.int .i64 (v0 : Int)) = x := ⟨_, rfl⟩
  have hbw : But [gr + 1] u0 w0 := by rw [← hw0]; exact (But.refl _ _).setCell (by simp) _
  have hgw : w0.heap[gr + 1]? = some (.cells #[.int .i64 (v0 : Int), .int .i64 0, .int .i64 0, .int .u8 0] 30 (0, 0)) := by rw [← hw0]; exact set7 hgu _ rfl
  have hrw : w0.heap[gr]? = _ := hbw.cells hru (by simp)
  have hsw := hst.but hbw (by have := HNE.out; simp; omega) (by have := HNE.out; simp; omega) (by have := HNE.out; simp; omega) (fun j hj => by have := HA.out j hj; simp; omega)
  have hbt : But [ba, bw] w w0 := hbu2.trans' hbw (by intro k hk; simp at hk; subst hk; right; omega)
  clear HK
  have HK := Lib.hid (And.intro hsw (And.intro hrw (And.intro hgw hbt)))
  clear hst hbu hru hgu hbu2 hbw hgw hrw hsw hbt
  go_wp2_with fail
  (try rw [hw0])
  clear gc gf hw0
  obtain ⟨v1, hv1⟩ : ∃ v, (nx b 254 s0).1 = v := ⟨_, rfl⟩
  obtain ⟨s1, hs1⟩ : ∃ v, (nx b 254 s0).2 = v := ⟨_, rfl⟩
  have hN := next_is w0 HK.out.1 254 (by omega)
  rw [hv1, hs1] at hN
  have HN := Lib.hid hN
  have HS1 := Lib.hid (And.intro hv1 hs1)
  clear hN hv1 hs1
  go_wp2_with fail
  refine HN.out.mono ?_
  rintro e u1 ⟨rfl, hst, hbu⟩
  clear HN
  have hru : u1.heap[gr]? = _ := hbu.cells HK.out.2.1 (by have := HNE.out; simp; omega)
  have hgu : u1.heap[gr + 1]? = _ := hbu.cells HK.out.2.2.1 (by have := HNE.out; simp; omega)
  have hbu2 := HK.out.2.2.2.trans hbu
  have gc := cell_of_row _ (gr + 1) 1 _ 30 (0, 0) hgu
  have gf := frozen_of_row u1 (gr + 1) 1 _ 30 hgu
  obtain ⟨w1, hw1⟩ : ∃ x, u1.setCell ⟨gr + 1, 1, none⟩ (.int .i64 (v1 : Int)) = x := ⟨_, rfl⟩
  have hbw : But [gr + 1] u1 w1 := by rw [← hw1]; exact (But.refl _ _).setCell (by simp) _
  have hgw : w1.heap[gr + 1]? = some (.cells #[.int .i64 (v0 : Int), .int .i64 (v1 : Int), .int .i64 0, .int .u8 0] 30 (0, 0)) := by rw [← hw1]; exact set7 hgu _ rfl
  have hrw : w1.heap[gr]? = _ := hbw.cells hru (by simp)
  have hsw := hst.but hbw (by have := HNE.out; simp; omega) (by have := HNE.out; simp; omega) (by have := HNE.out; simp; omega) (fun j hj => by have := HA.out j hj; simp; omega)
  have hbt : But [ba, bw] w w1 := hbu2.trans' hbw (by intro k hk; simp at hk; subst hk; right; omega)
  clear HK
  have HK := Lib.hid (And.intro hsw (And.intro hrw (And.intro hgw hbt)))
  clear hst hbu hru hgu hbu2 hbw hgw hrw hsw hbt
  go_wp2_with fail
  (try rw [hw1])
  clear gc gf hw1
  obtain ⟨v2, hv2⟩ : ∃ v, (nx b 1099511627776 s1).1 = v := ⟨_, rfl⟩
  obtain ⟨s2, hs2⟩ : ∃ v, (nx b 1099511627776 s1).2 = v := ⟨_, rfl⟩
  have hN := next_is w1 HK.out.1 1099511627776 (by omega)
  rw [hv2, hs2] at hN
  have HN := Lib.hid hN
  have HS2 := Lib.hid (And.intro hv2 hs2)
  clear hN hv2 hs2
  go_wp2_with fail
  refine HN.out.mono ?_
  rintro e u2 ⟨rfl, hst, hbu⟩
  clear HN
  have hru : u2.heap[gr]? = _ := hbu.cells HK.out.2.1 (by have := HNE.out; simp; omega)
  have hgu : u2.heap[gr + 1]? = _ := hbu.cells HK.out.2.2.1 (by have := HNE.out; simp; omega)
  have hbu2 := HK.out.2.2.2.trans hbu
  have gc := cell_of_row _ (gr + 1) 2 _ 30 (0, 0) hgu
  have gf := frozen_of_row u2 (gr + 1) 2 _ 30 hgu
  obtain ⟨w2, hw2⟩ : ∃ x, u2.setCell ⟨gr + 1, 2, none⟩ (.int .i64 (v2 : Int)) = x := ⟨_, rfl⟩
  have hbw : But [gr + 1] u2 w2 := by rw [← hw2]; exact (But.refl _ _).setCell (by simp) _
  have hgw : w2.heap[gr + 1]? = some (.cells #[.int .i64 (v0 : Int), .int .i64 (v1 : Int), .int .i64 (v2 : Int), .int .u8 0] 30 (0, 0)) := by rw [← hw2]; exact set7 hgu _ rfl
  have hrw : w2.heap[gr]? = _ := hbw.cells hru (by simp)
  have hsw := hst.but hbw (by have := HNE.out; simp; omega) (by have := HNE.out; simp; omega) (by have := HNE.out; simp; omega) (fun j hj => by have := HA.out j hj; simp; omega)
  have hbt : But [ba, bw] w w2 := hbu2.trans' hbw (by intro k hk; simp at hk; subst hk; right; omega)
  clear HK
  have HK := Lib.hid (And.intro hsw (And.intro hrw (And.intro hgw hbt)))
  clear hst hbu hru hgu hbu2 hbw hgw hrw hsw hbt
  go_wp2_with fail
  (try rw [hw2])
  clear gc gf hw2
  obtain ⟨v3, hv3⟩ : ∃ v, (nx b 2 s2).1 = v := ⟨_, rfl⟩
  obtain ⟨s3, hs3⟩ : ∃ v, (nx b 2 s2).2 = v := ⟨_, rfl⟩
  have hv3l : v3 ≤ 2 := by rw [← hv3]; exact nx_le b 2 _
  have hwv : IntKind.u8.wrap (v3 : Int) = (v3 : Int) := by rw [IntKind.wrap_u8]; omega
  have hN := next_is w2 HK.out.1 2 (by omega)
  rw [hv3, hs3] at hN
  have HN := Lib.hid hN
  have HS3 := Lib.hid (And.intro hv3 hs3)
  clear hN hv3 hs3
  go_wp2_with fail
  refine HN.out.mono ?_
  rintro e u3 ⟨rfl, hst, hbu⟩
  clear HN
  have hru : u3.heap[gr]? = _ := hbu.cells HK.out.2.1 (by have := HNE.out; simp; omega)
  have hgu : u3.heap[gr + 1]? = _ := hbu.cells HK.out.2.2.1 (by have := HNE.out; simp; omega)
  have hbu2 := HK.out.2.2.2.trans hbu
  have gc := cell_of_row _ (gr + 1) 3 _ 30 (0, 0) hgu
  have gf := frozen_of_row u3 (gr + 1) 3 _ 30 hgu
  obtain ⟨w3, hw3⟩ : ∃ x, u3.setCell ⟨gr + 1, 3, none⟩ (.int .u8 (v3 : Int)) = x := ⟨_, rfl⟩
  have hbw : But [gr + 1] u3 w3 := by rw [← hw3]; exact (But.refl _ _).setCell (by simp) _
  have hgw : w3.heap[gr + 1]? = some (.cells #[.int .i64 (v0 : Int), .int .i64 (v1 : Int), .int .i64 (v2 : Int), .int .u8 (v3 : Int)] 30 (0, 0)) := by rw [← hw3]; exact set7 hgu _ rfl
  have hrw : w3.heap[gr]? = _ := hbw.cells hru (by simp)
  have hsw := hst.but hbw (by have := HNE.out; simp; omega) (by have := HNE.out; simp; omega) (by have := HNE.out; simp; omega) (fun j hj => by have := HA.out j hj; simp; omega)
  have hbt : But [ba, bw] w w3 := hbu2.trans' hbw (by intro k hk; simp at hk; subst hk; right; omega)
  clear HK
  have HK := Lib.hid (And.intro hsw (And.intro hrw (And.intro hgw hbt)))
  clear hst hbu hru hgu hbu2 hbw hgw hrw hsw hbt
  obtain ⟨m0, m1, m2, m3⟩ := four30 HK.out.2.2.1
  obtain ⟨g0, g1, g2, g3⟩ := four30 HK.out.2.1
  have r0 := frozen_of_row w3 gr 0 _ 30 HK.out.2.1
  have r1 := frozen_of_row w3 gr 1 _ 30 HK.out.2.1
  have r2 := frozen_of_row w3 gr 2 _ 30 HK.out.2.1
  have r3 := frozen_of_row w3 gr 3 _ 30 HK.out.2.1
  go_wp2
  (try rw [hw3])
  have hE := row4 (v0 := .int .i64 (v0 : Int)) (v1 := .int .i64 (v1 : Int)) (v2 := .int .i64 (v2 : Int)) (v3 := .int .u8 (v3 : Int)) HK.out.2.1
  have e1 : (rdI b s).1 = ⟨v0, v1, v2, v3⟩ := by
    simp only [rdI, infOf, infM, nxs, HS0.out.1, HS0.out.2, HS1.out.1, HS1.out.2, HS2.out.1, HS2.out.2, HS3.out.1, List.getD_cons_zero, List.getD_cons_succ]
  have e2 : (rdI b s).2 = s3 := by
    simp only [rdI, infM, nxs, HS0.out.2, HS1.out.2, HS2.out.2, HS3.out.2]
  refine bodyPost_ret (v := .agg #[.int .i64 (v0 : Int), .int .i64 (v1 : Int), .int .i64 (v2 : Int), .int .u8 (v3 : Int)]) (results_cell_row rfl _ _ gr 30 _ (0, 0) _ rfl hE Try.underlying30 rfl (by kernel_rfl)) rfl ?_
  rw [e1, e2]
  refine ⟨rfl, HK.out.1.but but4 (by have := HNE.out; simp; omega) (by have := HNE.out; simp; omega) (by have := HNE.out; simp; omega) (fun j hj => by have := HA.out j hj; simp; omega), HK.out.2.2.2.trans' but4 (by intro k hk; simp at hk; subst hk; right; omega)⟩

/-- what GetTell's closure has laid -/
def TelPC (B0 gk ga : Nat) (x5 : Value) (b : List UInt8) (W : World) : Prop := ∃ (v0 v1 v2 v3 v4 v5 v6 : Nat) (I : Option Addr) (m mc : Nat), (telR b).1 = [(v0 : Int), v1, v2, v3, v4, v5, v6] ∧ v3 ≤ 6 ∧ m ≤ 50 ∧ Box W gk (.int .i64 (v0 : Int)) 3 ∧ W.heap[ga]? = some (.cells #[.int .i64 (v1 : Int), .int .i64 (v2 : Int), .int .u8 (v3 : Int), .int .i64 (v4 : Int), .slice I m mc, x5, .int .i64 (v5 : Int)] 34 (0, 0)) ∧ OwnK W B0 30 4 I m mc (ics (telI b).1)
theorem TelPC.below {B0 gk ga : Nat} {x5 : Value} {b : List UInt8} {W W' : World} (h : TelPC B0 gk ga x5 b W) (hb : Below W.heap.size W W') : TelPC B0 gk ga x5 b W' := by
  obtain ⟨v0, v1, v2, v3, v4, v5, v6, I, m, mc, h1, h2, h3, h4, h5, h6⟩ := h
  exact ⟨v0, v1, v2, v3, v4, v5, v6, I, m, mc, h1, h2, h3, h4.below hb (Nat.le_refl _), (hb.block _ (lt_of_block h5)).trans h5, h6.below hb (Nat.le_refl _)⟩
/-- where the loop over the infos stands -/
def LR (w : World) (bb ba bw gk ga n c : Nat) (A : Option Addr) (b : List UInt8) (s7 : Nat × Bool) (v0 v1 v2 v3 v4 v5 : Nat) (x5 : Value) (k : Nat) (W : World) : Prop :=
  ∃ (I : Option Addr) (mc : Nat), NSt W bb ba bw A n c b (rds b k s7).2 ∧ Box W gk (.int .i64 (v0 : Int)) 3 ∧ W.heap[ga]? = some (.cells #[.int .i64 (v1 : Int), .int .i64 (v2 : Int), .int .u8 (v3 : Int), .int .i64 (v4 : Int), .slice I k mc, x5, .int .i64 (v5 : Int)] 34 (0, 0)) ∧ OwnK W w.heap.size 30 4 I k mc (ics (rds b k s7).1) ∧ But [gk, ga, ba, bw] w W
set_option maxHeartbeats 4000000 in
theorem telC_is {bb ba bw gk ga n c : Nat} {A : Option Addr} {b : List UInt8} {k0 : Value} {x0 x1 x2 x3 x5 x6 : Value} (h : NSt w bb ba bw A n c b (0, true)) (hk : Box w gk k0 3) (hg : w.heap[ga]? = some (.cells #[x0, x1, x2, x3, .slice none 0 0, x5, x6] 34 (0, 0))) (hkb : gk ≠ ba) (hA : ∀ j, A.map (·.block) = some j → j ≠ gk ∧ j ≠ ga) :
    Calls Try.prog 38 #[nextV bb ba bw, .pointer (some ⟨gk, 0, none⟩), .pointer (some ⟨ga, 0, none⟩)] w fun e w' => e = .returned (.tuple #[]) ∧ TelPC w.heap.size gk ga x5 b w' ∧ NSt w' bb ba bw A n c b (telI b).2 ∧ But [gk, ga, ba, bw] w w' := by
  have ng1 : ga ≠ ba := ne_of_type hg h.ka (by decide)
  have ng2 : ga ≠ bw := ne_of_type hg h.kw (by decide)
  have ng3 : ga ≠ bb := ne_of_type hg h.kb (by decide)
  have ng4 : ga ≠ gk := ne_of_type hg hk (by decide)
  have nk2 : gk ≠ bw := ne_of_type hk h.kw (by decide)
  have nk3 : gk ≠ bb := ne_of_type hk h.kb (by decide)
  have HNE := Lib.hid (And.intro (And.intro ng1 ng2) (And.intro (And.intro ng3 ng4) (And.intro hkb (And.intro (And.intro nk2 nk3) hA))))
  have hbt : But [gk, ga, ba, bw] w w := But.refl _ _
  have HK := Lib.hid (And.intro h (And.intro hk (And.intro hg hbt)))
  have HL := Lib.hid (And.intro (lt_of_block hg) (And.intro hk.lt (And.intro h.old (And.intro h.ka.lt (And.intro h.kw.lt h.kb.lt)))))
  clear h hk hg hbt ng1 ng2 ng3 ng4 nk2 nk3 hkb hA
  go_enter Try.func38, Try.ntmps38
  obtain ⟨v0, hv0⟩ : ∃ v, (nx b 2 (0, true)).1 = v := ⟨_, rfl⟩
  obtain ⟨s0, hs0⟩ : ∃ v, (nx b 2 (0, true)).2 = v := ⟨_, rfl⟩
  have hN := next_is w HK.out.1 2 (by omega)
  rw [hv0, hs0] at hN
  have HN := Lib.hid hN
  have HS0 := Lib.hid (And.intro hv0 hs0)
  clear hN hv0 hs0
  go_wp2_with fail
  refine HN.out.mono ?_
  rintro e u0 ⟨rfl, hst, hbu⟩
  clear HN
  have hku := HK.out.2.1.but hbu (by have := HNE.out; simp; omega)
  have hgu : u0.heap[ga]? = _ := hbu.cells HK.out.2.2.1 (by have := HNE.out; simp; omega)
  have hbu2 := HK.out.2.2.2.trans (hbu.mono (by simp))
  have k0c := hku.cell
  have k0f := hku.free
  obtain ⟨w0, hw0⟩ : ∃ x, u0.setCell ⟨gk, 0, none⟩ (.int .i64 (v0 : Int)) = x := ⟨_, rfl⟩
  have hbw : But [gk] u0 w0 := by rw [← hw0]; exact (But.refl _ _).setCell (by simp) _
  have hkw : Box w0 gk (.int .i64 (v0 : Int)) 3 := by rw [← hw0]; exact heap_setCell_same u0 gk 0 _ 3 _ hku
  have hgw : w0.heap[ga]? = _ := hbw.cells hgu (by have := HNE.out; simp; omega)
  have hsw := hst.but hbw (by have := HNE.out; simp; omega) (by have := HNE.out; simp; omega) (by have := HNE.out; simp; omega) (fun j hj => by have := HNE.out.2.2.2.2 j hj; simp; omega)
  clear HK
  have HK := Lib.hid (And.intro hsw (And.intro hkw (And.intro hgw (hbu2.trans (hbw.mono (by simp))))))
  clear hst hbu hku hgu hbu2 hbw hkw hgw hsw
  go_wp2_with fail
  (try rw [hw0])
  clear k0c k0f hw0
  obtain ⟨v1, hv1⟩ : ∃ v, (nx b 1099511627776 s0).1 = v := ⟨_, rfl⟩
  obtain ⟨s1, hs1⟩ : ∃ v, (nx b 1099511627776 s0).2 = v := ⟨_, rfl⟩
  have hN := next_is w0 HK.out.1 1099511627776 (by omega)
  rw [hv1, hs1] at hN
  have HN := Lib.hid hN
  have HS1 := Lib.hid (And.intro hv1 hs1)
  clear hN hv1 hs1
  go_wp2_with fail
  refine HN.out.mono ?_
  rintro e u1 ⟨rfl, hst, hbu⟩
  clear HN
  have hku := HK.out.2.1.but hbu (by have := HNE.out; simp; omega)
  have hgu : u1.heap[ga]? = _ := hbu.cells HK.out.2.2.1 (by have := HNE.out; simp; omega)
  have hbu2 := HK.out.2.2.2.trans (hbu.mono (by simp))
  have gc := cell_of_row _ ga 0 _ 34 (0, 0) hgu
  have gf := frozen_of_row u1 ga 0 _ 34 hgu
  obtain ⟨w1, hw1⟩ : ∃ x, u1.setCell ⟨ga, 0, none⟩ (.int .i64 (v1 : Int)) = x := ⟨_, rfl⟩
  have hbw : But [ga] u1 w1 := by rw [← hw1]; exact (But.refl _ _).setCell (by simp) _
  have hgw : w1.heap[ga]? = some (.cells #[.int .i64 (v1 : Int), x1, x2, x3, .slice none 0 0, x5, x6] 34 (0, 0)) := by rw [← hw1]; exact set7 hgu _ rfl
  have hkw := hku.but hbw (by have := HNE.out; simp; omega)
  have hsw := hst.but hbw (by have := HNE.out; simp; omega) (by have := HNE.out; simp; omega) (by have := HNE.out; simp; omega) (fun j hj => by have := HNE.out.2.2.2.2 j hj; simp; omega)
  clear HK
  have HK := Lib.hid (And.intro hsw (And.intro hkw (And.intro hgw (hbu2.trans (hbw.mono (by simp))))))
  clear hst hbu hku hgu hbu2 hbw hkw hgw hsw
  go_wp2_with fail
  (try rw [hw1])
  clear gc gf hw1
  obtain ⟨v2, hv2⟩ : ∃ v, (nx b 1099511627776 s1).1 = v := ⟨_, rfl⟩
  obtain ⟨s2, hs2⟩ : ∃ v, (nx b 1099511627776 s1).2 = v := ⟨_, rfl⟩
  have hN := next_is w1 HK.out.1 1099511627776 (by omega)
  rw [hv2, hs2] at hN
  have HN := Lib.hid hN
  have HS2 := Lib.hid (And.intro hv2 hs2)
  clear hN hv2 hs2
  go_wp2_with fail
  refine HN.out.mono ?_
  rintro e u2 ⟨rfl, hst, hbu⟩
  clear HN
  have hku := HK.out.2.1.but hbu (by have := HNE.out; simp; omega)
  have hgu : u2.heap[ga]? = _ := hbu.cells HK.out.2.2.1 (by have := HNE.out; simp; omega)
  have hbu2 := HK.out.2.2.2.trans (hbu.mono (by simp))
  have gc := cell_of_row _ ga 1 _ 34 (0, 0) hgu
  have gf := frozen_of_row u2 ga 1 _ 34 hgu
  obtain ⟨w2, hw2⟩ : ∃ x, u2.setCell ⟨ga, 1, none⟩ (.int .i64 (v2 : Int)) = x := ⟨_, rfl⟩
  have hbw : But [ga] u2 w2 := by rw [← hw2]; exact (But.refl _ _).setCell (by simp) _
  have hgw : w2.heap[ga]? = some (.cells #[.int .i64 (v1 : Int), .int .i64 (v2 : Int), x2, x3, .slice none 0 0, x5, x6] 34 (0, 0)) := by rw [← hw2]; exact set7 hgu _ rfl
  have hkw := hku.but hbw (by have := HNE.out; simp; omega)
  have hsw := hst.but hbw (by have := HNE.out; simp; omega) (by have := HNE.out; simp; omega) (by have := HNE.out; simp; omega) (fun j hj => by have := HNE.out.2.2.2.2 j hj; simp; omega)
  clear HK
  have HK := Lib.hid (And.intro hsw (And.intro hkw (And.intro hgw (hbu2.trans (hbw.mono (by simp))))))
  clear hst hbu hku hgu hbu2 hbw hkw hgw hsw
  go_wp2_with fail
  (try rw [hw2])
  clear gc gf hw2
  obtain ⟨v3, hv3⟩ : ∃ v, (nx b 6 s2).1 = v := ⟨_, rfl⟩
  obtain ⟨s3, hs3⟩ : ∃ v, (nx b 6 s2).2 = v := ⟨_, rfl⟩
  have hv3l : v3 ≤ 6 := by rw [← hv3]; exact nx_le b 6 _
  have hwv : IntKind.u8.wrap (v3 : Int) = (v3 : Int) := by rw [IntKind.wrap_u8]; omega
  have hN := next_is w2 HK.out.1 6 (by omega)
  rw [hv3, hs3] at hN
  have HN := Lib.hid hN
  have HS3 := Lib.hid (And.intro hv3 hs3)
  clear hN hv3 hs3
  go_wp2_with fail
  refine HN.out.mono ?_
  rintro e u3 ⟨rfl, hst, hbu⟩
  clear HN
  have hku := HK.out.2.1.but hbu (by have := HNE.out; simp; omega)
  have hgu : u3.heap[ga]? = _ := hbu.cells HK.out.2.2.1 (by have := HNE.out; simp; omega)
  have hbu2 := HK.out.2.2.2.trans (hbu.mono (by simp))
  have gc := cell_of_row _ ga 2 _ 34 (0, 0) hgu
  have gf := frozen_of_row u3 ga 2 _ 34 hgu
  obtain ⟨w3, hw3⟩ : ∃ x, u3.setCell ⟨ga, 2, none⟩ (.int .u8 (v3 : Int)) = x := ⟨_, rfl⟩
  have hbw : But [ga] u3 w3 := by rw [← hw3]; exact (But.refl _ _).setCell (by simp) _
  have hgw : w3.heap[ga]? = some (.cells #[.int .i64 (v1 : Int), .int .i64 (v2 : Int), .int .u8 (v3 : Int), x3, .slice none 0 0, x5, x6] 34 (0, 0)) := by rw [← hw3]; exact set7 hgu _ rfl
  have hkw := hku.but hbw (by have := HNE.out; simp; omega)
  have hsw := hst.but hbw (by have := HNE.out; simp; omega) (by have := HNE.out; simp; omega) (by have := HNE.out; simp; omega) (fun j hj => by have := HNE.out.2.2.2.2 j hj; simp; omega)
  clear HK
  have HK := Lib.hid (And.intro hsw (And.intro hkw (And.intro hgw (hbu2.trans (hbw.mono (by simp))))))
  clear hst hbu hku hgu hbu2 hbw hkw hgw hsw
  go_wp2_with fail
  (try rw [hw3])
  clear gc gf hw3
  obtain ⟨v4, hv4⟩ : ∃ v, (nx b 1000 s3).1 = v := ⟨_, rfl⟩
  obtain ⟨s4, hs4⟩ : ∃ v, (nx b 1000 s3).2 = v := ⟨_, rfl⟩
  have hN := next_is w3 HK.out.1 1000 (by omega)
  rw [hv4, hs4] at hN
  have HN := Lib.hid hN
  have HS4 := Lib.hid (And.intro hv4 hs4)
  clear hN hv4 hs4
  go_wp2_with fail
  refine HN.out.mono ?_
  rintro e u4 ⟨rfl, hst, hbu⟩
  clear HN
  have hku := HK.out.2.1.but hbu (by have := HNE.out; simp; omega)
  have hgu : u4.heap[ga]? = _ := hbu.cells HK.out.2.2.1 (by have := HNE.out; simp; omega)
  have hbu2 := HK.out.2.2.2.trans (hbu.mono (by simp))
  have gc := cell_of_row _ ga 3 _ 34 (0, 0) hgu
  have gf := frozen_of_row u4 ga 3 _ 34 hgu
  obtain ⟨w4, hw4⟩ : ∃ x, u4.setCell ⟨ga, 3, none⟩ (.int .i64 (v4 : Int)) = x := ⟨_, rfl⟩
  have hbw : But [ga] u4 w4 := by rw [← hw4]; exact (But.refl _ _).setCell (by simp) _
  have hgw : w4.heap[ga]? = some (.cells #[.int .i64 (v1 : Int), .int .i64 (v2 : Int), .int .u8 (v3 : Int), .int .i64 (v4 : Int), .slice none 0 0, x5, x6] 34 (0, 0)) := by rw [← hw4]; exact set7 hgu _ rfl
  have hkw := hku.but hbw (by have := HNE.out; simp; omega)
  have hsw := hst.but hbw (by have := HNE.out; simp; omega) (by have := HNE.out; simp; omega) (by have := HNE.out; simp; omega) (fun j hj => by have := HNE.out.2.2.2.2 j hj; simp; omega)
  clear HK
  have HK := Lib.hid (And.intro hsw (And.intro hkw (And.intro hgw (hbu2.trans (hbw.mono (by simp))))))
  clear hst hbu hku hgu hbu2 hbw hkw hgw hsw
  go_wp2_with fail
  (try rw [hw4])
  clear gc gf hw4
  obtain ⟨v5, hv5⟩ : ∃ v, (nx b 65536 s4).1 = v := ⟨_, rfl⟩
  obtain ⟨s5, hs5⟩ : ∃ v, (nx b 65536 s4).2 = v := ⟨_, rfl⟩
  have hN := next_is w4 HK.out.1 65536 (by omega)
  rw [hv5, hs5] at hN
  have HN := Lib.hid hN
  have HS5 := Lib.hid (And.intro hv5 hs5)
  clear hN hv5 hs5
  go_wp2_with fail
  refine HN.out.mono ?_
  rintro e u5 ⟨rfl, hst, hbu⟩
  clear HN
  have hku := HK.out.2.1.but hbu (by have := HNE.out; simp; omega)
  have hgu : u5.heap[ga]? = _ := hbu.cells HK.out.2.2.1 (by have := HNE.out; simp; omega)
  have hbu2 := HK.out.2.2.2.trans (hbu.mono (by simp))
  have gc := cell_of_row _ ga 6 _ 34 (0, 0) hgu
  have gf := frozen_of_row u5 ga 6 _ 34 hgu
  obtain ⟨w5, hw5⟩ : ∃ x, u5.setCell ⟨ga, 6, none⟩ (.int .i64 (v5 : Int)) = x := ⟨_, rfl⟩
  have hbw : But [ga] u5 w5 := by rw [← hw5]; exact (But.refl _ _).setCell (by simp) _
  have hgw : w5.heap[ga]? = some (.cells #[.int .i64 (v1 : Int), .int .i64 (v2 : Int), .int .u8 (v3 : Int), .int .i64 (v4 : Int), .slice none 0 0, x5, .int .i64 (v5 : Int)] 34 (0, 0)) := by rw [← hw5]; exact set7 hgu _ rfl
  have hkw := hku.but hbw (by have := HNE.out; simp; omega)
  have hsw := hst.but hbw (by have := HNE.out; simp; omega) (by have := HNE.out; simp; omega) (by have := HNE.out; simp; omega) (fun j hj => by have := HNE.out.2.2.2.2 j hj; simp; omega)
  clear HK
  have HK := Lib.hid (And.intro hsw (And.intro hkw (And.intro hgw (hbu2.trans (hbw.mono (by simp))))))
  clear hst hbu hku hgu hbu2 hbw hkw hgw hsw
  go_wp2_with fail
  (try rw [hw5])
  clear gc gf hw5
  obtain ⟨v6, hv6⟩ : ∃ v, (nx b 50 s5).1 = v := ⟨_, rfl⟩
  obtain ⟨s6, hs6⟩ : ∃ v, (nx b 50 s5).2 = v := ⟨_, rfl⟩
  have hv6l : v6 ≤ 50 := by rw [← hv6]; exact nx_le b 50 _
  have hN := next_is w5 HK.out.1 50 (by omega)
  rw [hv6, hs6] at hN
  have HN := Lib.hid hN
  have HS6 := Lib.hid (And.intro hv6 hs6)
  clear hN hv6 hs6
  go_wp2_with fail
  refine HN.out.mono ?_
  rintro e u6 ⟨rfl, hst, hbu⟩
  clear HN
  have hku := HK.out.2.1.but hbu (by have := HNE.out; simp; omega)
  have hgu : u6.heap[ga]? = _ := hbu.cells HK.out.2.2.1 (by have := HNE.out; simp; omega)
  have hbu2 := HK.out.2.2.2.trans (hbu.mono (by simp))
  clear HK
  have HK := Lib.hid (And.intro hst (And.intro hku (And.intro hgu hbu2)))
  clear hst hbu hku hgu hbu2
  have e1 : (telR b).1 = [(v0 : Int), v1, v2, v3, v4, v5, v6] := by
    simp only [telR, telM, nxs, HS0.out.1, HS0.out.2, HS1.out.1, HS1.out.2, HS2.out.1, HS2.out.2, HS3.out.1, HS3.out.2, HS4.out.1, HS4.out.2, HS5.out.1, HS5.out.2, HS6.out.1]
  have e2 : (telR b).2 = s6 := by
    simp only [telR, telM, nxs, HS0.out.2, HS1.out.2, HS2.out.2, HS3.out.2, HS4.out.2, HS5.out.2, HS6.out.2]
  have e3 : telI b = rds b v6 s6 := by
    unfold telI
    rw [e1, e2]
    rfl
  have HE := Lib.hid (And.intro e1 e3)
  have hLR : Hid (LR w bb ba bw gk ga n c A b s6 v0 v1 v2 v3 v4 v5 x5 0 u6) := Lib.hid ⟨none, 0, HK.out.1, HK.out.2.1, HK.out.2.2.1, OwnK.nil _ _ _ _, HK.out.2.2.2⟩
  clear e1 e2 e3 HK HS0 HS1 HS2 HS3 HS4 HS5 HS6
  go_wp2
  go_loopw [24] (fun s24 wr => ∃ k : Nat, k ≤ v6 ∧ s24 = .int .i64 (k : Int) ∧ Hid (LR w bb ba bw gk ga n c A b s6 v0 v1 v2 v3 v4 v5 x5 k wr)) (fun s24 _ => v6 - (Go.RowKit.intOf s24).toNat)
  case atStart => exact ⟨0, by omega, rfl, hLR.out⟩
  case round =>
    clear hLR
    obtain ⟨k, hk, rfl, HR⟩ := hrel
    by_cases hlt : k < v6
    · obtain ⟨I, mc, g1, g2, g3, g4, g5⟩ := HR.out
      have hgi := getInfo_is wr.drew g1.drew
      obtain ⟨p, hp⟩ : ∃ p, (rdI b (rds b k s6).2).1 = p := ⟨_, rfl⟩
      rw [hp] at hgi
      have c4 := cell_of_row wr ga 4 _ 34 (0, 0) g3
      simp at c4
      have hi2 : (k : Int) < (v6 : Int) := by omega
      have hw1 : IntKind.i64.wrap ((k : Int) + 1) = (k : Int) + 1 := IntWalk.i64_in _ (by omega)
      have HG := Lib.hid (And.intro g1 (And.intro g2 (And.intro g3 (And.intro g4 (And.intro g5 (And.intro hgi (And.intro hp hlt)))))))
      clear g1 g2 g3 g4 g5 hgi hp hlt HR
      go_wp2_with fail
      refine wp_region_held_drew (S := fun _ => True) (by kernel_rfl) (by trivial) (fun hHeld => ?_)
      refine wpAnyH_take (i := 0) (oi := ⟨some 26, _, _, _, _, _⟩) (v := ?_) rfl (by kernel_rfl) (by kernel_rfl) (by kernel_rfl) (fun _ _ _ h => h) (Or.inl ⟨by rfl, ?_⟩) (by assumption) ?_
      rotate_left
      · intro w hSw
        (try dsimp only at hSw)
        go_simp
        all_goals (with_reducible rfl)
      try simp only [Act.put, List.setIfInBounds_toArray, List.set_cons_zero, List.set_cons_succ]
      refine wpAnyH_take (i := 2) (oi := ⟨some 28, _, _, _, _, _⟩) (v := ?_) rfl (by kernel_rfl) (by kernel_rfl) (by kernel_rfl) (fun _ _ _ h => h) (Or.inl ⟨by rfl, ?_⟩) (by assumption) ?_
      rotate_left
      · intro w hSw
        (try dsimp only at hSw)
        go_simp
        all_goals (with_reducible rfl)
      try simp only [Act.put, List.setIfInBounds_toArray, List.set_cons_zero, List.set_cons_succ]
      refine wpAnyH_ready (rs := [1, 3]) (by kernel_rfl) (by simp) (AllReadyH.cons (o := ⟨some 27, _, _, _, _, _⟩) rfl (fun K hK => ?_) (AllReadyH.cons (o := ⟨some 29, _, _, _, _, _⟩) rfl (fun K hK => ?_) AllReadyH.nil))
      · go_simp
        refine hK.out _ _ trivial (fun hHeld => ?_)
        clear hK K
        try simp only [Act.put, List.setIfInBounds_toArray, List.set_cons_zero, List.set_cons_succ]
        refine wpAnyH_ready (rs := [3]) (by kernel_rfl) (by simp) (AllReadyH.cons (o := ⟨some 29, _, _, _, _, _⟩) rfl (fun K hK => ?_) AllReadyH.nil)
        go_simp
        refine HG.out.2.2.2.2.2.1.mono ?_
        rintro e w2 ⟨rfl, hst2, hbt2⟩
        have hga2 : w2.heap[ga]? = _ := hbt2.cells (w := wr.drew) HG.out.2.2.1 (by have := HNE.out; simp; omega)
        have hgk2 : Box w2 gk (.int .i64 (v0 : Int)) 3 := hbt2.cells (w := wr.drew) HG.out.2.1 (by have := HNE.out; simp; omega)
        have hown2 : OwnK w2 w.heap.size 30 4 I k mc (ics (rds b k s6).1) := by
          have h0 : OwnK wr.drew w.heap.size 30 4 I k mc (ics (rds b k s6).1) := ⟨HG.out.2.2.2.1.row⟩
          refine h0.but hbt2 (fun j hj => ?_)
          obtain ⟨cu, hc⟩ := h0.typ hj
          have q1 := ne_of_type hc HG.out.1.ka (by decide)
          have q2 := ne_of_type hc HG.out.1.kw (by decide)
          simp
          exact ⟨q1, q2⟩
        have hbu2 : But [gk, ga, ba, bw] w w2 := (show But [gk, ga, ba, bw] w wr.drew from HG.out.2.2.2.2.1.drew).trans (hbt2.mono (by simp))
        have d4 := cell_of_row w2 ga 4 _ 34 (0, 0) hga2
        simp at d4
        have H2 := Lib.hid (And.intro hst2 (And.intro hga2 (And.intro hgk2 (And.intro hown2 hbu2))))
        clear hst2 hbt2 hga2 hgk2 hown2 hbu2
        refine hK.out _ _ trivial (fun hHeld => ?_)
        clear hK K
        try simp only [Act.put, List.setIfInBounds_toArray, List.set_cons_zero, List.set_cons_succ]
        refine wpAnyH_ready (rs := [4]) (by kernel_rfl) (by simp) (AllReadyH.cons (o := ⟨some 30, _, _, _, _, _⟩) rfl (fun K hK => ?_) AllReadyH.nil)
        go_simp
        refine hK.out _ _ trivial (fun hHeld => ?_)
        clear hK K
        try simp only [Act.put, List.setIfInBounds_toArray, List.set_cons_zero, List.set_cons_succ]
        refine wpAnyH_ready (rs := [5]) (by kernel_rfl) (by simp) (AllReadyH.cons (o := ⟨some 31, _, _, _, _, _⟩) rfl (fun K hK => ?_) AllReadyH.nil)
        obtain ⟨w3, hw3⟩ : ∃ x, w2.alloc (.cells (icells p).toArray 30) = x := ⟨_, rfl⟩
        change if Region.wanted _ _ = true then Oper.wp Try.prog _ _ (w2.alloc (.cells (icells p).toArray 30)) _ _ else _
        obtain ⟨hb3, hx3⟩ := box_new hw3
        obtain ⟨z2, hz2⟩ : ∃ z, w2.heap.size = z := ⟨_, rfl⟩
        have hrd3 : RdV w3 (some ⟨z2, 0, none⟩) (1 * 4) (icells p) := by rw [← hw3, ← hz2]; exact RdV.new w2 (icells p) 30 (0, 0)
        have hown3 := H2.out.2.2.2.1.below hb3 (Nat.le_refl _)
        have hs2 : w.heap.size ≤ w3.heap.size := Nat.le_trans H2.out.2.2.2.2.size hb3.size
        rw [hw3]
        (try rw [hz2])
        refine step_appK _ rfl (.tmp 27) (.tmp 30) 32 rfl w.heap.size 30 4 _ 32 Try.underlying32 info30 rfl (by omega) rfl hown3 rfl (m := 1) hrd3 (by omega) (by intro u hu; simp [icells] at hu; rcases hu with rfl | rfl | rfl | rfl <;> rfl) (by omega) (by omega) hs2 (k + 1) (by omega) ?_
        intro I4 mc4 w4 ho4 hg4 hat4
        have hIne : ∀ i T cs, w3.heap[i]? = some (.cells cs T (0, 0)) → T ≠ 30 → some i ≠ I.map (·.block) := fun i T cs hi hT e => by
          obtain ⟨cu, hc⟩ := hown3.typ e.symm
          exact ne_of_type hi hc hT rfl
        have hga3 : w3.heap[ga]? = _ := (hb3.block ga (lt_of_block H2.out.2.1)).trans H2.out.2.1
        have hgk3 : w3.heap[gk]? = _ := (hb3.block gk H2.out.2.2.1.lt).trans H2.out.2.2.1
        have hst3 := H2.out.1.below hb3 (Nat.le_refl _)
        have hga4 : w4.heap[ga]? = _ := (hg4.block ga (lt_of_block hga3) (hIne _ _ _ hga3 (by decide))).trans hga3
        have hgk4 : w4.heap[gk]? = _ := (hg4.block gk (lt_of_block hgk3) (hIne _ _ _ hgk3 (by decide))).trans hgk3
        have hgo : But (I.toList.map (·.block)) w3 w4 := (But.refl _ _).grown hg4 (fun i hi => by cases I <;> simp at hi ⊢; omega)
        have hIn : ∀ i, i ∈ I.toList.map (·.block) → I.map (·.block) = some i := fun i hi => by cases I <;> simp at hi ⊢; omega
        have hst4 : NSt w4 bb ba bw A n c b (rdI b (rds b k s6).2).2 := hst3.but hgo (fun h => hIne _ _ _ hst3.kb (by decide) (hIn _ h).symm) (fun h => hIne _ _ _ hst3.ka (by decide) (hIn _ h).symm) (fun h => hIne _ _ _ hst3.kw (by decide) (hIn _ h).symm) (fun j hj h => by have h1 := (hown3.block j (hIn _ h)).1; have h2 := HL.out.2.2.1 j hj; omega)
        have hbu4 : But [gk, ga, ba, bw] w w4 := (H2.out.2.2.2.2.trans (But.of_below hb3)).trans' hgo (fun i hi => .inr (hown3.block i (hIn _ hi)).1)
        have f4 := frozen_of_row w4 ga 4 _ 34 hga4
        have d5 := cell_of_row w4 ga 4 _ 34 (0, 0) hga4
        simp at d5
        have HW : Hid (LR w bb ba bw gk ga n c A b s6 v0 v1 v2 v3 v4 v5 x5 (k + 1) (w4.setCell ⟨ga, 4, none⟩ (.slice I4 (k + 1) mc4))) := by
          have hb5 : But [ga] w4 (w4.setCell ⟨ga, 4, none⟩ (.slice I4 (k + 1) mc4)) := (But.refl _ _).setCell (by simp) _
          refine ⟨I4, mc4, ?_, Box.but hgk4 hb5 (by have := HNE.out; simp; omega), set7 hga4 _ rfl, ?_, hbu4.trans (hb5.mono (by simp))⟩
          · rw [rds]
            exact hst4.but hb5 (by have := HNE.out; simp; omega) (by have := HNE.out; simp; omega) (by have := HNE.out; simp; omega) (fun j hj => by have := HNE.out.2.2.2.2 j hj; simp; omega)
          · have e5 : ics (rds b k s6).1 ++ icells p = ics (rds b (k + 1) s6).1 := by
              rw [rds]
              simp only
              rw [HG.out.2.2.2.2.2.2.1, ics_append]
              simp [ics]
            rw [e5] at ho4
            refine ho4.but hb5 (fun j hj => ?_)
            obtain ⟨cu, hc⟩ := ho4.typ hj
            have := ne_of_type hc hga4 (by decide)
            simpa using this
        clear ho4 hg4 hat4 hIne hga3 hgk3 hst3 hga4 hgk4 hgo hIn hst4 hbu4 hb3 hx3 hrd3 hown3 hs2 hw3 d4
        refine hK.out _ _ trivial (fun hHeld => ?_)
        clear hK K
        try simp only [Act.put, List.setIfInBounds_toArray, List.set_cons_zero, List.set_cons_succ]
        refine wpAnyH_take (i := 6) (oi := ⟨some 32, _, _, _, _, _⟩) (v := ?_) rfl (by kernel_rfl) (by kernel_rfl) (by kernel_rfl) (fun _ _ _ h => h) (Or.inl ⟨by rfl, ?_⟩) (by assumption) ?_
        rotate_left
        · intro w hSw
          (try dsimp only at hSw)
          go_simp
          all_goals (with_reducible rfl)
        try simp only [Act.put, List.setIfInBounds_toArray, List.set_cons_zero, List.set_cons_succ]
        refine wpAnyH_ready (rs := [7]) (by kernel_rfl) (by simp) (AllReadyH.cons (o := ⟨none, _, _, _, _, _⟩) rfl (fun K hK => ?_) AllReadyH.nil)
        go_simp
        refine hK.out _ _ trivial (fun hHeld => ?_)
        clear hK K
        try simp only [Act.put, List.setIfInBounds_toArray, List.set_cons_zero, List.set_cons_succ]
        refine wpAnyH_done (by kernel_rfl) ?_ _
        go_wp2
        go_roundw
        case rel => exact ⟨k + 1, by have := HG.out.2.2.2.2.2.2.2; omega, by go_num, HW.out⟩
        case measure => have := HG.out.2.2.2.2.2.2.2; simp [Go.RowKit.intOf]; omega
      · go_simp
        refine HG.out.2.2.2.2.2.1.mono ?_
        rintro e w2 ⟨rfl, hst2, hbt2⟩
        have hga2 : w2.heap[ga]? = _ := hbt2.cells (w := wr.drew) HG.out.2.2.1 (by have := HNE.out; simp; omega)
        have hgk2 : Box w2 gk (.int .i64 (v0 : Int)) 3 := hbt2.cells (w := wr.drew) HG.out.2.1 (by have := HNE.out; simp; omega)
        have hown2 : OwnK w2 w.heap.size 30 4 I k mc (ics (rds b k s6).1) := by
          have h0 : OwnK wr.drew w.heap.size 30 4 I k mc (ics (rds b k s6).1) := ⟨HG.out.2.2.2.1.row⟩
          refine h0.but hbt2 (fun j hj => ?_)
          obtain ⟨cu, hc⟩ := h0.typ hj
          have q1 := ne_of_type hc HG.out.1.ka (by decide)
          have q2 := ne_of_type hc HG.out.1.kw (by decide)
          simp
          exact ⟨q1, q2⟩
        have hbu2 : But [gk, ga, ba, bw] w w2 := (show But [gk, ga, ba, bw] w wr.drew from HG.out.2.2.2.2.1.drew).trans (hbt2.mono (by simp))
        have d4 := cell_of_row w2 ga 4 _ 34 (0, 0) hga2
        simp at d4
        have H2 := Lib.hid (And.intro hst2 (And.intro hga2 (And.intro hgk2 (And.intro hown2 hbu2))))
        clear hst2 hbt2 hga2 hgk2 hown2 hbu2
        refine hK.out _ _ trivial (fun hHeld => ?_)
        clear hK K
        try simp only [Act.put, List.setIfInBounds_toArray, List.set_cons_zero, List.set_cons_succ]
        refine wpAnyH_ready (rs := [1, 4]) (by kernel_rfl) (by simp) (AllReadyH.cons (o := ⟨some 27, _, _, _, _, _⟩) rfl (fun K hK => ?_) (AllReadyH.cons (o := ⟨some 30, _, _, _, _, _⟩) rfl (fun K hK => ?_) AllReadyH.nil))
        · go_simp
          refine hK.out _ _ trivial (fun hHeld => ?_)
          clear hK K
          try simp only [Act.put, List.setIfInBounds_toArray, List.set_cons_zero, List.set_cons_succ]
          refine wpAnyH_ready (rs := [4]) (by kernel_rfl) (by simp) (AllReadyH.cons (o := ⟨some 30, _, _, _, _, _⟩) rfl (fun K hK => ?_) AllReadyH.nil)
          go_simp
          refine hK.out _ _ trivial (fun hHeld => ?_)
          clear hK K
          try simp only [Act.put, List.setIfInBounds_toArray, List.set_cons_zero, List.set_cons_succ]
          refine wpAnyH_ready (rs := [5]) (by kernel_rfl) (by simp) (AllReadyH.cons (o := ⟨some 31, _, _, _, _, _⟩) rfl (fun K hK => ?_) AllReadyH.nil)
          obtain ⟨w3, hw3⟩ : ∃ x, w2.alloc (.cells (icells p).toArray 30) = x := ⟨_, rfl⟩
          change if Region.wanted _ _ = true then Oper.wp Try.prog _ _ (w2.alloc (.cells (icells p).toArray 30)) _ _ else _
          obtain ⟨hb3, hx3⟩ := box_new hw3
          obtain ⟨z2, hz2⟩ : ∃ z, w2.heap.size = z := ⟨_, rfl⟩
          have hrd3 : RdV w3 (some ⟨z2, 0, none⟩) (1 * 4) (icells p) := by rw [← hw3, ← hz2]; exact RdV.new w2 (icells p) 30 (0, 0)
          have hown3 := H2.out.2.2.2.1.below hb3 (Nat.le_refl _)
          have hs2 : w.heap.size ≤ w3.heap.size := Nat.le_trans H2.out.2.2.2.2.size hb3.size
          rw [hw3]
          (try rw [hz2])
          refine step_appK _ rfl (.tmp 27) (.tmp 30) 32 rfl w.heap.size 30 4 _ 32 Try.underlying32 info30 rfl (by omega) rfl hown3 rfl (m := 1) hrd3 (by omega) (by intro u hu; simp [icells] at hu; rcases hu with rfl | rfl | rfl | rfl <;> rfl) (by omega) (by omega) hs2 (k + 1) (by omega) ?_
          intro I4 mc4 w4 ho4 hg4 hat4
          have hIne : ∀ i T cs, w3.heap[i]? = some (.cells cs T (0, 0)) → T ≠ 30 → some i ≠ I.map (·.block) := fun i T cs hi hT e => by
            obtain ⟨cu, hc⟩ := hown3.typ e.symm
            exact ne_of_type hi hc hT rfl
          have hga3 : w3.heap[ga]? = _ := (hb3.block ga (lt_of_block H2.out.2.1)).trans H2.out.2.1
          have hgk3 : w3.heap[gk]? = _ := (hb3.block gk H2.out.2.2.1.lt).trans H2.out.2.2.1
          have hst3 := H2.out.1.below hb3 (Nat.le_refl _)
          have hga4 : w4.heap[ga]? = _ := (hg4.block ga (lt_of_block hga3) (hIne _ _ _ hga3 (by decide))).trans hga3
          have hgk4 : w4.heap[gk]? = _ := (hg4.block gk (lt_of_block hgk3) (hIne _ _ _ hgk3 (by decide))).trans hgk3
          have hgo : But (I.toList.map (·.block)) w3 w4 := (But.refl _ _).grown hg4 (fun i hi => by cases I <;> simp at hi ⊢; omega)
          have hIn : ∀ i, i ∈ I.toList.map (·.block) → I.map (·.block) = some i := fun i hi => by cases I <;> simp at hi ⊢; omega
          have hst4 : NSt w4 bb ba bw A n c b (rdI b (rds b k s6).2).2 := hst3.but hgo (fun h => hIne _ _ _ hst3.kb (by decide) (hIn _ h).symm) (fun h => hIne _ _ _ hst3.ka (by decide) (hIn _ h).symm) (fun h => hIne _ _ _ hst3.kw (by decide) (hIn _ h).symm) (fun j hj h => by have h1 := (hown3.block j (hIn _ h)).1; have h2 := HL.out.2.2.1 j hj; omega)
          have hbu4 : But [gk, ga, ba, bw] w w4 := (H2.out.2.2.2.2.trans (But.of_below hb3)).trans' hgo (fun i hi => .inr (hown3.block i (hIn _ hi)).1)
          have f4 := frozen_of_row w4 ga 4 _ 34 hga4
          have d5 := cell_of_row w4 ga 4 _ 34 (0, 0) hga4
          simp at d5
          have HW : Hid (LR w bb ba bw gk ga n c A b s6 v0 v1 v2 v3 v4 v5 x5 (k + 1) (w4.setCell ⟨ga, 4, none⟩ (.slice I4 (k + 1) mc4))) := by
            have hb5 : But [ga] w4 (w4.setCell ⟨ga, 4, none⟩ (.slice I4 (k + 1) mc4)) := (But.refl _ _).setCell (by simp) _
            refine ⟨I4, mc4, ?_, Box.but hgk4 hb5 (by have := HNE.out; simp; omega), set7 hga4 _ rfl, ?_, hbu4.trans (hb5.mono (by simp))⟩
            · rw [rds]
              exact hst4.but hb5 (by have := HNE.out; simp; omega) (by have := HNE.out; simp; omega) (by have := HNE.out; simp; omega) (fun j hj => by have := HNE.out.2.2.2.2 j hj; simp; omega)
            · have e5 : ics (rds b k s6).1 ++ icells p = ics (rds b (k + 1) s6).1 := by
                rw [rds]
                simp only
                rw [HG.out.2.2.2.2.2.2.1, ics_append]
                simp [ics]
              rw [e5] at ho4
              refine ho4.but hb5 (fun j hj => ?_)
              obtain ⟨cu, hc⟩ := ho4.typ hj
              have := ne_of_type hc hga4 (by decide)
              simpa using this
          clear ho4 hg4 hat4 hIne hga3 hgk3 hst3 hga4 hgk4 hgo hIn hst4 hbu4 hb3 hx3 hrd3 hown3 hs2 hw3 d4
          refine hK.out _ _ trivial (fun hHeld => ?_)
          clear hK K
          try simp only [Act.put, List.setIfInBounds_toArray, List.set_cons_zero, List.set_cons_succ]
          refine wpAnyH_take (i := 6) (oi := ⟨some 32, _, _, _, _, _⟩) (v := ?_) rfl (by kernel_rfl) (by kernel_rfl) (by kernel_rfl) (fun _ _ _ h => h) (Or.inl ⟨by rfl, ?_⟩) (by assumption) ?_
          rotate_left
          · intro w hSw
            (try dsimp only at hSw)
            go_simp
            all_goals (with_reducible rfl)
          try simp only [Act.put, List.setIfInBounds_toArray, List.set_cons_zero, List.set_cons_succ]
          refine wpAnyH_ready (rs := [7]) (by kernel_rfl) (by simp) (AllReadyH.cons (o := ⟨none, _, _, _, _, _⟩) rfl (fun K hK => ?_) AllReadyH.nil)
          go_simp
          refine hK.out _ _ trivial (fun hHeld => ?_)
          clear hK K
          try simp only [Act.put, List.setIfInBounds_toArray, List.set_cons_zero, List.set_cons_succ]
          refine wpAnyH_done (by kernel_rfl) ?_ _
          go_wp2
          go_roundw
          case rel => exact ⟨k + 1, by have := HG.out.2.2.2.2.2.2.2; omega, by go_num, HW.out⟩
          case measure => have := HG.out.2.2.2.2.2.2.2; simp [Go.RowKit.intOf]; omega
        · go_simp
          refine hK.out _ _ trivial (fun hHeld => ?_)
          clear hK K
          try simp only [Act.put, List.setIfInBounds_toArray, List.set_cons_zero, List.set_cons_succ]
          refine wpAnyH_ready (rs := [1]) (by kernel_rfl) (by simp) (AllReadyH.cons (o := ⟨some 27, _, _, _, _, _⟩) rfl (fun K hK => ?_) AllReadyH.nil)
          have d6 : (w2.alloc (.cells #[.int .i64 p.stripe, .int .i64 p.index, .int .i64 p.version, .int .u8 p.state] 30)).cell? ⟨ga, 4, none⟩ = some (.slice I k mc) := by rw [World.cell?_alloc_lt _ _ _ (lt_of_block H2.out.2.1)]; exact d4
          go_simp
          refine hK.out _ _ trivial (fun hHeld => ?_)
          clear hK K
          try simp only [Act.put, List.setIfInBounds_toArray, List.set_cons_zero, List.set_cons_succ]
          clear d6
          refine wpAnyH_ready (rs := [5]) (by kernel_rfl) (by simp) (AllReadyH.cons (o := ⟨some 31, _, _, _, _, _⟩) rfl (fun K hK => ?_) AllReadyH.nil)
          obtain ⟨w3, hw3⟩ : ∃ x, w2.alloc (.cells (icells p).toArray 30) = x := ⟨_, rfl⟩
          change if Region.wanted _ _ = true then Oper.wp Try.prog _ _ (w2.alloc (.cells (icells p).toArray 30)) _ _ else _
          obtain ⟨hb3, hx3⟩ := box_new hw3
          obtain ⟨z2, hz2⟩ : ∃ z, w2.heap.size = z := ⟨_, rfl⟩
          have hrd3 : RdV w3 (some ⟨z2, 0, none⟩) (1 * 4) (icells p) := by rw [← hw3, ← hz2]; exact RdV.new w2 (icells p) 30 (0, 0)
          have hown3 := H2.out.2.2.2.1.below hb3 (Nat.le_refl _)
          have hs2 : w.heap.size ≤ w3.heap.size := Nat.le_trans H2.out.2.2.2.2.size hb3.size
          rw [hw3]
          (try rw [hz2])
          refine step_appK _ rfl (.tmp 27) (.tmp 30) 32 rfl w.heap.size 30 4 _ 32 Try.underlying32 info30 rfl (by omega) rfl hown3 rfl (m := 1) hrd3 (by omega) (by intro u hu; simp [icells] at hu; rcases hu with rfl | rfl | rfl | rfl <;> rfl) (by omega) (by omega) hs2 (k + 1) (by omega) ?_
          intro I4 mc4 w4 ho4 hg4 hat4
          have hIne : ∀ i T cs, w3.heap[i]? = some (.cells cs T (0, 0)) → T ≠ 30 → some i ≠ I.map (·.block) := fun i T cs hi hT e => by
            obtain ⟨cu, hc⟩ := hown3.typ e.symm
            exact ne_of_type hi hc hT rfl
          have hga3 : w3.heap[ga]? = _ := (hb3.block ga (lt_of_block H2.out.2.1)).trans H2.out.2.1
          have hgk3 : w3.heap[gk]? = _ := (hb3.block gk H2.out.2.2.1.lt).trans H2.out.2.2.1
          have hst3 := H2.out.1.below hb3 (Nat.le_refl _)
          have hga4 : w4.heap[ga]? = _ := (hg4.block ga (lt_of_block hga3) (hIne _ _ _ hga3 (by decide))).trans hga3
          have hgk4 : w4.heap[gk]? = _ := (hg4.block gk (lt_of_block hgk3) (hIne _ _ _ hgk3 (by decide))).trans hgk3
          have hgo : But (I.toList.map (·.block)) w3 w4 := (But.refl _ _).grown hg4 (fun i hi => by cases I <;> simp at hi ⊢; omega)
          have hIn : ∀ i, i ∈ I.toList.map (·.block) → I.map (·.block) = some i := fun i hi => by cases I <;> simp at hi ⊢; omega
          have hst4 : NSt w4 bb ba bw A n c b (rdI b (rds b k s6).2).2 := hst3.but hgo (fun h => hIne _ _ _ hst3.kb (by decide) (hIn _ h).symm) (fun h => hIne _ _ _ hst3.ka (by decide) (hIn _ h).symm) (fun h => hIne _ _ _ hst3.kw (by decide) (hIn _ h).symm) (fun j hj h => by have h1 := (hown3.block j (hIn _ h)).1; have h2 := HL.out.2.2.1 j hj; omega)
          have hbu4 : But [gk, ga, ba, bw] w w4 := (H2.out.2.2.2.2.trans (But.of_below hb3)).trans' hgo (fun i hi => .inr (hown3.block i (hIn _ hi)).1)
          have f4 := frozen_of_row w4 ga 4 _ 34 hga4
          have d5 := cell_of_row w4 ga 4 _ 34 (0, 0) hga4
          simp at d5
          have HW : Hid (LR w bb ba bw gk ga n c A b s6 v0 v1 v2 v3 v4 v5 x5 (k + 1) (w4.setCell ⟨ga, 4, none⟩ (.slice I4 (k + 1) mc4))) := by
            have hb5 : But [ga] w4 (w4.setCell ⟨ga, 4, none⟩ (.slice I4 (k + 1) mc4)) := (But.refl _ _).setCell (by simp) _
            refine ⟨I4, mc4, ?_, Box.but hgk4 hb5 (by have := HNE.out; simp; omega), set7 hga4 _ rfl, ?_, hbu4.trans (hb5.mono (by simp))⟩
            · rw [rds]
              exact hst4.but hb5 (by have := HNE.out; simp; omega) (by have := HNE.out; simp; omega) (by have := HNE.out; simp; omega) (fun j hj => by have := HNE.out.2.2.2.2 j hj; simp; omega)
            · have e5 : ics (rds b k s6).1 ++ icells p = ics (rds b (k + 1) s6).1 := by
                rw [rds]
                simp only
                rw [HG.out.2.2.2.2.2.2.1, ics_append]
                simp [ics]
              rw [e5] at ho4
              refine ho4.but hb5 (fun j hj => ?_)
              obtain ⟨cu, hc⟩ := ho4.typ hj
              have := ne_of_type hc hga4 (by decide)
              simpa using this
          clear ho4 hg4 hat4 hIne hga3 hgk3 hst3 hga4 hgk4 hgo hIn hst4 hbu4 hb3 hx3 hrd3 hown3 hs2 hw3 d4
          refine hK.out _ _ trivial (fun hHeld => ?_)
          clear hK K
          try simp only [Act.put, List.setIfInBounds_toArray, List.set_cons_zero, List.set_cons_succ]
          refine wpAnyH_take (i := 6) (oi := ⟨some 32, _, _, _, _, _⟩) (v := ?_) rfl (by kernel_rfl) (by kernel_rfl) (by kernel_rfl) (fun _ _ _ h => h) (Or.inl ⟨by rfl, ?_⟩) (by assumption) ?_
          rotate_left
          · intro w hSw
            (try dsimp only at hSw)
            go_simp
            all_goals (with_reducible rfl)
          try simp only [Act.put, List.setIfInBounds_toArray, List.set_cons_zero, List.set_cons_succ]
          refine wpAnyH_ready (rs := [7]) (by kernel_rfl) (by simp) (AllReadyH.cons (o := ⟨none, _, _, _, _, _⟩) rfl (fun K hK => ?_) AllReadyH.nil)
          go_simp
          refine hK.out _ _ trivial (fun hHeld => ?_)
          clear hK K
          try simp only [Act.put, List.setIfInBounds_toArray, List.set_cons_zero, List.set_cons_succ]
          refine wpAnyH_done (by kernel_rfl) ?_ _
          go_wp2
          go_roundw
          case rel => exact ⟨k + 1, by have := HG.out.2.2.2.2.2.2.2; omega, by go_num, HW.out⟩
          case measure => have := HG.out.2.2.2.2.2.2.2; simp [Go.RowKit.intOf]; omega
    · obtain rfl : k = v6 := by omega
      go_wp2
      go_end0
      obtain ⟨I, mc, g1, g2, g3, g4, g5⟩ := HR.out
      rw [HE.out.2]
      exact ⟨rfl, ⟨v0, v1, v2, v3, v4, v5, k, I, k, mc, HE.out.1, hv3l, hv6l, g2, g3, by rw [HE.out.2]; exact g4⟩, g1, g5⟩
end
end Go.Proofs.Ytmiapegecoaccaa
