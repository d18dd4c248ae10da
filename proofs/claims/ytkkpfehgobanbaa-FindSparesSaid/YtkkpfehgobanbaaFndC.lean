/- slices.Clone at bytes and at lists of bytes; has, alone. -/
import Derived.Test.YtkkpfehgobanbaaFndB
import Derived.Deep.CutRange
import Derived.Deep.CutBlock
namespace Go.Proofs.Ytkkpfehgobanbaa
open Go.RowKit Go.Coop
set_option maxRecDepth 100000
theorem cloneB_is (R : Option Addr) (k rc : Nat) (l : List UInt8) (w : World) (h : Rd w R k l) (hk2 : k ≤ 140737488355328) : Calls Try.prog 39 #[.slice R k rc] w (Fresh w k l) := by
  cases R with
  | none =>
    have h0 : k = 0 := by
      rcases Nat.eq_zero_or_pos k with h0 | h0
      · exact h0
      · obtain ⟨_, _, e, _⟩ := h.at_ h0
        cases e
    subst h0
    have hl0 : l = [] := List.eq_nil_of_length_eq_zero h.len
    subst hl0
    have hnil := fun W => Lib.run_eql_slice_nil (P := Try.prog) W 35 5 none 0 rc 0 0 Try.underlying35
    simp only [Option.isNone_none] at hnil
    go_enter Try.func39, Try.ntmps39
    go_wp2
    go_ret
    exact ⟨none, 0, rfl, ⟨rfl, World.ownsRow_nil _ _ _ _⟩, Below.refl _ _⟩
  | some ad =>
    have HR := Lib.hid h
    have hnil := fun W => Lib.run_eql_slice_nil (P := Try.prog) W 35 5 (some ad) k rc 0 0 Try.underlying35
    simp only [Option.isNone_some] at hnil
    have HN : Hid (Go.Coop.Own (w.alloc (.cells #[] 5)) w.heap.size 5 (some ⟨w.heap.size, 0, none⟩) 0 0 []) := ⟨rfl, World.ownsRow_lit (base := w.heap.size) (e := 5) (size := 1) w #[] 0 (Nat.le_refl _) (by simp) rfl⟩
    clear h
    go_enter Try.func39, Try.ntmps39
    go_wp2_with (at_builtin; refine wpList_app _ rfl (.tmp 5) (.tmp 6) _ rfl w.heap.size 5 Try.underlying35 info5 rfl HN.out rfl (HR.out.alloc _) (by omega) (by simp) k (by omega) ?_; intro A' c' w' ho hg hat)
    go_ret
    refine ⟨A', c', rfl, by simpa using ho, ((Below.refl _ _).alloc (Nat.le_refl _) _).grown hg (by simp) (fun j hj => by simp at hj; omega)⟩
/-- what a list of slices reads as, one cell each -/
def Slc (w : World) (vs : List Value) (bs : List (List UInt8)) : Prop := ∀ (i : Nat) (r : List UInt8), bs[i]? = some r → ∃ (B : Option Addr) (d : Nat), vs[i]? = some (Value.slice B r.length d) ∧ Rd w B r.length r
theorem slc_one {w : World} {vs : List Value} {bs : List (List UInt8)} (hl : vs.length = bs.length) (h : Slc w vs bs) : ∀ u ∈ vs, u.oneCell' = true := by
  intro u hu
  obtain ⟨i, hi⟩ := List.getElem?_of_mem hu
  obtain ⟨r, hr⟩ : ∃ r, bs[i]? = some r := ⟨_, List.getElem?_eq_getElem (by rw [← hl]; exact (List.getElem?_eq_some_iff.1 hi).1)⟩
  obtain ⟨B, d, e, _⟩ := h i r hr
  rw [hi] at e
  injection e with e
  subst e
  rfl
theorem cloneL_is (C : Option Addr) (q k : Nat) (vs : List Value) (w : World) (h : RdV w C q vs) (h1 : ∀ u ∈ vs, u.oneCell' = true) (hq : q ≤ 1000000) : Calls Try.prog 53 #[.slice C q k] w fun e w' => ∃ C' k', e = .returned (.slice C' q k') ∧ OwnV w' w.heap.size 35 C' q k' vs ∧ Below w.heap.size w w' := by
  cases C with
  | none =>
    have h0 : q = 0 := by
      rcases Nat.eq_zero_or_pos q with h0 | h0
      · exact h0
      · obtain ⟨_, e, _⟩ := h.cells h0
        cases e
    subst h0
    have hl0 : vs = [] := List.eq_nil_of_length_eq_zero h.len
    subst hl0
    have hnil := fun W => Lib.run_eql_slice_nil (P := Try.prog) W 25 35 none 0 k 0 0 Try.underlying25
    simp only [Option.isNone_none] at hnil
    clear h h1
    go_enter Try.func53, Try.ntmps53
    go_wp2
    go_ret
    exact ⟨none, 0, rfl, OwnV.nil _ _ _, Below.refl _ _⟩
  | some ad =>
    have HR := Lib.hid (And.intro h h1)
    have hnil := fun W => Lib.run_eql_slice_nil (P := Try.prog) W 25 35 (some ad) q k 0 0 Try.underlying25
    simp only [Option.isNone_some] at hnil
    have HN : Hid (OwnV (w.alloc (.cells #[] 35)) w.heap.size 35 (some ⟨w.heap.size, 0, none⟩) 0 0 []) := ⟨rfl, World.ownsRow_lit (base := w.heap.size) (e := 35) (size := 1) w #[] 0 (Nat.le_refl _) (by simp) rfl⟩
    clear h h1
    go_enter Try.func53, Try.ntmps53
    go_wp2_with (at_builtin; refine wpList_appV _ rfl (.tmp 5) (.tmp 6) _ rfl w.heap.size 35 (.slice none 0 0) 24 Try.underlying25 info31 rfl rfl HN.out rfl (HR.out.1.alloc _) HR.out.2 (by omega) (by omega) (by simp) q (by omega) ?_; intro A' c' w' ho hg hat)
    go_ret
    refine ⟨A', c', rfl, by simpa using ho, ((Below.refl _ _).alloc (Nat.le_refl _) _).grown hg (by simp) (fun j hj => by simp at hj; omega)⟩
theorem cl_is {w : World} {A : Option Addr} {n c : Nat} {l : List Int} (h : RdV w A n (l.map IV)) (hm : n ≤ 1000000) : Calls Try.prog 52 #[.slice A n c] w fun e w' => ∃ A' c', e = .returned (.slice A' n c') ∧ OwnV w' w.heap.size 3 A' n c' (l.map IV) ∧ Below w.heap.size w w' := by
  have hl : l.length = n := by simpa using h.len
  refine (clone_is w h hm).mono ?_
  rintro e w' ⟨A', c', he, ho, hb⟩
  rw [hl] at he ho
  exact ⟨A', c', he, ho, hb⟩
section
variable (w : World)
theorem has_is (s v need ph i : Int) {A : Option Addr} {n c : Nat} {ms : List Int} {B : Option Addr} {m d : Nat} {ws : List Int} {C : Option Addr} {q k : Nat} {bs : List (List UInt8)} (h : FR w A n ms B m ws C q bs) {z : Bool} (hz : decide (HasF ⟨s, v, need, ph, ms, ws, bs⟩ i) = z) : Calls Try.prog 37 #[.agg #[.int .i64 s, .int .i64 v, .int .i64 need, .int .i64 ph, .slice A n c, .slice B m d, .slice C q k], .int .i64 i] w (Told w z) := by
  obtain ⟨hln, hlm, hlq⟩ := h.lens
  obtain ⟨bn, bm, bq⟩ := h.le
  obtain ⟨w1, hw1⟩ : ∃ z, w.alloc (.cells #[.int .i64 s, .int .i64 v, .int .i64 need, .int .i64 ph, .slice A n c, .slice B m d, .slice C q k] 27) = z := ⟨_, rfl⟩
  obtain ⟨hb1, hx1⟩ := box_mk hw1
  obtain ⟨b, hb⟩ : ∃ b, w.heap.size = b := ⟨_, rfl⟩
  rw [hb] at hx1
  have hr1 := Lib.hid (h.below hb1 (Nat.le_refl _))
  have HB1 := Lib.hid hb1
  have HX1 := Lib.hid hx1
  obtain ⟨⟨f0, f1, f2, f3, f4, f5, f6⟩, fbl⟩ := seven hx1
  clear h hb1 hx1
  by_cases hR : RightF ⟨s, v, need, ph, ms, ws, bs⟩
  · have kR := Lib.hid (decide_eq_true hR)
    have hn1 : 1 ≤ n := by have := hR.may.2.2.1.1; simp only [hln] at this; omega
    have hw : IntKind.i64.wrap ((n : Int) - 1) = (n : Int) - 1 := IntWalk.i64_in _ (by omega)
    obtain ⟨x, hx, hxI⟩ : ∃ x : Bool, Hid (decide (0 ≤ i ∧ i ≤ (n : Int) - 1) = x) ∧ z = x := ⟨_, rfl, by
      rw [← hz]
      refine decide_eq_decide.2 ⟨fun h => ⟨h.2.1, ?_⟩, fun h => ⟨hR, h.1, ?_⟩⟩
      · have := h.2.2
        simp only [hln] at this
        omega
      · simp only [hln]
        omega⟩
    subst hxI
    clear hz hR hn1
    go_enter Try.func37, Try.ntmps37
    go_wp2_with fail
    (try rw [hw1]); (try rw [hb])
    refine (right_is _ s v need ph hr1.out kR.out).mono ?_
    rintro e w2 ⟨rfl, hb2⟩
    have HB2 := Lib.hid (HB1.out.trans (hb2.mono HB1.out.size))
    obtain ⟨⟨g0, g1, g2, g3, g4, g5, g6⟩, gbl⟩ := seven ((hb2.block _ (lt_of_block HX1.out)).trans HX1.out)
    clear hb2 f0 f1 f2 f3 f4 f5 f6
    go_wp2_with fail
    refine (fits_q _ i 0 ((n : Int) - 1) hx.out).mono ?_
    rintro e w' ⟨rfl, rfl⟩
    go_wp2
    go_ret
    exact told_mk rfl HB2.out
  · have kR := Lib.hid (decide_eq_false hR)
    obtain rfl : z = false := by rw [← hz]; exact decide_eq_false (fun h => hR h.1)
    clear hz hR
    go_enter Try.func37, Try.ntmps37
    go_wp2_with fail
    (try rw [hw1]); (try rw [hb])
    refine (right_is _ s v need ph hr1.out kR.out).mono ?_
    rintro e w2 ⟨rfl, hb2⟩
    have HB2 := Lib.hid (HB1.out.trans (hb2.mono HB1.out.size))
    clear hb2
    go_wp2
    go_ret
    exact told_mk rfl HB2.out
end
theorem thaw7 {w : World} {b : Nat} {x0 x1 x2 x3 x4 x5 x6 : Value} {T : TypeId} (h : w.heap[b]? = some (.cells #[x0, x1, x2, x3, x4, x5, x6] T (0, 0))) : w.frozen? ⟨b, 0, none⟩ = false ∧ w.frozen? ⟨b, 1, none⟩ = false ∧ w.frozen? ⟨b, 2, none⟩ = false ∧ w.frozen? ⟨b, 3, none⟩ = false ∧ w.frozen? ⟨b, 4, none⟩ = false ∧ w.frozen? ⟨b, 5, none⟩ = false ∧ w.frozen? ⟨b, 6, none⟩ = false := by
  refine ⟨?_, ?_, ?_, ?_, ?_, ?_, ?_⟩ <;> simp [World.frozen?, h]
theorem put4 {w : World} {b : Nat} {T : TypeId} {x0 x1 x2 x3 x4 x5 x6 u : Value} (h : w.heap[b]? = some (.cells #[x0, x1, x2, x3, x4, x5, x6] T (0, 0))) : (w.setCell ⟨b, 4, none⟩ u).heap[b]? = some (.cells #[x0, x1, x2, x3, u, x5, x6] T (0, 0)) := heap_setCell_same w b 4 _ T u h
theorem put5 {w : World} {b : Nat} {T : TypeId} {x0 x1 x2 x3 x4 x5 x6 u : Value} (h : w.heap[b]? = some (.cells #[x0, x1, x2, x3, x4, x5, x6] T (0, 0))) : (w.setCell ⟨b, 5, none⟩ u).heap[b]? = some (.cells #[x0, x1, x2, x3, x4, u, x6] T (0, 0)) := heap_setCell_same w b 5 _ T u h
theorem put6 {w : World} {b : Nat} {T : TypeId} {x0 x1 x2 x3 x4 x5 x6 u : Value} (h : w.heap[b]? = some (.cells #[x0, x1, x2, x3, x4, x5, x6] T (0, 0))) : (w.setCell ⟨b, 6, none⟩ u).heap[b]? = some (.cells #[x0, x1, x2, x3, x4, x5, u] T (0, 0)) := heap_setCell_same w b 6 _ T u h
theorem put3 {w : World} {b : Nat} {T : TypeId} {x0 x1 x2 x3 x4 x5 x6 u : Value} (h : w.heap[b]? = some (.cells #[x0, x1, x2, x3, x4, x5, x6] T (0, 0))) : (w.setCell ⟨b, 3, none⟩ u).heap[b]? = some (.cells #[x0, x1, x2, u, x4, x5, x6] T (0, 0)) := heap_setCell_same w b 3 _ T u h
/-- a struct of seven cells is written -/
def set7 (w : World) (b : Nat) (v0 v1 v2 v3 v4 v5 v6 : Value) : World := ((((((w.setCell ⟨b, 0, none⟩ v0).setCell ⟨b, 1, none⟩ v1).setCell ⟨b, 2, none⟩ v2).setCell ⟨b, 3, none⟩ v3).setCell ⟨b, 4, none⟩ v4).setCell ⟨b, 5, none⟩ v5).setCell ⟨b, 6, none⟩ v6
theorem row7 {w : World} {b : Nat} {T : TypeId} {x0 x1 x2 x3 x4 x5 x6 v0 v1 v2 v3 v4 v5 v6 : Value} (h : w.heap[b]? = some (.cells #[x0, x1, x2, x3, x4, x5, x6] T (0, 0))) : (set7 w b v0 v1 v2 v3 v4 v5 v6).heap[b]? = some (.cells #[v0, v1, v2, v3, v4, v5, v6] T (0, 0)) := by
  have h0 : (w.setCell ⟨b, 0, none⟩ v0).heap[b]? = some (.cells #[v0, x1, x2, x3, x4, x5, x6] T (0, 0)) := heap_setCell_same _ b 0 _ T v0 h
  have h1 : ((w.setCell ⟨b, 0, none⟩ v0).setCell ⟨b, 1, none⟩ v1).heap[b]? = some (.cells #[v0, v1, x2, x3, x4, x5, x6] T (0, 0)) := heap_setCell_same _ b 1 _ T v1 h0
  have h2 : (((w.setCell ⟨b, 0, none⟩ v0).setCell ⟨b, 1, none⟩ v1).setCell ⟨b, 2, none⟩ v2).heap[b]? = some (.cells #[v0, v1, v2, x3, x4, x5, x6] T (0, 0)) := heap_setCell_same _ b 2 _ T v2 h1
  have h3 : ((((w.setCell ⟨b, 0, none⟩ v0).setCell ⟨b, 1, none⟩ v1).setCell ⟨b, 2, none⟩ v2).setCell ⟨b, 3, none⟩ v3).heap[b]? = some (.cells #[v0, v1, v2, v3, x4, x5, x6] T (0, 0)) := heap_setCell_same _ b 3 _ T v3 h2
  have h4 : (((((w.setCell ⟨b, 0, none⟩ v0).setCell ⟨b, 1, none⟩ v1).setCell ⟨b, 2, none⟩ v2).setCell ⟨b, 3, none⟩ v3).setCell ⟨b, 4, none⟩ v4).heap[b]? = some (.cells #[v0, v1, v2, v3, v4, x5, x6] T (0, 0)) := heap_setCell_same _ b 4 _ T v4 h3
  have h5 : ((((((w.setCell ⟨b, 0, none⟩ v0).setCell ⟨b, 1, none⟩ v1).setCell ⟨b, 2, none⟩ v2).setCell ⟨b, 3, none⟩ v3).setCell ⟨b, 4, none⟩ v4).setCell ⟨b, 5, none⟩ v5).heap[b]? = some (.cells #[v0, v1, v2, v3, v4, v5, x6] T (0, 0)) := heap_setCell_same _ b 5 _ T v5 h4
  exact heap_setCell_same _ b 6 _ T v6 h5
theorem but7 (w : World) (b : Nat) (v0 v1 v2 v3 v4 v5 v6 : Value) : Go.Coop.But [b] w (set7 w b v0 v1 v2 v3 v4 v5 v6) :=
  (((((((Go.Coop.But.refl _ _).setCell (by simp) _).setCell (by simp) _).setCell (by simp) _).setCell (by simp) _).setCell (by simp) _).setCell (by simp) _).setCell (by simp) _
/-- what alone leaves ahead of its loop -/
structure AC (w wz : World) (b b2 : Nat) (s v need ph : Int) (A : Option Addr) (n c : Nat) (ms : List Int) (B : Option Addr) (m d : Nat) (ws : List Int) (C : Option Addr) (q k : Nat) (vs : List Value) : Prop where
  row : wz.heap[b]? = some (.cells #[.int .i64 s, .int .i64 v, .int .i64 need, .int .i64 ph, .slice A n c, .slice B m d, .slice C q k] 27 (0, 0))
  res : wz.heap[b2]? = some (.cells #[.int .i64 0, .int .i64 0, .int .i64 0, .int .i64 0, .slice none 0 0, .slice none 0 0, .slice none 0 0] 27 (0, 0))
  oa : OwnV wz w.heap.size 3 A n c (ms.map IV)
  ob : OwnV wz w.heap.size 3 B m d (ws.map IV)
  oc : OwnV wz w.heap.size 35 C q k vs
  dj : ∀ i, A.map (·.block) = some i → B.map (·.block) ≠ some i
  but : Go.Coop.But [b] w wz
theorem AC.put {w wr wz : World} {b b2 g j : Nat} {s v need ph : Int} {A : Option Addr} {n c : Nat} {ms : List Int} {B : Option Addr} {m d : Nat} {ws : List Int} {q k : Nat} {vs : List Value} {x : Value} (h : AC w wr b b2 s v need ph A n c ms B m d ws (some ⟨g, 0, none⟩) q k vs) (hw : wr.setCell ⟨g, j, none⟩ x = wz) (hb : b < w.heap.size) (hb2 : b2 < w.heap.size) (hg : w.heap.size ≤ g) (hc : ∃ cur, wr.heap[g]? = some (.cells cur 35 (0, 0))) : AC w wz b b2 s v need ph A n c ms B m d ws (some ⟨g, 0, none⟩) q k (vs.set j x) := by
  have hbt : Go.Coop.But [g] wr wz := hw ▸ (Go.Coop.But.refl _ _).setCell (by simp) _
  obtain ⟨cur, hcur⟩ := hc
  have hne : ∀ {X : Option Addr} {n c : Nat} {l : List Value}, OwnV wr w.heap.size 3 X n c l → ∀ i, X.map (·.block) = some i → i ∉ [g] := fun ho i hi hm => by
    obtain ⟨cu, hcu⟩ := ho.typ hi
    simp at hm
    subst hm
    rw [hcu] at hcur
    injection hcur with hcur
    injection hcur with _ hcur _
    exact absurd hcur (by decide)
  refine ⟨hbt.cells h.row (by simp; omega), hbt.cells h.res (by simp; omega), h.oa.but hbt (hne h.oa), h.ob.but hbt (hne h.ob), hw ▸ h.oc.set rfl x, h.dj, h.but.trans' hbt (fun i hi => .inr (by simp at hi; omega))⟩
theorem AC.below {w wr wz : World} {b b2 : Nat} {s v need ph : Int} {A : Option Addr} {n c : Nat} {ms : List Int} {B : Option Addr} {m d : Nat} {ws : List Int} {C : Option Addr} {q k : Nat} {vs : List Value} (h : AC w wr b b2 s v need ph A n c ms B m d ws C q k vs) (hb : Below wr.heap.size wr wz) : AC w wz b b2 s v need ph A n c ms B m d ws C q k vs :=
  ⟨(hb.block _ (lt_of_block h.row)).trans h.row, (hb.block _ (lt_of_block h.res)).trans h.res, h.oa.below hb (Nat.le_refl _), h.ob.below hb (Nat.le_refl _), h.oc.below hb (Nat.le_refl _), h.dj, h.but.trans (Go.Coop.But.of_below hb)⟩
theorem own_at5 {wr wz : World} {base g j : Nat} {x : Value} {B : Option Addr} {n d : Nat} {l : List UInt8} (h : Go.Coop.Own wr base 5 B n d l) (hw : wr.setCell ⟨g, j, none⟩ x = wz) (hc : ∃ cur, wr.heap[g]? = some (.cells cur 35 (0, 0))) : Go.Coop.Own wz base 5 B n d l := by
  refine h.at_block fun i hi => ?_
  obtain ⟨cu, hcu, _⟩ := h.cells_at i hi
  obtain ⟨cur, hcur⟩ := hc
  have hbt : Go.Coop.But [g] wr wz := hw ▸ (Go.Coop.But.refl _ _).setCell (by simp) _
  refine (hbt.cells hcu ?_).trans hcu.symm
  intro hm
  simp at hm
  subst hm
  rw [hcu] at hcur
  injection hcur with hcur
  injection hcur with _ hcur _
  exact absurd hcur (by decide)
/-- the rows of alone's loop: those ahead of j are its own -/
def Rws (w wr : World) (base j : Nat) (vs : List Value) (bs : List (List UInt8)) : Prop := ∀ (i : Nat) (r : List UInt8), bs[i]? = some r → ∃ (B : Option Addr) (d : Nat), vs[i]? = some (Value.slice B r.length d) ∧ (i < j → Go.Coop.Own wr base 5 B r.length d r) ∧ (j ≤ i → Rd w B r.length r)
theorem Rws.put {w wr w2 wz : World} {base g j : Nat} {vs : List Value} {bs : List (List UInt8)} {X : Option Addr} {dx : Nat} {r0 : List UInt8} (h : Rws w wr base j vs bs) (hb : Below wr.heap.size wr w2) (hw : w2.setCell ⟨g, j, none⟩ (.slice X r0.length dx) = wz) (hc : ∃ cur, w2.heap[g]? = some (.cells cur 35 (0, 0))) (hr0 : bs[j]? = some r0) (hl : vs.length = bs.length) (ho : Go.Coop.Own w2 base 5 X r0.length dx r0) : Rws w wz base (j + 1) (vs.set j (.slice X r0.length dx)) bs := by
  intro i r hr
  by_cases hij : i = j
  · subst hij
    rw [hr0] at hr
    injection hr with hr
    subst hr
    exact ⟨X, dx, by rw [List.getElem?_set_self (by rw [hl]; exact (List.getElem?_eq_some_iff.1 hr0).1)], fun _ => own_at5 ho hw hc, fun h => by omega⟩
  · obtain ⟨B, d, h1, h2, h3⟩ := h i r hr
    exact ⟨B, d, by rw [List.getElem?_set_ne (fun e => hij e.symm)]; exact h1, fun h => own_at5 ((h2 (by omega)).below hb (Nat.le_refl _)) hw hc, fun h => h3 (by omega)⟩
/-- a find in memory of its own -/
def OneF (w : World) (r : Fq) (e : Ending) (w' : World) : Prop := ∃ A c B d C k, e = .returned (.agg #[.int .i64 r.s, .int .i64 r.v, .int .i64 r.need, .int .i64 r.ph, .slice A r.ms.length c, .slice B r.ws.length d, .slice C r.bs.length k]) ∧ OwnV w' w.heap.size 3 A r.ms.length c (r.ms.map IV) ∧ OwnV w' w.heap.size 3 B r.ws.length d (r.ws.map IV) ∧ MO w' w.heap.size w.heap.size C r.bs.length k r.bs ∧ (∀ i, A.map (·.block) = some i → B.map (·.block) ≠ some i) ∧ Below w.heap.size w w'
section
variable (w : World)
set_option maxHeartbeats 8000000 in
theorem alone_is (s v need ph : Int) {A : Option Addr} {n c : Nat} {ms : List Int} {B : Option Addr} {m d : Nat} {ws : List Int} {C : Option Addr} {q k : Nat} {bs : List (List UInt8)} (h : FR w A n ms B m ws C q bs) : Calls Try.prog 38 #[.agg #[.int .i64 s, .int .i64 v, .int .i64 need, .int .i64 ph, .slice A n c, .slice B m d, .slice C q k]] w (OneF w ⟨s, v, need, ph, ms, ws, bs⟩) := by
  obtain ⟨hln, hlm, hlq⟩ := h.lens
  obtain ⟨bn, bm, bq⟩ := h.le
  obtain ⟨vs, hv, hs⟩ := h.sh.out
  have hvl : vs.length = q := hv.len
  have HS := Lib.hid (show Slc w vs bs from hs)
  have HSM := Lib.hid h.sm
  obtain ⟨w1, hw1⟩ : ∃ z, w.alloc (.cells #[.int .i64 s, .int .i64 v, .int .i64 need, .int .i64 ph, .slice A n c, .slice B m d, .slice C q k] 27) = z := ⟨_, rfl⟩
  obtain ⟨w2, hw2⟩ : ∃ z, w1.alloc (.cells #[.int .i64 0, .int .i64 0, .int .i64 0, .int .i64 0, .slice none 0 0, .slice none 0 0, .slice none 0 0] 27) = z := ⟨_, rfl⟩
  obtain ⟨hb1, hx1⟩ := box_mk hw1
  obtain ⟨hb2, hx2⟩ := box_mk hw2
  obtain ⟨b, hb⟩ : ∃ b, w.heap.size = b := ⟨_, rfl⟩
  obtain ⟨b2, hbb⟩ : ∃ b, w1.heap.size = b := ⟨_, rfl⟩
  have hlt : b < b2 := by rw [← hb, ← hbb]; exact lt_of_block hx1
  have hx12 := (hb2.block _ (lt_of_block hx1)).trans hx1
  rw [hb] at hx12
  rw [hbb] at hx2
  have hB2 := hb1.trans (hb2.mono hb1.size)
  have HX2 := Lib.hid hx12
  have HZ2 := Lib.hid hx2
  have HB2 := Lib.hid hB2
  have HR2 := Lib.hid (h.below hB2 (Nat.le_refl _))
  have HLT := Lib.hid (And.intro hlt hb)
  have hne : b2 ≠ b := by omega
  have hne' : b ≠ b2 := by omega
  obtain ⟨⟨f0, f1, f2, f3, f4, f5, f6⟩, fbl⟩ := seven hx12
  clear hlt hx12 hx2 hB2 hb1 hb2 hx1
  have HVS : Hid (RdV w2 C q vs ∧ ∀ u ∈ vs, u.oneCell' = true) := ⟨hv.below HB2.out (Nat.le_refl _), slc_one (by rw [hvl, hlq]) HS.out⟩
  have HVL := Lib.hid hvl
  clear hv hs hvl h hlq
  go_enter Try.func38, Try.ntmps38
  go_upto_region 1 with (fail)
  (try rw [hw1]); (try rw [hw2]); (try rw [hb]); (try rw [hbb])
  clear hw1 hw2 hb hbb
  go_cut [] from 5 to 16 (fun wz => ∃ A1 c1 B1 d1 C1 k1, Hid (AC w2 wz b b2 s v need ph A1 n c1 ms B1 m d1 ws C1 q k1 vs))
  case first =>
    obtain ⟨y0, h_y0⟩ : ∃ z, w2.drew = z := ⟨_, rfl⟩
    have HW_y0 : Hid (Below w2.heap.size w2 y0) := h_y0 ▸ (Below.refl _ _).drew
    have HX_y0 := Lib.hid ((HW_y0.out.block _ (lt_of_block HX2.out)).trans HX2.out)
    have HZ_y0 := Lib.hid ((HW_y0.out.block _ (lt_of_block HZ2.out)).trans HZ2.out)
    have HR_y0 := Lib.hid (HR2.out.below HW_y0.out (Nat.le_refl _))
    clear f0 f1 f2 f3 f4 f5 f6 fbl
    refine wp_region_held_drew (S := fun _ => True) (by kernel_rfl) trivial (fun hHeld => ?_)
    rw [h_y0]
    clear h_y0
    refine wpAnyH_take (i := 0) (oi := ⟨some 5, _, _, _, _, _⟩) (v := ?_) rfl (by kernel_rfl) (by kernel_rfl) (by kernel_rfl) (fun _ _ _ h => h) (Or.inl ⟨by rfl, ?_⟩) (by assumption) ?_
    rotate_left
    · intro w hSw
      (try dsimp only at hSw)
      go_simp
      all_goals (with_reducible rfl)
    try simp only [Act.put, List.setIfInBounds_toArray, List.set_cons_zero, List.set_cons_succ]
    refine wpAnyH_take (i := 3) (oi := ⟨some 8, _, _, _, _, _⟩) (v := ?_) rfl (by kernel_rfl) (by kernel_rfl) (by kernel_rfl) (fun _ _ _ h => h) (Or.inl ⟨by rfl, ?_⟩) (by assumption) ?_
    rotate_left
    · intro w hSw
      (try dsimp only at hSw)
      go_simp
      all_goals (with_reducible rfl)
    try simp only [Act.put, List.setIfInBounds_toArray, List.set_cons_zero, List.set_cons_succ]
    refine wpAnyH_take (i := 6) (oi := ⟨some 11, _, _, _, _, _⟩) (v := ?_) rfl (by kernel_rfl) (by kernel_rfl) (by kernel_rfl) (fun _ _ _ h => h) (Or.inl ⟨by rfl, ?_⟩) (by assumption) ?_
    rotate_left
    · intro w hSw
      (try dsimp only at hSw)
      go_simp
      all_goals (with_reducible rfl)
    try simp only [Act.put, List.setIfInBounds_toArray, List.set_cons_zero, List.set_cons_succ]
    refine wpAnyH_ready (rs := [1, 4, 7]) (by kernel_rfl) (by simp) (AllReadyH.cons (o := ⟨some 6, _, _, _, _, _⟩) rfl (fun K hK => ?_) (AllReadyH.cons (o := ⟨some 9, _, _, _, _, _⟩) rfl (fun K hK => ?_) (AllReadyH.cons (o := ⟨some 12, _, _, _, _, _⟩) rfl (fun K hK => ?_) AllReadyH.nil)))
    · obtain ⟨⟨f0, f1, f2, f3, f4, f5, f6⟩, fbl⟩ := seven HX_y0.out
      go_simp
      refine hK.out _ _ trivial (fun hHeld => ?_)
      clear hK K f0 f1 f2 f3 f4 f5 f6 fbl
      try simp only [Act.put, List.setIfInBounds_toArray, List.set_cons_zero, List.set_cons_succ]
      refine wpAnyH_ready (rs := [2, 4, 7]) (by kernel_rfl) (by simp) (AllReadyH.cons (o := ⟨some 7, _, _, _, _, _⟩) rfl (fun K hK => ?_) (AllReadyH.cons (o := ⟨some 9, _, _, _, _, _⟩) rfl (fun K hK => ?_) (AllReadyH.cons (o := ⟨some 12, _, _, _, _, _⟩) rfl (fun K hK => ?_) AllReadyH.nil)))
      · go_simp
        refine (cl_is HR_y0.out.ma bn).mono ?_
        rintro e y1 ⟨A1, c1, rfl, ho, hb⟩
        have HX_y1 := Lib.hid ((hb.block _ (lt_of_block HX_y0.out)).trans HX_y0.out)
        have HZ_y1 := Lib.hid ((hb.block _ (lt_of_block HZ_y0.out)).trans HZ_y0.out)
        have HR_y1 := Lib.hid (HR_y0.out.below hb (Nat.le_refl _))
        have HW_y1 := Lib.hid (HW_y0.out.trans (hb.mono HW_y0.out.size))
        have HO1_y1 := Lib.hid (ho.lower' HW_y0.out.size)
        clear ho hb
        refine hK.out _ _ trivial (fun hHeld => ?_)
        clear hK K
        try simp only [Act.put, List.setIfInBounds_toArray, List.set_cons_zero, List.set_cons_succ]
        refine wpAnyH_ready (rs := [4, 7]) (by kernel_rfl) (by simp) (AllReadyH.cons (o := ⟨some 9, _, _, _, _, _⟩) rfl (fun K hK => ?_) (AllReadyH.cons (o := ⟨some 12, _, _, _, _, _⟩) rfl (fun K hK => ?_) AllReadyH.nil))
        · obtain ⟨⟨f0, f1, f2, f3, f4, f5, f6⟩, fbl⟩ := seven HX_y1.out
          go_simp
          refine hK.out _ _ trivial (fun hHeld => ?_)
          clear hK K f0 f1 f2 f3 f4 f5 f6 fbl
          try simp only [Act.put, List.setIfInBounds_toArray, List.set_cons_zero, List.set_cons_succ]
          refine wpAnyH_ready (rs := [5, 7]) (by kernel_rfl) (by simp) (AllReadyH.cons (o := ⟨some 10, _, _, _, _, _⟩) rfl (fun K hK => ?_) (AllReadyH.cons (o := ⟨some 12, _, _, _, _, _⟩) rfl (fun K hK => ?_) AllReadyH.nil))
          · go_simp
            refine (cl_is HR_y1.out.wa bm).mono ?_
            rintro e y2 ⟨B1, d1, rfl, ho, hb⟩
            have HX_y2 := Lib.hid ((hb.block _ (lt_of_block HX_y1.out)).trans HX_y1.out)
            have HZ_y2 := Lib.hid ((hb.block _ (lt_of_block HZ_y1.out)).trans HZ_y1.out)
            have HR_y2 := Lib.hid (HR_y1.out.below hb (Nat.le_refl _))
            have HW_y2 := Lib.hid (HW_y1.out.trans (hb.mono HW_y1.out.size))
            have HO1_y2 := Lib.hid (HO1_y1.out.below hb (Nat.le_refl _))
            have HDJ : Hid (∀ i, A1.map (·.block) = some i → B1.map (·.block) ≠ some i) := fun i h1 h2 => by have := (HO1_y1.out.block i h1).2; have := (ho.block i h2).1; omega
            have HO2_y2 := Lib.hid (ho.lower' HW_y1.out.size)
            clear ho hb
            refine hK.out _ _ trivial (fun hHeld => ?_)
            clear hK K
            try simp only [Act.put, List.setIfInBounds_toArray, List.set_cons_zero, List.set_cons_succ]
            refine wpAnyH_ready (rs := [7]) (by kernel_rfl) (by simp) (AllReadyH.cons (o := ⟨some 12, _, _, _, _, _⟩) rfl (fun K hK => ?_) AllReadyH.nil)
            obtain ⟨⟨f0, f1, f2, f3, f4, f5, f6⟩, fbl⟩ := seven HX_y2.out
            go_simp
            refine hK.out _ _ trivial (fun hHeld => ?_)
            clear hK K f0 f1 f2 f3 f4 f5 f6 fbl
            try simp only [Act.put, List.setIfInBounds_toArray, List.set_cons_zero, List.set_cons_succ]
            refine wpAnyH_take (i := 9) (oi := ⟨some 14, _, _, _, _, _⟩) (v := ?_) rfl (by kernel_rfl) (by kernel_rfl) (by kernel_rfl) (fun _ _ _ h => h) (Or.inl ⟨by rfl, ?_⟩) (by assumption) ?_
            rotate_left
            · intro w hSw
              (try dsimp only at hSw)
              go_simp
              all_goals (with_reducible rfl)
            try simp only [Act.put, List.setIfInBounds_toArray, List.set_cons_zero, List.set_cons_succ]
            refine wpAnyH_ready (rs := [8]) (by kernel_rfl) (by simp) (AllReadyH.cons (o := ⟨some 13, _, _, _, _, _⟩) rfl (fun K hK => ?_) AllReadyH.nil)
            go_simp
            refine (cloneL_is C q k vs _ (HVS.out.1.below HW_y2.out (Nat.le_refl _)) HVS.out.2 bq).mono ?_
            rintro e y3 ⟨C1, k1, rfl, ho, hb⟩
            have HX_y3 := Lib.hid ((hb.block _ (lt_of_block HX_y2.out)).trans HX_y2.out)
            have HZ_y3 := Lib.hid ((hb.block _ (lt_of_block HZ_y2.out)).trans HZ_y2.out)
            have HR_y3 := Lib.hid (HR_y2.out.below hb (Nat.le_refl _))
            have HW_y3 := Lib.hid (HW_y2.out.trans (hb.mono HW_y2.out.size))
            have HO1_y3 := Lib.hid (HO1_y2.out.below hb (Nat.le_refl _))
            have HO2_y3 := Lib.hid (HO2_y2.out.below hb (Nat.le_refl _))
            have HO3_y3 := Lib.hid (ho.lower' HW_y2.out.size)
            clear ho hb
            refine hK.out _ _ trivial (fun hHeld => ?_)
            clear hK K
            try simp only [Act.put, List.setIfInBounds_toArray, List.set_cons_zero, List.set_cons_succ]
            refine wpAnyH_ready (rs := [10]) (by kernel_rfl) (by simp) (AllReadyH.cons (o := ⟨none, _, _, _, _, _⟩) rfl (fun K hK => ?_) AllReadyH.nil)
            obtain ⟨⟨f0, f1, f2, f3, f4, f5, f6⟩, fbl⟩ := seven HX_y3.out
            obtain ⟨t0, t1, t2, t3, t4, t5, t6⟩ := thaw7 HX_y3.out
            go_simp
            obtain ⟨z1, hV⟩ : ∃ z, y3.setCell ⟨b, 4, none⟩ (.slice A1 n c1) = z := ⟨_, rfl⟩
            have HX_z1 := Lib.hid (put4 (u := (.slice A1 n c1)) HX_y3.out)
            rw [hV] at HX_z1
            have HT_z1 : Hid (Go.Coop.But [b] y3 z1) := hV ▸ (Go.Coop.But.refl _ _).setCell (by simp) _
            (try rw [hV])
            refine hK.out _ _ trivial (fun hHeld => ?_)
            clear hK K hV f0 f1 f2 f3 f4 f5 f6 fbl t0 t1 t2 t3 t4 t5 t6
            try simp only [Act.put, List.setIfInBounds_toArray, List.set_cons_zero, List.set_cons_succ]
            refine wpAnyH_take (i := 11) (oi := ⟨some 15, _, _, _, _, _⟩) (v := ?_) rfl (by kernel_rfl) (by kernel_rfl) (by kernel_rfl) (fun _ _ _ h => h) (Or.inl ⟨by rfl, ?_⟩) (by assumption) ?_
            rotate_left
            · intro w hSw
              (try dsimp only at hSw)
              go_simp
              all_goals (with_reducible rfl)
            try simp only [Act.put, List.setIfInBounds_toArray, List.set_cons_zero, List.set_cons_succ]
            refine wpAnyH_ready (rs := [12]) (by kernel_rfl) (by simp) (AllReadyH.cons (o := ⟨none, _, _, _, _, _⟩) rfl (fun K hK => ?_) AllReadyH.nil)
            obtain ⟨⟨f0, f1, f2, f3, f4, f5, f6⟩, fbl⟩ := seven HX_z1.out
            obtain ⟨t0, t1, t2, t3, t4, t5, t6⟩ := thaw7 HX_z1.out
            go_simp
            obtain ⟨z2, hV⟩ : ∃ z, z1.setCell ⟨b, 5, none⟩ (.slice B1 m d1) = z := ⟨_, rfl⟩
            have HX_z2 := Lib.hid (put5 (u := (.slice B1 m d1)) HX_z1.out)
            rw [hV] at HX_z2
            have HT_z2 : Hid (Go.Coop.But [b] z1 z2) := hV ▸ (Go.Coop.But.refl _ _).setCell (by simp) _
            (try rw [hV])
            refine hK.out _ _ trivial (fun hHeld => ?_)
            clear hK K hV f0 f1 f2 f3 f4 f5 f6 fbl t0 t1 t2 t3 t4 t5 t6
            try simp only [Act.put, List.setIfInBounds_toArray, List.set_cons_zero, List.set_cons_succ]
            refine wpAnyH_take (i := 13) (oi := ⟨some 16, _, _, _, _, _⟩) (v := ?_) rfl (by kernel_rfl) (by kernel_rfl) (by kernel_rfl) (fun _ _ _ h => h) (Or.inl ⟨by rfl, ?_⟩) (by assumption) ?_
            rotate_left
            · intro w hSw
              (try dsimp only at hSw)
              go_simp
              all_goals (with_reducible rfl)
            try simp only [Act.put, List.setIfInBounds_toArray, List.set_cons_zero, List.set_cons_succ]
            refine wpAnyH_ready (rs := [14]) (by kernel_rfl) (by simp) (AllReadyH.cons (o := ⟨none, _, _, _, _, _⟩) rfl (fun K hK => ?_) AllReadyH.nil)
            obtain ⟨⟨f0, f1, f2, f3, f4, f5, f6⟩, fbl⟩ := seven HX_z2.out
            obtain ⟨t0, t1, t2, t3, t4, t5, t6⟩ := thaw7 HX_z2.out
            go_simp
            obtain ⟨z3, hV⟩ : ∃ z, z2.setCell ⟨b, 6, none⟩ (.slice C1 q k1) = z := ⟨_, rfl⟩
            have HX_z3 := Lib.hid (put6 (u := (.slice C1 q k1)) HX_z2.out)
            rw [hV] at HX_z3
            have HT_z3 : Hid (Go.Coop.But [b] z2 z3) := hV ▸ (Go.Coop.But.refl _ _).setCell (by simp) _
            (try rw [hV])
            refine hK.out _ _ trivial (fun hHeld => ?_)
            clear hK K hV f0 f1 f2 f3 f4 f5 f6 fbl t0 t1 t2 t3 t4 t5 t6
            try simp only [Act.put, List.setIfInBounds_toArray, List.set_cons_zero, List.set_cons_succ]
            refine wpAnyH_done (by kernel_rfl) ?_ _
            have HT : Hid (Go.Coop.But [b] y3 z3) := (HT_z1.out.trans HT_z2.out).trans HT_z3.out
            have HAC : Hid (AC w2 z3 b b2 s v need ph A1 n c1 ms B1 m d1 ws C1 q k1 vs) := ⟨HX_z3.out, HT.out.cells HZ_y3.out (by simp; exact hne), HO1_y3.out.but HT.out (fun j hj hm => by have h1 := (HO1_y3.out.block j hj).1; have h2 := lt_of_block HX2.out; simp at hm; omega), HO2_y3.out.but HT.out (fun j hj hm => by have h1 := (HO2_y3.out.block j hj).1; have h2 := lt_of_block HX2.out; simp at hm; omega), HO3_y3.out.but HT.out (fun j hj hm => by have h1 := (HO3_y3.out.block j hj).1; have h2 := lt_of_block HX2.out; simp at hm; omega), HDJ.out, (Go.Coop.But.of_below HW_y3.out).trans HT.out⟩
            go_wp2
            go_meet
            case rel => exact ⟨A1, c1, B1, d1, C1, k1, HAC⟩
          · obtain ⟨⟨f0, f1, f2, f3, f4, f5, f6⟩, fbl⟩ := seven HX_y1.out
            go_simp
            refine hK.out _ _ trivial (fun hHeld => ?_)
            clear hK K f0 f1 f2 f3 f4 f5 f6 fbl
            try simp only [Act.put, List.setIfInBounds_toArray, List.set_cons_zero, List.set_cons_succ]
            refine wpAnyH_take (i := 9) (oi := ⟨some 14, _, _, _, _, _⟩) (v := ?_) rfl (by kernel_rfl) (by kernel_rfl) (by kernel_rfl) (fun _ _ _ h => h) (Or.inl ⟨by rfl, ?_⟩) (by assumption) ?_
            rotate_left
            · intro w hSw
              (try dsimp only at hSw)
              go_simp
              all_goals (with_reducible rfl)
            try simp only [Act.put, List.setIfInBounds_toArray, List.set_cons_zero, List.set_cons_succ]
            refine wpAnyH_ready (rs := [5]) (by kernel_rfl) (by simp) (AllReadyH.cons (o := ⟨some 10, _, _, _, _, _⟩) rfl (fun K hK => ?_) AllReadyH.nil)
            go_simp
            refine (cl_is HR_y1.out.wa bm).mono ?_
            rintro e y2 ⟨B1, d1, rfl, ho, hb⟩
            have HX_y2 := Lib.hid ((hb.block _ (lt_of_block HX_y1.out)).trans HX_y1.out)
            have HZ_y2 := Lib.hid ((hb.block _ (lt_of_block HZ_y1.out)).trans HZ_y1.out)
            have HR_y2 := Lib.hid (HR_y1.out.below hb (Nat.le_refl _))
            have HW_y2 := Lib.hid (HW_y1.out.trans (hb.mono HW_y1.out.size))
            have HO1_y2 := Lib.hid (HO1_y1.out.below hb (Nat.le_refl _))
            have HDJ : Hid (∀ i, A1.map (·.block) = some i → B1.map (·.block) ≠ some i) := fun i h1 h2 => by have := (HO1_y1.out.block i h1).2; have := (ho.block i h2).1; omega
            have HO2_y2 := Lib.hid (ho.lower' HW_y1.out.size)
            clear ho hb
            refine hK.out _ _ trivial (fun hHeld => ?_)
            clear hK K
            try simp only [Act.put, List.setIfInBounds_toArray, List.set_cons_zero, List.set_cons_succ]
            refine wpAnyH_ready (rs := [8]) (by kernel_rfl) (by simp) (AllReadyH.cons (o := ⟨some 13, _, _, _, _, _⟩) rfl (fun K hK => ?_) AllReadyH.nil)
            go_simp
            refine (cloneL_is C q k vs _ (HVS.out.1.below HW_y2.out (Nat.le_refl _)) HVS.out.2 bq).mono ?_
            rintro e y3 ⟨C1, k1, rfl, ho, hb⟩
            have HX_y3 := Lib.hid ((hb.block _ (lt_of_block HX_y2.out)).trans HX_y2.out)
            have HZ_y3 := Lib.hid ((hb.block _ (lt_of_block HZ_y2.out)).trans HZ_y2.out)
            have HR_y3 := Lib.hid (HR_y2.out.below hb (Nat.le_refl _))
            have HW_y3 := Lib.hid (HW_y2.out.trans (hb.mono HW_y2.out.size))
            have HO1_y3 := Lib.hid (HO1_y2.out.below hb (Nat.le_refl _))
            have HO2_y3 := Lib.hid (HO2_y2.out.below hb (Nat.le_refl _))
            have HO3_y3 := Lib.hid (ho.lower' HW_y2.out.size)
            clear ho hb
            refine hK.out _ _ trivial (fun hHeld => ?_)
            clear hK K
            try simp only [Act.put, List.setIfInBounds_toArray, List.set_cons_zero, List.set_cons_succ]
            refine wpAnyH_ready (rs := [10]) (by kernel_rfl) (by simp) (AllReadyH.cons (o := ⟨none, _, _, _, _, _⟩) rfl (fun K hK => ?_) AllReadyH.nil)
            obtain ⟨⟨f0, f1, f2, f3, f4, f5, f6⟩, fbl⟩ := seven HX_y3.out
            obtain ⟨t0, t1, t2, t3, t4, t5, t6⟩ := thaw7 HX_y3.out
            go_simp
            obtain ⟨z1, hV⟩ : ∃ z, y3.setCell ⟨b, 4, none⟩ (.slice A1 n c1) = z := ⟨_, rfl⟩
            have HX_z1 := Lib.hid (put4 (u := (.slice A1 n c1)) HX_y3.out)
            rw [hV] at HX_z1
            have HT_z1 : Hid (Go.Coop.But [b] y3 z1) := hV ▸ (Go.Coop.But.refl _ _).setCell (by simp) _
            (try rw [hV])
            refine hK.out _ _ trivial (fun hHeld => ?_)
            clear hK K hV f0 f1 f2 f3 f4 f5 f6 fbl t0 t1 t2 t3 t4 t5 t6
            try simp only [Act.put, List.setIfInBounds_toArray, List.set_cons_zero, List.set_cons_succ]
            refine wpAnyH_take (i := 11) (oi := ⟨some 15, _, _, _, _, _⟩) (v := ?_) rfl (by kernel_rfl) (by kernel_rfl) (by kernel_rfl) (fun _ _ _ h => h) (Or.inl ⟨by rfl, ?_⟩) (by assumption) ?_
            rotate_left
            · intro w hSw
              (try dsimp only at hSw)
              go_simp
              all_goals (with_reducible rfl)
            try simp only [Act.put, List.setIfInBounds_toArray, List.set_cons_zero, List.set_cons_succ]
            refine wpAnyH_ready (rs := [12]) (by kernel_rfl) (by simp) (AllReadyH.cons (o := ⟨none, _, _, _, _, _⟩) rfl (fun K hK => ?_) AllReadyH.nil)
            obtain ⟨⟨f0, f1, f2, f3, f4, f5, f6⟩, fbl⟩ := seven HX_z1.out
            obtain ⟨t0, t1, t2, t3, t4, t5, t6⟩ := thaw7 HX_z1.out
            go_simp
            obtain ⟨z2, hV⟩ : ∃ z, z1.setCell ⟨b, 5, none⟩ (.slice B1 m d1) = z := ⟨_, rfl⟩
            have HX_z2 := Lib.hid (put5 (u := (.slice B1 m d1)) HX_z1.out)
            rw [hV] at HX_z2
            have HT_z2 : Hid (Go.Coop.But [b] z1 z2) := hV ▸ (Go.Coop.But.refl _ _).setCell (by simp) _
            (try rw [hV])
            refine hK.out _ _ trivial (fun hHeld => ?_)
            clear hK K hV f0 f1 f2 f3 f4 f5 f6 fbl t0 t1 t2 t3 t4 t5 t6
            try simp only [Act.put, List.setIfInBounds_toArray, List.set_cons_zero, List.set_cons_succ]
            refine wpAnyH_take (i := 13) (oi := ⟨some 16, _, _, _, _, _⟩) (v := ?_) rfl (by kernel_rfl) (by kernel_rfl) (by kernel_rfl) (fun _ _ _ h => h) (Or.inl ⟨by rfl, ?_⟩) (by assumption) ?_
            rotate_left
            · intro w hSw
              (try dsimp only at hSw)
              go_simp
              all_goals (with_reducible rfl)
            try simp only [Act.put, List.setIfInBounds_toArray, List.set_cons_zero, List.set_cons_succ]
            refine wpAnyH_ready (rs := [14]) (by kernel_rfl) (by simp) (AllReadyH.cons (o := ⟨none, _, _, _, _, _⟩) rfl (fun K hK => ?_) AllReadyH.nil)
            obtain ⟨⟨f0, f1, f2, f3, f4, f5, f6⟩, fbl⟩ := seven HX_z2.out
            obtain ⟨t0, t1, t2, t3, t4, t5, t6⟩ := thaw7 HX_z2.out
            go_simp
            obtain ⟨z3, hV⟩ : ∃ z, z2.setCell ⟨b, 6, none⟩ (.slice C1 q k1) = z := ⟨_, rfl⟩
            have HX_z3 := Lib.hid (put6 (u := (.slice C1 q k1)) HX_z2.out)
            rw [hV] at HX_z3
            have HT_z3 : Hid (Go.Coop.But [b] z2 z3) := hV ▸ (Go.Coop.But.refl _ _).setCell (by simp) _
            (try rw [hV])
            refine hK.out _ _ trivial (fun hHeld => ?_)
            clear hK K hV f0 f1 f2 f3 f4 f5 f6 fbl t0 t1 t2 t3 t4 t5 t6
            try simp only [Act.put, List.setIfInBounds_toArray, List.set_cons_zero, List.set_cons_succ]
            refine wpAnyH_done (by kernel_rfl) ?_ _
            have HT : Hid (Go.Coop.But [b] y3 z3) := (HT_z1.out.trans HT_z2.out).trans HT_z3.out
            have HAC : Hid (AC w2 z3 b b2 s v need ph A1 n c1 ms B1 m d1 ws C1 q k1 vs) := ⟨HX_z3.out, HT.out.cells HZ_y3.out (by simp; exact hne), HO1_y3.out.but HT.out (fun j hj hm => by have h1 := (HO1_y3.out.block j hj).1; have h2 := lt_of_block HX2.out; simp at hm; omega), HO2_y3.out.but HT.out (fun j hj hm => by have h1 := (HO2_y3.out.block j hj).1; have h2 := lt_of_block HX2.out; simp at hm; omega), HO3_y3.out.but HT.out (fun j hj hm => by have h1 := (HO3_y3.out.block j hj).1; have h2 := lt_of_block HX2.out; simp at hm; omega), HDJ.out, (Go.Coop.But.of_below HW_y3.out).trans HT.out⟩
            go_wp2
            go_meet
            case rel => exact ⟨A1, c1, B1, d1, C1, k1, HAC⟩
        · obtain ⟨⟨f0, f1, f2, f3, f4, f5, f6⟩, fbl⟩ := seven HX_y1.out
          go_simp
          refine hK.out _ _ trivial (fun hHeld => ?_)
          clear hK K f0 f1 f2 f3 f4 f5 f6 fbl
          try simp only [Act.put, List.setIfInBounds_toArray, List.set_cons_zero, List.set_cons_succ]
          refine wpAnyH_ready (rs := [4]) (by kernel_rfl) (by simp) (AllReadyH.cons (o := ⟨some 9, _, _, _, _, _⟩) rfl (fun K hK => ?_) AllReadyH.nil)
          obtain ⟨⟨f0, f1, f2, f3, f4, f5, f6⟩, fbl⟩ := seven HX_y1.out
          go_simp
          refine hK.out _ _ trivial (fun hHeld => ?_)
          clear hK K f0 f1 f2 f3 f4 f5 f6 fbl
          try simp only [Act.put, List.setIfInBounds_toArray, List.set_cons_zero, List.set_cons_succ]
          refine wpAnyH_take (i := 9) (oi := ⟨some 14, _, _, _, _, _⟩) (v := ?_) rfl (by kernel_rfl) (by kernel_rfl) (by kernel_rfl) (fun _ _ _ h => h) (Or.inl ⟨by rfl, ?_⟩) (by assumption) ?_
          rotate_left
          · intro w hSw
            (try dsimp only at hSw)
            go_simp
            all_goals (with_reducible rfl)
          try simp only [Act.put, List.setIfInBounds_toArray, List.set_cons_zero, List.set_cons_succ]
          refine wpAnyH_ready (rs := [5]) (by kernel_rfl) (by simp) (AllReadyH.cons (o := ⟨some 10, _, _, _, _, _⟩) rfl (fun K hK => ?_) AllReadyH.nil)
          go_simp
          refine (cl_is HR_y1.out.wa bm).mono ?_
          rintro e y2 ⟨B1, d1, rfl, ho, hb⟩
          have HX_y2 := Lib.hid ((hb.block _ (lt_of_block HX_y1.out)).trans HX_y1.out)
          have HZ_y2 := Lib.hid ((hb.block _ (lt_of_block HZ_y1.out)).trans HZ_y1.out)
          have HR_y2 := Lib.hid (HR_y1.out.below hb (Nat.le_refl _))
          have HW_y2 := Lib.hid (HW_y1.out.trans (hb.mono HW_y1.out.size))
          have HO1_y2 := Lib.hid (HO1_y1.out.below hb (Nat.le_refl _))
          have HDJ : Hid (∀ i, A1.map (·.block) = some i → B1.map (·.block) ≠ some i) := fun i h1 h2 => by have := (HO1_y1.out.block i h1).2; have := (ho.block i h2).1; omega
          have HO2_y2 := Lib.hid (ho.lower' HW_y1.out.size)
          clear ho hb
          refine hK.out _ _ trivial (fun hHeld => ?_)
          clear hK K
          try simp only [Act.put, List.setIfInBounds_toArray, List.set_cons_zero, List.set_cons_succ]
          refine wpAnyH_ready (rs := [8]) (by kernel_rfl) (by simp) (AllReadyH.cons (o := ⟨some 13, _, _, _, _, _⟩) rfl (fun K hK => ?_) AllReadyH.nil)
          go_simp
          refine (cloneL_is C q k vs _ (HVS.out.1.below HW_y2.out (Nat.le_refl _)) HVS.out.2 bq).mono ?_
          rintro e y3 ⟨C1, k1, rfl, ho, hb⟩
          have HX_y3 := Lib.hid ((hb.block _ (lt_of_block HX_y2.out)).trans HX_y2.out)
          have HZ_y3 := Lib.hid ((hb.block _ (lt_of_block HZ_y2.out)).trans HZ_y2.out)
          have HR_y3 := Lib.hid (HR_y2.out.below hb (Nat.le_refl _))
          have HW_y3 := Lib.hid (HW_y2.out.trans (hb.mono HW_y2.out.size))
          have HO1_y3 := Lib.hid (HO1_y2.out.below hb (Nat.le_refl _))
          have HO2_y3 := Lib.hid (HO2_y2.out.below hb (Nat.le_refl _))
          have HO3_y3 := Lib.hid (ho.lower' HW_y2.out.size)
          clear ho hb
          refine hK.out _ _ trivial (fun hHeld => ?_)
          clear hK K
          try simp only [Act.put, List.setIfInBounds_toArray, List.set_cons_zero, List.set_cons_succ]
          refine wpAnyH_ready (rs := [10]) (by kernel_rfl) (by simp) (AllReadyH.cons (o := ⟨none, _, _, _, _, _⟩) rfl (fun K hK => ?_) AllReadyH.nil)
          obtain ⟨⟨f0, f1, f2, f3, f4, f5, f6⟩, fbl⟩ := seven HX_y3.out
          obtain ⟨t0, t1, t2, t3, t4, t5, t6⟩ := thaw7 HX_y3.out
          go_simp
          obtain ⟨z1, hV⟩ : ∃ z, y3.setCell ⟨b, 4, none⟩ (.slice A1 n c1) = z := ⟨_, rfl⟩
          have HX_z1 := Lib.hid (put4 (u := (.slice A1 n c1)) HX_y3.out)
          rw [hV] at HX_z1
          have HT_z1 : Hid (Go.Coop.But [b] y3 z1) := hV ▸ (Go.Coop.But.refl _ _).setCell (by simp) _
          (try rw [hV])
          refine hK.out _ _ trivial (fun hHeld => ?_)
          clear hK K hV f0 f1 f2 f3 f4 f5 f6 fbl t0 t1 t2 t3 t4 t5 t6
          try simp only [Act.put, List.setIfInBounds_toArray, List.set_cons_zero, List.set_cons_succ]
          refine wpAnyH_take (i := 11) (oi := ⟨some 15, _, _, _, _, _⟩) (v := ?_) rfl (by kernel_rfl) (by kernel_rfl) (by kernel_rfl) (fun _ _ _ h => h) (Or.inl ⟨by rfl, ?_⟩) (by assumption) ?_
          rotate_left
          · intro w hSw
            (try dsimp only at hSw)
            go_simp
            all_goals (with_reducible rfl)
          try simp only [Act.put, List.setIfInBounds_toArray, List.set_cons_zero, List.set_cons_succ]
          refine wpAnyH_ready (rs := [12]) (by kernel_rfl) (by simp) (AllReadyH.cons (o := ⟨none, _, _, _, _, _⟩) rfl (fun K hK => ?_) AllReadyH.nil)
          obtain ⟨⟨f0, f1, f2, f3, f4, f5, f6⟩, fbl⟩ := seven HX_z1.out
          obtain ⟨t0, t1, t2, t3, t4, t5, t6⟩ := thaw7 HX_z1.out
          go_simp
          obtain ⟨z2, hV⟩ : ∃ z, z1.setCell ⟨b, 5, none⟩ (.slice B1 m d1) = z := ⟨_, rfl⟩
          have HX_z2 := Lib.hid (put5 (u := (.slice B1 m d1)) HX_z1.out)
          rw [hV] at HX_z2
          have HT_z2 : Hid (Go.Coop.But [b] z1 z2) := hV ▸ (Go.Coop.But.refl _ _).setCell (by simp) _
          (try rw [hV])
          refine hK.out _ _ trivial (fun hHeld => ?_)
          clear hK K hV f0 f1 f2 f3 f4 f5 f6 fbl t0 t1 t2 t3 t4 t5 t6
          try simp only [Act.put, List.setIfInBounds_toArray, List.set_cons_zero, List.set_cons_succ]
          refine wpAnyH_take (i := 13) (oi := ⟨some 16, _, _, _, _, _⟩) (v := ?_) rfl (by kernel_rfl) (by kernel_rfl) (by kernel_rfl) (fun _ _ _ h => h) (Or.inl ⟨by rfl, ?_⟩) (by assumption) ?_
          rotate_left
          · intro w hSw
            (try dsimp only at hSw)
            go_simp
            all_goals (with_reducible rfl)
          try simp only [Act.put, List.setIfInBounds_toArray, List.set_cons_zero, List.set_cons_succ]
          refine wpAnyH_ready (rs := [14]) (by kernel_rfl) (by simp) (AllReadyH.cons (o := ⟨none, _, _, _, _, _⟩) rfl (fun K hK => ?_) AllReadyH.nil)
          obtain ⟨⟨f0, f1, f2, f3, f4, f5, f6⟩, fbl⟩ := seven HX_z2.out
          obtain ⟨t0, t1, t2, t3, t4, t5, t6⟩ := thaw7 HX_z2.out
          go_simp
          obtain ⟨z3, hV⟩ : ∃ z, z2.setCell ⟨b, 6, none⟩ (.slice C1 q k1) = z := ⟨_, rfl⟩
          have HX_z3 := Lib.hid (put6 (u := (.slice C1 q k1)) HX_z2.out)
          rw [hV] at HX_z3
          have HT_z3 : Hid (Go.Coop.But [b] z2 z3) := hV ▸ (Go.Coop.But.refl _ _).setCell (by simp) _
          (try rw [hV])
          refine hK.out _ _ trivial (fun hHeld => ?_)
          clear hK K hV f0 f1 f2 f3 f4 f5 f6 fbl t0 t1 t2 t3 t4 t5 t6
          try simp only [Act.put, List.setIfInBounds_toArray, List.set_cons_zero, List.set_cons_succ]
          refine wpAnyH_done (by kernel_rfl) ?_ _
          have HT : Hid (Go.Coop.But [b] y3 z3) := (HT_z1.out.trans HT_z2.out).trans HT_z3.out
          have HAC : Hid (AC w2 z3 b b2 s v need ph A1 n c1 ms B1 m d1 ws C1 q k1 vs) := ⟨HX_z3.out, HT.out.cells HZ_y3.out (by simp; exact hne), HO1_y3.out.but HT.out (fun j hj hm => by have h1 := (HO1_y3.out.block j hj).1; have h2 := lt_of_block HX2.out; simp at hm; omega), HO2_y3.out.but HT.out (fun j hj hm => by have h1 := (HO2_y3.out.block j hj).1; have h2 := lt_of_block HX2.out; simp at hm; omega), HO3_y3.out.but HT.out (fun j hj hm => by have h1 := (HO3_y3.out.block j hj).1; have h2 := lt_of_block HX2.out; simp at hm; omega), HDJ.out, (Go.Coop.But.of_below HW_y3.out).trans HT.out⟩
          go_wp2
          go_meet
          case rel => exact ⟨A1, c1, B1, d1, C1, k1, HAC⟩
      · obtain ⟨⟨f0, f1, f2, f3, f4, f5, f6⟩, fbl⟩ := seven HX_y0.out
        go_simp
        refine hK.out _ _ trivial (fun hHeld => ?_)
        clear hK K f0 f1 f2 f3 f4 f5 f6 fbl
        try simp only [Act.put, List.setIfInBounds_toArray, List.set_cons_zero, List.set_cons_succ]
        refine wpAnyH_ready (rs := [2, 7]) (by kernel_rfl) (by simp) (AllReadyH.cons (o := ⟨some 7, _, _, _, _, _⟩) rfl (fun K hK => ?_) (AllReadyH.cons (o := ⟨some 12, _, _, _, _, _⟩) rfl (fun K hK => ?_) AllReadyH.nil))
        · go_simp
          refine (cl_is HR_y0.out.ma bn).mono ?_
          rintro e y1 ⟨A1, c1, rfl, ho, hb⟩
          have HX_y1 := Lib.hid ((hb.block _ (lt_of_block HX_y0.out)).trans HX_y0.out)
          have HZ_y1 := Lib.hid ((hb.block _ (lt_of_block HZ_y0.out)).trans HZ_y0.out)
          have HR_y1 := Lib.hid (HR_y0.out.below hb (Nat.le_refl _))
          have HW_y1 := Lib.hid (HW_y0.out.trans (hb.mono HW_y0.out.size))
          have HO1_y1 := Lib.hid (ho.lower' HW_y0.out.size)
          clear ho hb
          refine hK.out _ _ trivial (fun hHeld => ?_)
          clear hK K
          try simp only [Act.put, List.setIfInBounds_toArray, List.set_cons_zero, List.set_cons_succ]
          refine wpAnyH_ready (rs := [5, 7]) (by kernel_rfl) (by simp) (AllReadyH.cons (o := ⟨some 10, _, _, _, _, _⟩) rfl (fun K hK => ?_) (AllReadyH.cons (o := ⟨some 12, _, _, _, _, _⟩) rfl (fun K hK => ?_) AllReadyH.nil))
          · go_simp
            refine (cl_is HR_y1.out.wa bm).mono ?_
            rintro e y2 ⟨B1, d1, rfl, ho, hb⟩
            have HX_y2 := Lib.hid ((hb.block _ (lt_of_block HX_y1.out)).trans HX_y1.out)
            have HZ_y2 := Lib.hid ((hb.block _ (lt_of_block HZ_y1.out)).trans HZ_y1.out)
            have HR_y2 := Lib.hid (HR_y1.out.below hb (Nat.le_refl _))
            have HW_y2 := Lib.hid (HW_y1.out.trans (hb.mono HW_y1.out.size))
            have HO1_y2 := Lib.hid (HO1_y1.out.below hb (Nat.le_refl _))
            have HDJ : Hid (∀ i, A1.map (·.block) = some i → B1.map (·.block) ≠ some i) := fun i h1 h2 => by have := (HO1_y1.out.block i h1).2; have := (ho.block i h2).1; omega
            have HO2_y2 := Lib.hid (ho.lower' HW_y1.out.size)
            clear ho hb
            refine hK.out _ _ trivial (fun hHeld => ?_)
            clear hK K
            try simp only [Act.put, List.setIfInBounds_toArray, List.set_cons_zero, List.set_cons_succ]
            refine wpAnyH_ready (rs := [7]) (by kernel_rfl) (by simp) (AllReadyH.cons (o := ⟨some 12, _, _, _, _, _⟩) rfl (fun K hK => ?_) AllReadyH.nil)
            obtain ⟨⟨f0, f1, f2, f3, f4, f5, f6⟩, fbl⟩ := seven HX_y2.out
            go_simp
            refine hK.out _ _ trivial (fun hHeld => ?_)
            clear hK K f0 f1 f2 f3 f4 f5 f6 fbl
            try simp only [Act.put, List.setIfInBounds_toArray, List.set_cons_zero, List.set_cons_succ]
            refine wpAnyH_take (i := 9) (oi := ⟨some 14, _, _, _, _, _⟩) (v := ?_) rfl (by kernel_rfl) (by kernel_rfl) (by kernel_rfl) (fun _ _ _ h => h) (Or.inl ⟨by rfl, ?_⟩) (by assumption) ?_
            rotate_left
            · intro w hSw
              (try dsimp only at hSw)
              go_simp
              all_goals (with_reducible rfl)
            try simp only [Act.put, List.setIfInBounds_toArray, List.set_cons_zero, List.set_cons_succ]
            refine wpAnyH_ready (rs := [8]) (by kernel_rfl) (by simp) (AllReadyH.cons (o := ⟨some 13, _, _, _, _, _⟩) rfl (fun K hK => ?_) AllReadyH.nil)
            go_simp
            refine (cloneL_is C q k vs _ (HVS.out.1.below HW_y2.out (Nat.le_refl _)) HVS.out.2 bq).mono ?_
            rintro e y3 ⟨C1, k1, rfl, ho, hb⟩
            have HX_y3 := Lib.hid ((hb.block _ (lt_of_block HX_y2.out)).trans HX_y2.out)
            have HZ_y3 := Lib.hid ((hb.block _ (lt_of_block HZ_y2.out)).trans HZ_y2.out)
            have HR_y3 := Lib.hid (HR_y2.out.below hb (Nat.le_refl _))
            have HW_y3 := Lib.hid (HW_y2.out.trans (hb.mono HW_y2.out.size))
            have HO1_y3 := Lib.hid (HO1_y2.out.below hb (Nat.le_refl _))
            have HO2_y3 := Lib.hid (HO2_y2.out.below hb (Nat.le_refl _))
            have HO3_y3 := Lib.hid (ho.lower' HW_y2.out.size)
            clear ho hb
            refine hK.out _ _ trivial (fun hHeld => ?_)
            clear hK K
            try simp only [Act.put, List.setIfInBounds_toArray, List.set_cons_zero, List.set_cons_succ]
            refine wpAnyH_ready (rs := [10]) (by kernel_rfl) (by simp) (AllReadyH.cons (o := ⟨none, _, _, _, _, _⟩) rfl (fun K hK => ?_) AllReadyH.nil)
            obtain ⟨⟨f0, f1, f2, f3, f4, f5, f6⟩, fbl⟩ := seven HX_y3.out
            obtain ⟨t0, t1, t2, t3, t4, t5, t6⟩ := thaw7 HX_y3.out
            go_simp
            obtain ⟨z1, hV⟩ : ∃ z, y3.setCell ⟨b, 4, none⟩ (.slice A1 n c1) = z := ⟨_, rfl⟩
            have HX_z1 := Lib.hid (put4 (u := (.slice A1 n c1)) HX_y3.out)
            rw [hV] at HX_z1
            have HT_z1 : Hid (Go.Coop.But [b] y3 z1) := hV ▸ (Go.Coop.But.refl _ _).setCell (by simp) _
            (try rw [hV])
            refine hK.out _ _ trivial (fun hHeld => ?_)
            clear hK K hV f0 f1 f2 f3 f4 f5 f6 fbl t0 t1 t2 t3 t4 t5 t6
            try simp only [Act.put, List.setIfInBounds_toArray, List.set_cons_zero, List.set_cons_succ]
            refine wpAnyH_take (i := 11) (oi := ⟨some 15, _, _, _, _, _⟩) (v := ?_) rfl (by kernel_rfl) (by kernel_rfl) (by kernel_rfl) (fun _ _ _ h => h) (Or.inl ⟨by rfl, ?_⟩) (by assumption) ?_
            rotate_left
            · intro w hSw
              (try dsimp only at hSw)
              go_simp
              all_goals (with_reducible rfl)
            try simp only [Act.put, List.setIfInBounds_toArray, List.set_cons_zero, List.set_cons_succ]
            refine wpAnyH_ready (rs := [12]) (by kernel_rfl) (by simp) (AllReadyH.cons (o := ⟨none, _, _, _, _, _⟩) rfl (fun K hK => ?_) AllReadyH.nil)
            obtain ⟨⟨f0, f1, f2, f3, f4, f5, f6⟩, fbl⟩ := seven HX_z1.out
            obtain ⟨t0, t1, t2, t3, t4, t5, t6⟩ := thaw7 HX_z1.out
            go_simp
            obtain ⟨z2, hV⟩ : ∃ z, z1.setCell ⟨b, 5, none⟩ (.slice B1 m d1) = z := ⟨_, rfl⟩
            have HX_z2 := Lib.hid (put5 (u := (.slice B1 m d1)) HX_z1.out)
            rw [hV] at HX_z2
            have HT_z2 : Hid (Go.Coop.But [b] z1 z2) := hV ▸ (Go.Coop.But.refl _ _).setCell (by simp) _
            (try rw [hV])
            refine hK.out _ _ trivial (fun hHeld => ?_)
            clear hK K hV f0 f1 f2 f3 f4 f5 f6 fbl t0 t1 t2 t3 t4 t5 t6
            try simp only [Act.put, List.setIfInBounds_toArray, List.set_cons_zero, List.set_cons_succ]
            refine wpAnyH_take (i := 13) (oi := ⟨some 16, _, _, _, _, _⟩) (v := ?_) rfl (by kernel_rfl) (by kernel_rfl) (by kernel_rfl) (fun _ _ _ h => h) (Or.inl ⟨by rfl, ?_⟩) (by assumption) ?_
            rotate_left
            · intro w hSw
              (try dsimp only at hSw)
              go_simp
              all_goals (with_reducible rfl)
            try simp only [Act.put, List.setIfInBounds_toArray, List.set_cons_zero, List.set_cons_succ]
            refine wpAnyH_ready (rs := [14]) (by kernel_rfl) (by simp) (AllReadyH.cons (o := ⟨none, _, _, _, _, _⟩) rfl (fun K hK => ?_) AllReadyH.nil)
            obtain ⟨⟨f0, f1, f2, f3, f4, f5, f6⟩, fbl⟩ := seven HX_z2.out
            obtain ⟨t0, t1, t2, t3, t4, t5, t6⟩ := thaw7 HX_z2.out
            go_simp
            obtain ⟨z3, hV⟩ : ∃ z, z2.setCell ⟨b, 6, none⟩ (.slice C1 q k1) = z := ⟨_, rfl⟩
            have HX_z3 := Lib.hid (put6 (u := (.slice C1 q k1)) HX_z2.out)
            rw [hV] at HX_z3
            have HT_z3 : Hid (Go.Coop.But [b] z2 z3) := hV ▸ (Go.Coop.But.refl _ _).setCell (by simp) _
            (try rw [hV])
            refine hK.out _ _ trivial (fun hHeld => ?_)
            clear hK K hV f0 f1 f2 f3 f4 f5 f6 fbl t0 t1 t2 t3 t4 t5 t6
            try simp only [Act.put, List.setIfInBounds_toArray, List.set_cons_zero, List.set_cons_succ]
            refine wpAnyH_done (by kernel_rfl) ?_ _
            have HT : Hid (Go.Coop.But [b] y3 z3) := (HT_z1.out.trans HT_z2.out).trans HT_z3.out
            have HAC : Hid (AC w2 z3 b b2 s v need ph A1 n c1 ms B1 m d1 ws C1 q k1 vs) := ⟨HX_z3.out, HT.out.cells HZ_y3.out (by simp; exact hne), HO1_y3.out.but HT.out (fun j hj hm => by have h1 := (HO1_y3.out.block j hj).1; have h2 := lt_of_block HX2.out; simp at hm; omega), HO2_y3.out.but HT.out (fun j hj hm => by have h1 := (HO2_y3.out.block j hj).1; have h2 := lt_of_block HX2.out; simp at hm; omega), HO3_y3.out.but HT.out (fun j hj hm => by have h1 := (HO3_y3.out.block j hj).1; have h2 := lt_of_block HX2.out; simp at hm; omega), HDJ.out, (Go.Coop.But.of_below HW_y3.out).trans HT.out⟩
            go_wp2
            go_meet
            case rel => exact ⟨A1, c1, B1, d1, C1, k1, HAC⟩
          · obtain ⟨⟨f0, f1, f2, f3, f4, f5, f6⟩, fbl⟩ := seven HX_y1.out
            go_simp
            refine hK.out _ _ trivial (fun hHeld => ?_)
            clear hK K f0 f1 f2 f3 f4 f5 f6 fbl
            try simp only [Act.put, List.setIfInBounds_toArray, List.set_cons_zero, List.set_cons_succ]
            refine wpAnyH_take (i := 9) (oi := ⟨some 14, _, _, _, _, _⟩) (v := ?_) rfl (by kernel_rfl) (by kernel_rfl) (by kernel_rfl) (fun _ _ _ h => h) (Or.inl ⟨by rfl, ?_⟩) (by assumption) ?_
            rotate_left
            · intro w hSw
              (try dsimp only at hSw)
              go_simp
              all_goals (with_reducible rfl)
            try simp only [Act.put, List.setIfInBounds_toArray, List.set_cons_zero, List.set_cons_succ]
            refine wpAnyH_ready (rs := [5]) (by kernel_rfl) (by simp) (AllReadyH.cons (o := ⟨some 10, _, _, _, _, _⟩) rfl (fun K hK => ?_) AllReadyH.nil)
            go_simp
            refine (cl_is HR_y1.out.wa bm).mono ?_
            rintro e y2 ⟨B1, d1, rfl, ho, hb⟩
            have HX_y2 := Lib.hid ((hb.block _ (lt_of_block HX_y1.out)).trans HX_y1.out)
            have HZ_y2 := Lib.hid ((hb.block _ (lt_of_block HZ_y1.out)).trans HZ_y1.out)
            have HR_y2 := Lib.hid (HR_y1.out.below hb (Nat.le_refl _))
            have HW_y2 := Lib.hid (HW_y1.out.trans (hb.mono HW_y1.out.size))
            have HO1_y2 := Lib.hid (HO1_y1.out.below hb (Nat.le_refl _))
            have HDJ : Hid (∀ i, A1.map (·.block) = some i → B1.map (·.block) ≠ some i) := fun i h1 h2 => by have := (HO1_y1.out.block i h1).2; have := (ho.block i h2).1; omega
            have HO2_y2 := Lib.hid (ho.lower' HW_y1.out.size)
            clear ho hb
            refine hK.out _ _ trivial (fun hHeld => ?_)
            clear hK K
            try simp only [Act.put, List.setIfInBounds_toArray, List.set_cons_zero, List.set_cons_succ]
            refine wpAnyH_ready (rs := [8]) (by kernel_rfl) (by simp) (AllReadyH.cons (o := ⟨some 13, _, _, _, _, _⟩) rfl (fun K hK => ?_) AllReadyH.nil)
            go_simp
            refine (cloneL_is C q k vs _ (HVS.out.1.below HW_y2.out (Nat.le_refl _)) HVS.out.2 bq).mono ?_
            rintro e y3 ⟨C1, k1, rfl, ho, hb⟩
            have HX_y3 := Lib.hid ((hb.block _ (lt_of_block HX_y2.out)).trans HX_y2.out)
            have HZ_y3 := Lib.hid ((hb.block _ (lt_of_block HZ_y2.out)).trans HZ_y2.out)
            have HR_y3 := Lib.hid (HR_y2.out.below hb (Nat.le_refl _))
            have HW_y3 := Lib.hid (HW_y2.out.trans (hb.mono HW_y2.out.size))
            have HO1_y3 := Lib.hid (HO1_y2.out.below hb (Nat.le_refl _))
            have HO2_y3 := Lib.hid (HO2_y2.out.below hb (Nat.le_refl _))
            have HO3_y3 := Lib.hid (ho.lower' HW_y2.out.size)
            clear ho hb
            refine hK.out _ _ trivial (fun hHeld => ?_)
            clear hK K
            try simp only [Act.put, List.setIfInBounds_toArray, List.set_cons_zero, List.set_cons_succ]
            refine wpAnyH_ready (rs := [10]) (by kernel_rfl) (by simp) (AllReadyH.cons (o := ⟨none, _, _, _, _, _⟩) rfl (fun K hK => ?_) AllReadyH.nil)
            obtain ⟨⟨f0, f1, f2, f3, f4, f5, f6⟩, fbl⟩ := seven HX_y3.out
            obtain ⟨t0, t1, t2, t3, t4, t5, t6⟩ := thaw7 HX_y3.out
            go_simp
            obtain ⟨z1, hV⟩ : ∃ z, y3.setCell ⟨b, 4, none⟩ (.slice A1 n c1) = z := ⟨_, rfl⟩
            have HX_z1 := Lib.hid (put4 (u := (.slice A1 n c1)) HX_y3.out)
            rw [hV] at HX_z1
            have HT_z1 : Hid (Go.Coop.But [b] y3 z1) := hV ▸ (Go.Coop.But.refl _ _).setCell (by simp) _
            (try rw [hV])
            refine hK.out _ _ trivial (fun hHeld => ?_)
            clear hK K hV f0 f1 f2 f3 f4 f5 f6 fbl t0 t1 t2 t3 t4 t5 t6
            try simp only [Act.put, List.setIfInBounds_toArray, List.set_cons_zero, List.set_cons_succ]
            refine wpAnyH_take (i := 11) (oi := ⟨some 15, _, _, _, _, _⟩) (v := ?_) rfl (by kernel_rfl) (by kernel_rfl) (by kernel_rfl) (fun _ _ _ h => h) (Or.inl ⟨by rfl, ?_⟩) (by assumption) ?_
            rotate_left
            · intro w hSw
              (try dsimp only at hSw)
              go_simp
              all_goals (with_reducible rfl)
            try simp only [Act.put, List.setIfInBounds_toArray, List.set_cons_zero, List.set_cons_succ]
            refine wpAnyH_ready (rs := [12]) (by kernel_rfl) (by simp) (AllReadyH.cons (o := ⟨none, _, _, _, _, _⟩) rfl (fun K hK => ?_) AllReadyH.nil)
            obtain ⟨⟨f0, f1, f2, f3, f4, f5, f6⟩, fbl⟩ := seven HX_z1.out
            obtain ⟨t0, t1, t2, t3, t4, t5, t6⟩ := thaw7 HX_z1.out
            go_simp
            obtain ⟨z2, hV⟩ : ∃ z, z1.setCell ⟨b, 5, none⟩ (.slice B1 m d1) = z := ⟨_, rfl⟩
            have HX_z2 := Lib.hid (put5 (u := (.slice B1 m d1)) HX_z1.out)
            rw [hV] at HX_z2
            have HT_z2 : Hid (Go.Coop.But [b] z1 z2) := hV ▸ (Go.Coop.But.refl _ _).setCell (by simp) _
            (try rw [hV])
            refine hK.out _ _ trivial (fun hHeld => ?_)
            clear hK K hV f0 f1 f2 f3 f4 f5 f6 fbl t0 t1 t2 t3 t4 t5 t6
            try simp only [Act.put, List.setIfInBounds_toArray, List.set_cons_zero, List.set_cons_succ]
            refine wpAnyH_take (i := 13) (oi := ⟨some 16, _, _, _, _, _⟩) (v := ?_) rfl (by kernel_rfl) (by kernel_rfl) (by kernel_rfl) (fun _ _ _ h => h) (Or.inl ⟨by rfl, ?_⟩) (by assumption) ?_
            rotate_left
            · intro w hSw
              (try dsimp only at hSw)
              go_simp
              all_goals (with_reducible rfl)
            try simp only [Act.put, List.setIfInBounds_toArray, List.set_cons_zero, List.set_cons_succ]
            refine wpAnyH_ready (rs := [14]) (by kernel_rfl) (by simp) (AllReadyH.cons (o := ⟨none, _, _, _, _, _⟩) rfl (fun K hK => ?_) AllReadyH.nil)
            obtain ⟨⟨f0, f1, f2, f3, f4, f5, f6⟩, fbl⟩ := seven HX_z2.out
            obtain ⟨t0, t1, t2, t3, t4, t5, t6⟩ := thaw7 HX_z2.out
            go_simp
            obtain ⟨z3, hV⟩ : ∃ z, z2.setCell ⟨b, 6, none⟩ (.slice C1 q k1) = z := ⟨_, rfl⟩
            have HX_z3 := Lib.hid (put6 (u := (.slice C1 q k1)) HX_z2.out)
            rw [hV] at HX_z3
            have HT_z3 : Hid (Go.Coop.But [b] z2 z3) := hV ▸ (Go.Coop.But.refl _ _).setCell (by simp) _
            (try rw [hV])
            refine hK.out _ _ trivial (fun hHeld => ?_)
            clear hK K hV f0 f1 f2 f3 f4 f5 f6 fbl t0 t1 t2 t3 t4 t5 t6
            try simp only [Act.put, List.setIfInBounds_toArray, List.set_cons_zero, List.set_cons_succ]
            refine wpAnyH_done (by kernel_rfl) ?_ _
            have HT : Hid (Go.Coop.But [b] y3 z3) := (HT_z1.out.trans HT_z2.out).trans HT_z3.out
            have HAC : Hid (AC w2 z3 b b2 s v need ph A1 n c1 ms B1 m d1 ws C1 q k1 vs) := ⟨HX_z3.out, HT.out.cells HZ_y3.out (by simp; exact hne), HO1_y3.out.but HT.out (fun j hj hm => by have h1 := (HO1_y3.out.block j hj).1; have h2 := lt_of_block HX2.out; simp at hm; omega), HO2_y3.out.but HT.out (fun j hj hm => by have h1 := (HO2_y3.out.block j hj).1; have h2 := lt_of_block HX2.out; simp at hm; omega), HO3_y3.out.but HT.out (fun j hj hm => by have h1 := (HO3_y3.out.block j hj).1; have h2 := lt_of_block HX2.out; simp at hm; omega), HDJ.out, (Go.Coop.But.of_below HW_y3.out).trans HT.out⟩
            go_wp2
            go_meet
            case rel => exact ⟨A1, c1, B1, d1, C1, k1, HAC⟩
        · obtain ⟨⟨f0, f1, f2, f3, f4, f5, f6⟩, fbl⟩ := seven HX_y0.out
          go_simp
          refine hK.out _ _ trivial (fun hHeld => ?_)
          clear hK K f0 f1 f2 f3 f4 f5 f6 fbl
          try simp only [Act.put, List.setIfInBounds_toArray, List.set_cons_zero, List.set_cons_succ]
          refine wpAnyH_ready (rs := [2]) (by kernel_rfl) (by simp) (AllReadyH.cons (o := ⟨some 7, _, _, _, _, _⟩) rfl (fun K hK => ?_) AllReadyH.nil)
          go_simp
          refine (cl_is HR_y0.out.ma bn).mono ?_
          rintro e y1 ⟨A1, c1, rfl, ho, hb⟩
          have HX_y1 := Lib.hid ((hb.block _ (lt_of_block HX_y0.out)).trans HX_y0.out)
          have HZ_y1 := Lib.hid ((hb.block _ (lt_of_block HZ_y0.out)).trans HZ_y0.out)
          have HR_y1 := Lib.hid (HR_y0.out.below hb (Nat.le_refl _))
          have HW_y1 := Lib.hid (HW_y0.out.trans (hb.mono HW_y0.out.size))
          have HO1_y1 := Lib.hid (ho.lower' HW_y0.out.size)
          clear ho hb
          refine hK.out _ _ trivial (fun hHeld => ?_)
          clear hK K
          try simp only [Act.put, List.setIfInBounds_toArray, List.set_cons_zero, List.set_cons_succ]
          refine wpAnyH_take (i := 9) (oi := ⟨some 14, _, _, _, _, _⟩) (v := ?_) rfl (by kernel_rfl) (by kernel_rfl) (by kernel_rfl) (fun _ _ _ h => h) (Or.inl ⟨by rfl, ?_⟩) (by assumption) ?_
          rotate_left
          · intro w hSw
            (try dsimp only at hSw)
            go_simp
            all_goals (with_reducible rfl)
          try simp only [Act.put, List.setIfInBounds_toArray, List.set_cons_zero, List.set_cons_succ]
          refine wpAnyH_ready (rs := [5]) (by kernel_rfl) (by simp) (AllReadyH.cons (o := ⟨some 10, _, _, _, _, _⟩) rfl (fun K hK => ?_) AllReadyH.nil)
          go_simp
          refine (cl_is HR_y1.out.wa bm).mono ?_
          rintro e y2 ⟨B1, d1, rfl, ho, hb⟩
          have HX_y2 := Lib.hid ((hb.block _ (lt_of_block HX_y1.out)).trans HX_y1.out)
          have HZ_y2 := Lib.hid ((hb.block _ (lt_of_block HZ_y1.out)).trans HZ_y1.out)
          have HR_y2 := Lib.hid (HR_y1.out.below hb (Nat.le_refl _))
          have HW_y2 := Lib.hid (HW_y1.out.trans (hb.mono HW_y1.out.size))
          have HO1_y2 := Lib.hid (HO1_y1.out.below hb (Nat.le_refl _))
          have HDJ : Hid (∀ i, A1.map (·.block) = some i → B1.map (·.block) ≠ some i) := fun i h1 h2 => by have := (HO1_y1.out.block i h1).2; have := (ho.block i h2).1; omega
          have HO2_y2 := Lib.hid (ho.lower' HW_y1.out.size)
          clear ho hb
          refine hK.out _ _ trivial (fun hHeld => ?_)
          clear hK K
          try simp only [Act.put, List.setIfInBounds_toArray, List.set_cons_zero, List.set_cons_succ]
          refine wpAnyH_ready (rs := [8]) (by kernel_rfl) (by simp) (AllReadyH.cons (o := ⟨some 13, _, _, _, _, _⟩) rfl (fun K hK => ?_) AllReadyH.nil)
          go_simp
          refine (cloneL_is C q k vs _ (HVS.out.1.below HW_y2.out (Nat.le_refl _)) HVS.out.2 bq).mono ?_
          rintro e y3 ⟨C1, k1, rfl, ho, hb⟩
          have HX_y3 := Lib.hid ((hb.block _ (lt_of_block HX_y2.out)).trans HX_y2.out)
          have HZ_y3 := Lib.hid ((hb.block _ (lt_of_block HZ_y2.out)).trans HZ_y2.out)
          have HR_y3 := Lib.hid (HR_y2.out.below hb (Nat.le_refl _))
          have HW_y3 := Lib.hid (HW_y2.out.trans (hb.mono HW_y2.out.size))
          have HO1_y3 := Lib.hid (HO1_y2.out.below hb (Nat.le_refl _))
          have HO2_y3 := Lib.hid (HO2_y2.out.below hb (Nat.le_refl _))
          have HO3_y3 := Lib.hid (ho.lower' HW_y2.out.size)
          clear ho hb
          refine hK.out _ _ trivial (fun hHeld => ?_)
          clear hK K
          try simp only [Act.put, List.setIfInBounds_toArray, List.set_cons_zero, List.set_cons_succ]
          refine wpAnyH_ready (rs := [10]) (by kernel_rfl) (by simp) (AllReadyH.cons (o := ⟨none, _, _, _, _, _⟩) rfl (fun K hK => ?_) AllReadyH.nil)
          obtain ⟨⟨f0, f1, f2, f3, f4, f5, f6⟩, fbl⟩ := seven HX_y3.out
          obtain ⟨t0, t1, t2, t3, t4, t5, t6⟩ := thaw7 HX_y3.out
          go_simp
          obtain ⟨z1, hV⟩ : ∃ z, y3.setCell ⟨b, 4, none⟩ (.slice A1 n c1) = z := ⟨_, rfl⟩
          have HX_z1 := Lib.hid (put4 (u := (.slice A1 n c1)) HX_y3.out)
          rw [hV] at HX_z1
          have HT_z1 : Hid (Go.Coop.But [b] y3 z1) := hV ▸ (Go.Coop.But.refl _ _).setCell (by simp) _
          (try rw [hV])
          refine hK.out _ _ trivial (fun hHeld => ?_)
          clear hK K hV f0 f1 f2 f3 f4 f5 f6 fbl t0 t1 t2 t3 t4 t5 t6
          try simp only [Act.put, List.setIfInBounds_toArray, List.set_cons_zero, List.set_cons_succ]
          refine wpAnyH_take (i := 11) (oi := ⟨some 15, _, _, _, _, _⟩) (v := ?_) rfl (by kernel_rfl) (by kernel_rfl) (by kernel_rfl) (fun _ _ _ h => h) (Or.inl ⟨by rfl, ?_⟩) (by assumption) ?_
          rotate_left
          · intro w hSw
            (try dsimp only at hSw)
            go_simp
            all_goals (with_reducible rfl)
          try simp only [Act.put, List.setIfInBounds_toArray, List.set_cons_zero, List.set_cons_succ]
          refine wpAnyH_ready (rs := [12]) (by kernel_rfl) (by simp) (AllReadyH.cons (o := ⟨none, _, _, _, _, _⟩) rfl (fun K hK => ?_) AllReadyH.nil)
          obtain ⟨⟨f0, f1, f2, f3, f4, f5, f6⟩, fbl⟩ := seven HX_z1.out
          obtain ⟨t0, t1, t2, t3, t4, t5, t6⟩ := thaw7 HX_z1.out
          go_simp
          obtain ⟨z2, hV⟩ : ∃ z, z1.setCell ⟨b, 5, none⟩ (.slice B1 m d1) = z := ⟨_, rfl⟩
          have HX_z2 := Lib.hid (put5 (u := (.slice B1 m d1)) HX_z1.out)
          rw [hV] at HX_z2
          have HT_z2 : Hid (Go.Coop.But [b] z1 z2) := hV ▸ (Go.Coop.But.refl _ _).setCell (by simp) _
          (try rw [hV])
          refine hK.out _ _ trivial (fun hHeld => ?_)
          clear hK K hV f0 f1 f2 f3 f4 f5 f6 fbl t0 t1 t2 t3 t4 t5 t6
          try simp only [Act.put, List.setIfInBounds_toArray, List.set_cons_zero, List.set_cons_succ]
          refine wpAnyH_take (i := 13) (oi := ⟨some 16, _, _, _, _, _⟩) (v := ?_) rfl (by kernel_rfl) (by kernel_rfl) (by kernel_rfl) (fun _ _ _ h => h) (Or.inl ⟨by rfl, ?_⟩) (by assumption) ?_
          rotate_left
          · intro w hSw
            (try dsimp only at hSw)
            go_simp
            all_goals (with_reducible rfl)
          try simp only [Act.put, List.setIfInBounds_toArray, List.set_cons_zero, List.set_cons_succ]
          refine wpAnyH_ready (rs := [14]) (by kernel_rfl) (by simp) (AllReadyH.cons (o := ⟨none, _, _, _, _, _⟩) rfl (fun K hK => ?_) AllReadyH.nil)
          obtain ⟨⟨f0, f1, f2, f3, f4, f5, f6⟩, fbl⟩ := seven HX_z2.out
          obtain ⟨t0, t1, t2, t3, t4, t5, t6⟩ := thaw7 HX_z2.out
          go_simp
          obtain ⟨z3, hV⟩ : ∃ z, z2.setCell ⟨b, 6, none⟩ (.slice C1 q k1) = z := ⟨_, rfl⟩
          have HX_z3 := Lib.hid (put6 (u := (.slice C1 q k1)) HX_z2.out)
          rw [hV] at HX_z3
          have HT_z3 : Hid (Go.Coop.But [b] z2 z3) := hV ▸ (Go.Coop.But.refl _ _).setCell (by simp) _
          (try rw [hV])
          refine hK.out _ _ trivial (fun hHeld => ?_)
          clear hK K hV f0 f1 f2 f3 f4 f5 f6 fbl t0 t1 t2 t3 t4 t5 t6
          try simp only [Act.put, List.setIfInBounds_toArray, List.set_cons_zero, List.set_cons_succ]
          refine wpAnyH_done (by kernel_rfl) ?_ _
          have HT : Hid (Go.Coop.But [b] y3 z3) := (HT_z1.out.trans HT_z2.out).trans HT_z3.out
          have HAC : Hid (AC w2 z3 b b2 s v need ph A1 n c1 ms B1 m d1 ws C1 q k1 vs) := ⟨HX_z3.out, HT.out.cells HZ_y3.out (by simp; exact hne), HO1_y3.out.but HT.out (fun j hj hm => by have h1 := (HO1_y3.out.block j hj).1; have h2 := lt_of_block HX2.out; simp at hm; omega), HO2_y3.out.but HT.out (fun j hj hm => by have h1 := (HO2_y3.out.block j hj).1; have h2 := lt_of_block HX2.out; simp at hm; omega), HO3_y3.out.but HT.out (fun j hj hm => by have h1 := (HO3_y3.out.block j hj).1; have h2 := lt_of_block HX2.out; simp at hm; omega), HDJ.out, (Go.Coop.But.of_below HW_y3.out).trans HT.out⟩
          go_wp2
          go_meet
          case rel => exact ⟨A1, c1, B1, d1, C1, k1, HAC⟩
      · obtain ⟨⟨f0, f1, f2, f3, f4, f5, f6⟩, fbl⟩ := seven HX_y0.out
        go_simp
        refine hK.out _ _ trivial (fun hHeld => ?_)
        clear hK K f0 f1 f2 f3 f4 f5 f6 fbl
        try simp only [Act.put, List.setIfInBounds_toArray, List.set_cons_zero, List.set_cons_succ]
        refine wpAnyH_ready (rs := [2, 4]) (by kernel_rfl) (by simp) (AllReadyH.cons (o := ⟨some 7, _, _, _, _, _⟩) rfl (fun K hK => ?_) (AllReadyH.cons (o := ⟨some 9, _, _, _, _, _⟩) rfl (fun K hK => ?_) AllReadyH.nil))
        · go_simp
          refine (cl_is HR_y0.out.ma bn).mono ?_
          rintro e y1 ⟨A1, c1, rfl, ho, hb⟩
          have HX_y1 := Lib.hid ((hb.block _ (lt_of_block HX_y0.out)).trans HX_y0.out)
          have HZ_y1 := Lib.hid ((hb.block _ (lt_of_block HZ_y0.out)).trans HZ_y0.out)
          have HR_y1 := Lib.hid (HR_y0.out.below hb (Nat.le_refl _))
          have HW_y1 := Lib.hid (HW_y0.out.trans (hb.mono HW_y0.out.size))
          have HO1_y1 := Lib.hid (ho.lower' HW_y0.out.size)
          clear ho hb
          refine hK.out _ _ trivial (fun hHeld => ?_)
          clear hK K
          try simp only [Act.put, List.setIfInBounds_toArray, List.set_cons_zero, List.set_cons_succ]
          refine wpAnyH_ready (rs := [4]) (by kernel_rfl) (by simp) (AllReadyH.cons (o := ⟨some 9, _, _, _, _, _⟩) rfl (fun K hK => ?_) AllReadyH.nil)
          obtain ⟨⟨f0, f1, f2, f3, f4, f5, f6⟩, fbl⟩ := seven HX_y1.out
          go_simp
          refine hK.out _ _ trivial (fun hHeld => ?_)
          clear hK K f0 f1 f2 f3 f4 f5 f6 fbl
          try simp only [Act.put, List.setIfInBounds_toArray, List.set_cons_zero, List.set_cons_succ]
          refine wpAnyH_take (i := 9) (oi := ⟨some 14, _, _, _, _, _⟩) (v := ?_) rfl (by kernel_rfl) (by kernel_rfl) (by kernel_rfl) (fun _ _ _ h => h) (Or.inl ⟨by rfl, ?_⟩) (by assumption) ?_
          rotate_left
          · intro w hSw
            (try dsimp only at hSw)
            go_simp
            all_goals (with_reducible rfl)
          try simp only [Act.put, List.setIfInBounds_toArray, List.set_cons_zero, List.set_cons_succ]
          refine wpAnyH_ready (rs := [5]) (by kernel_rfl) (by simp) (AllReadyH.cons (o := ⟨some 10, _, _, _, _, _⟩) rfl (fun K hK => ?_) AllReadyH.nil)
          go_simp
          refine (cl_is HR_y1.out.wa bm).mono ?_
          rintro e y2 ⟨B1, d1, rfl, ho, hb⟩
          have HX_y2 := Lib.hid ((hb.block _ (lt_of_block HX_y1.out)).trans HX_y1.out)
          have HZ_y2 := Lib.hid ((hb.block _ (lt_of_block HZ_y1.out)).trans HZ_y1.out)
          have HR_y2 := Lib.hid (HR_y1.out.below hb (Nat.le_refl _))
          have HW_y2 := Lib.hid (HW_y1.out.trans (hb.mono HW_y1.out.size))
          have HO1_y2 := Lib.hid (HO1_y1.out.below hb (Nat.le_refl _))
          have HDJ : Hid (∀ i, A1.map (·.block) = some i → B1.map (·.block) ≠ some i) := fun i h1 h2 => by have := (HO1_y1.out.block i h1).2; have := (ho.block i h2).1; omega
          have HO2_y2 := Lib.hid (ho.lower' HW_y1.out.size)
          clear ho hb
          refine hK.out _ _ trivial (fun hHeld => ?_)
          clear hK K
          try simp only [Act.put, List.setIfInBounds_toArray, List.set_cons_zero, List.set_cons_succ]
          refine wpAnyH_ready (rs := [8]) (by kernel_rfl) (by simp) (AllReadyH.cons (o := ⟨some 13, _, _, _, _, _⟩) rfl (fun K hK => ?_) AllReadyH.nil)
          go_simp
          refine (cloneL_is C q k vs _ (HVS.out.1.below HW_y2.out (Nat.le_refl _)) HVS.out.2 bq).mono ?_
          rintro e y3 ⟨C1, k1, rfl, ho, hb⟩
          have HX_y3 := Lib.hid ((hb.block _ (lt_of_block HX_y2.out)).trans HX_y2.out)
          have HZ_y3 := Lib.hid ((hb.block _ (lt_of_block HZ_y2.out)).trans HZ_y2.out)
          have HR_y3 := Lib.hid (HR_y2.out.below hb (Nat.le_refl _))
          have HW_y3 := Lib.hid (HW_y2.out.trans (hb.mono HW_y2.out.size))
          have HO1_y3 := Lib.hid (HO1_y2.out.below hb (Nat.le_refl _))
          have HO2_y3 := Lib.hid (HO2_y2.out.below hb (Nat.le_refl _))
          have HO3_y3 := Lib.hid (ho.lower' HW_y2.out.size)
          clear ho hb
          refine hK.out _ _ trivial (fun hHeld => ?_)
          clear hK K
          try simp only [Act.put, List.setIfInBounds_toArray, List.set_cons_zero, List.set_cons_succ]
          refine wpAnyH_ready (rs := [10]) (by kernel_rfl) (by simp) (AllReadyH.cons (o := ⟨none, _, _, _, _, _⟩) rfl (fun K hK => ?_) AllReadyH.nil)
          obtain ⟨⟨f0, f1, f2, f3, f4, f5, f6⟩, fbl⟩ := seven HX_y3.out
          obtain ⟨t0, t1, t2, t3, t4, t5, t6⟩ := thaw7 HX_y3.out
          go_simp
          obtain ⟨z1, hV⟩ : ∃ z, y3.setCell ⟨b, 4, none⟩ (.slice A1 n c1) = z := ⟨_, rfl⟩
          have HX_z1 := Lib.hid (put4 (u := (.slice A1 n c1)) HX_y3.out)
          rw [hV] at HX_z1
          have HT_z1 : Hid (Go.Coop.But [b] y3 z1) := hV ▸ (Go.Coop.But.refl _ _).setCell (by simp) _
          (try rw [hV])
          refine hK.out _ _ trivial (fun hHeld => ?_)
          clear hK K hV f0 f1 f2 f3 f4 f5 f6 fbl t0 t1 t2 t3 t4 t5 t6
          try simp only [Act.put, List.setIfInBounds_toArray, List.set_cons_zero, List.set_cons_succ]
          refine wpAnyH_take (i := 11) (oi := ⟨some 15, _, _, _, _, _⟩) (v := ?_) rfl (by kernel_rfl) (by kernel_rfl) (by kernel_rfl) (fun _ _ _ h => h) (Or.inl ⟨by rfl, ?_⟩) (by assumption) ?_
          rotate_left
          · intro w hSw
            (try dsimp only at hSw)
            go_simp
            all_goals (with_reducible rfl)
          try simp only [Act.put, List.setIfInBounds_toArray, List.set_cons_zero, List.set_cons_succ]
          refine wpAnyH_ready (rs := [12]) (by kernel_rfl) (by simp) (AllReadyH.cons (o := ⟨none, _, _, _, _, _⟩) rfl (fun K hK => ?_) AllReadyH.nil)
          obtain ⟨⟨f0, f1, f2, f3, f4, f5, f6⟩, fbl⟩ := seven HX_z1.out
          obtain ⟨t0, t1, t2, t3, t4, t5, t6⟩ := thaw7 HX_z1.out
          go_simp
          obtain ⟨z2, hV⟩ : ∃ z, z1.setCell ⟨b, 5, none⟩ (.slice B1 m d1) = z := ⟨_, rfl⟩
          have HX_z2 := Lib.hid (put5 (u := (.slice B1 m d1)) HX_z1.out)
          rw [hV] at HX_z2
          have HT_z2 : Hid (Go.Coop.But [b] z1 z2) := hV ▸ (Go.Coop.But.refl _ _).setCell (by simp) _
          (try rw [hV])
          refine hK.out _ _ trivial (fun hHeld => ?_)
          clear hK K hV f0 f1 f2 f3 f4 f5 f6 fbl t0 t1 t2 t3 t4 t5 t6
          try simp only [Act.put, List.setIfInBounds_toArray, List.set_cons_zero, List.set_cons_succ]
          refine wpAnyH_take (i := 13) (oi := ⟨some 16, _, _, _, _, _⟩) (v := ?_) rfl (by kernel_rfl) (by kernel_rfl) (by kernel_rfl) (fun _ _ _ h => h) (Or.inl ⟨by rfl, ?_⟩) (by assumption) ?_
          rotate_left
          · intro w hSw
            (try dsimp only at hSw)
            go_simp
            all_goals (with_reducible rfl)
          try simp only [Act.put, List.setIfInBounds_toArray, List.set_cons_zero, List.set_cons_succ]
          refine wpAnyH_ready (rs := [14]) (by kernel_rfl) (by simp) (AllReadyH.cons (o := ⟨none, _, _, _, _, _⟩) rfl (fun K hK => ?_) AllReadyH.nil)
          obtain ⟨⟨f0, f1, f2, f3, f4, f5, f6⟩, fbl⟩ := seven HX_z2.out
          obtain ⟨t0, t1, t2, t3, t4, t5, t6⟩ := thaw7 HX_z2.out
          go_simp
          obtain ⟨z3, hV⟩ : ∃ z, z2.setCell ⟨b, 6, none⟩ (.slice C1 q k1) = z := ⟨_, rfl⟩
          have HX_z3 := Lib.hid (put6 (u := (.slice C1 q k1)) HX_z2.out)
          rw [hV] at HX_z3
          have HT_z3 : Hid (Go.Coop.But [b] z2 z3) := hV ▸ (Go.Coop.But.refl _ _).setCell (by simp) _
          (try rw [hV])
          refine hK.out _ _ trivial (fun hHeld => ?_)
          clear hK K hV f0 f1 f2 f3 f4 f5 f6 fbl t0 t1 t2 t3 t4 t5 t6
          try simp only [Act.put, List.setIfInBounds_toArray, List.set_cons_zero, List.set_cons_succ]
          refine wpAnyH_done (by kernel_rfl) ?_ _
          have HT : Hid (Go.Coop.But [b] y3 z3) := (HT_z1.out.trans HT_z2.out).trans HT_z3.out
          have HAC : Hid (AC w2 z3 b b2 s v need ph A1 n c1 ms B1 m d1 ws C1 q k1 vs) := ⟨HX_z3.out, HT.out.cells HZ_y3.out (by simp; exact hne), HO1_y3.out.but HT.out (fun j hj hm => by have h1 := (HO1_y3.out.block j hj).1; have h2 := lt_of_block HX2.out; simp at hm; omega), HO2_y3.out.but HT.out (fun j hj hm => by have h1 := (HO2_y3.out.block j hj).1; have h2 := lt_of_block HX2.out; simp at hm; omega), HO3_y3.out.but HT.out (fun j hj hm => by have h1 := (HO3_y3.out.block j hj).1; have h2 := lt_of_block HX2.out; simp at hm; omega), HDJ.out, (Go.Coop.But.of_below HW_y3.out).trans HT.out⟩
          go_wp2
          go_meet
          case rel => exact ⟨A1, c1, B1, d1, C1, k1, HAC⟩
        · obtain ⟨⟨f0, f1, f2, f3, f4, f5, f6⟩, fbl⟩ := seven HX_y0.out
          go_simp
          refine hK.out _ _ trivial (fun hHeld => ?_)
          clear hK K f0 f1 f2 f3 f4 f5 f6 fbl
          try simp only [Act.put, List.setIfInBounds_toArray, List.set_cons_zero, List.set_cons_succ]
          refine wpAnyH_ready (rs := [2]) (by kernel_rfl) (by simp) (AllReadyH.cons (o := ⟨some 7, _, _, _, _, _⟩) rfl (fun K hK => ?_) AllReadyH.nil)
          go_simp
          refine (cl_is HR_y0.out.ma bn).mono ?_
          rintro e y1 ⟨A1, c1, rfl, ho, hb⟩
          have HX_y1 := Lib.hid ((hb.block _ (lt_of_block HX_y0.out)).trans HX_y0.out)
          have HZ_y1 := Lib.hid ((hb.block _ (lt_of_block HZ_y0.out)).trans HZ_y0.out)
          have HR_y1 := Lib.hid (HR_y0.out.below hb (Nat.le_refl _))
          have HW_y1 := Lib.hid (HW_y0.out.trans (hb.mono HW_y0.out.size))
          have HO1_y1 := Lib.hid (ho.lower' HW_y0.out.size)
          clear ho hb
          refine hK.out _ _ trivial (fun hHeld => ?_)
          clear hK K
          try simp only [Act.put, List.setIfInBounds_toArray, List.set_cons_zero, List.set_cons_succ]
          refine wpAnyH_take (i := 9) (oi := ⟨some 14, _, _, _, _, _⟩) (v := ?_) rfl (by kernel_rfl) (by kernel_rfl) (by kernel_rfl) (fun _ _ _ h => h) (Or.inl ⟨by rfl, ?_⟩) (by assumption) ?_
          rotate_left
          · intro w hSw
            (try dsimp only at hSw)
            go_simp
            all_goals (with_reducible rfl)
          try simp only [Act.put, List.setIfInBounds_toArray, List.set_cons_zero, List.set_cons_succ]
          refine wpAnyH_ready (rs := [5]) (by kernel_rfl) (by simp) (AllReadyH.cons (o := ⟨some 10, _, _, _, _, _⟩) rfl (fun K hK => ?_) AllReadyH.nil)
          go_simp
          refine (cl_is HR_y1.out.wa bm).mono ?_
          rintro e y2 ⟨B1, d1, rfl, ho, hb⟩
          have HX_y2 := Lib.hid ((hb.block _ (lt_of_block HX_y1.out)).trans HX_y1.out)
          have HZ_y2 := Lib.hid ((hb.block _ (lt_of_block HZ_y1.out)).trans HZ_y1.out)
          have HR_y2 := Lib.hid (HR_y1.out.below hb (Nat.le_refl _))
          have HW_y2 := Lib.hid (HW_y1.out.trans (hb.mono HW_y1.out.size))
          have HO1_y2 := Lib.hid (HO1_y1.out.below hb (Nat.le_refl _))
          have HDJ : Hid (∀ i, A1.map (·.block) = some i → B1.map (·.block) ≠ some i) := fun i h1 h2 => by have := (HO1_y1.out.block i h1).2; have := (ho.block i h2).1; omega
          have HO2_y2 := Lib.hid (ho.lower' HW_y1.out.size)
          clear ho hb
          refine hK.out _ _ trivial (fun hHeld => ?_)
          clear hK K
          try simp only [Act.put, List.setIfInBounds_toArray, List.set_cons_zero, List.set_cons_succ]
          refine wpAnyH_ready (rs := [8]) (by kernel_rfl) (by simp) (AllReadyH.cons (o := ⟨some 13, _, _, _, _, _⟩) rfl (fun K hK => ?_) AllReadyH.nil)
          go_simp
          refine (cloneL_is C q k vs _ (HVS.out.1.below HW_y2.out (Nat.le_refl _)) HVS.out.2 bq).mono ?_
          rintro e y3 ⟨C1, k1, rfl, ho, hb⟩
          have HX_y3 := Lib.hid ((hb.block _ (lt_of_block HX_y2.out)).trans HX_y2.out)
          have HZ_y3 := Lib.hid ((hb.block _ (lt_of_block HZ_y2.out)).trans HZ_y2.out)
          have HR_y3 := Lib.hid (HR_y2.out.below hb (Nat.le_refl _))
          have HW_y3 := Lib.hid (HW_y2.out.trans (hb.mono HW_y2.out.size))
          have HO1_y3 := Lib.hid (HO1_y2.out.below hb (Nat.le_refl _))
          have HO2_y3 := Lib.hid (HO2_y2.out.below hb (Nat.le_refl _))
          have HO3_y3 := Lib.hid (ho.lower' HW_y2.out.size)
          clear ho hb
          refine hK.out _ _ trivial (fun hHeld => ?_)
          clear hK K
          try simp only [Act.put, List.setIfInBounds_toArray, List.set_cons_zero, List.set_cons_succ]
          refine wpAnyH_ready (rs := [10]) (by kernel_rfl) (by simp) (AllReadyH.cons (o := ⟨none, _, _, _, _, _⟩) rfl (fun K hK => ?_) AllReadyH.nil)
          obtain ⟨⟨f0, f1, f2, f3, f4, f5, f6⟩, fbl⟩ := seven HX_y3.out
          obtain ⟨t0, t1, t2, t3, t4, t5, t6⟩ := thaw7 HX_y3.out
          go_simp
          obtain ⟨z1, hV⟩ : ∃ z, y3.setCell ⟨b, 4, none⟩ (.slice A1 n c1) = z := ⟨_, rfl⟩
          have HX_z1 := Lib.hid (put4 (u := (.slice A1 n c1)) HX_y3.out)
          rw [hV] at HX_z1
          have HT_z1 : Hid (Go.Coop.But [b] y3 z1) := hV ▸ (Go.Coop.But.refl _ _).setCell (by simp) _
          (try rw [hV])
          refine hK.out _ _ trivial (fun hHeld => ?_)
          clear hK K hV f0 f1 f2 f3 f4 f5 f6 fbl t0 t1 t2 t3 t4 t5 t6
          try simp only [Act.put, List.setIfInBounds_toArray, List.set_cons_zero, List.set_cons_succ]
          refine wpAnyH_take (i := 11) (oi := ⟨some 15, _, _, _, _, _⟩) (v := ?_) rfl (by kernel_rfl) (by kernel_rfl) (by kernel_rfl) (fun _ _ _ h => h) (Or.inl ⟨by rfl, ?_⟩) (by assumption) ?_
          rotate_left
          · intro w hSw
            (try dsimp only at hSw)
            go_simp
            all_goals (with_reducible rfl)
          try simp only [Act.put, List.setIfInBounds_toArray, List.set_cons_zero, List.set_cons_succ]
          refine wpAnyH_ready (rs := [12]) (by kernel_rfl) (by simp) (AllReadyH.cons (o := ⟨none, _, _, _, _, _⟩) rfl (fun K hK => ?_) AllReadyH.nil)
          obtain ⟨⟨f0, f1, f2, f3, f4, f5, f6⟩, fbl⟩ := seven HX_z1.out
          obtain ⟨t0, t1, t2, t3, t4, t5, t6⟩ := thaw7 HX_z1.out
          go_simp
          obtain ⟨z2, hV⟩ : ∃ z, z1.setCell ⟨b, 5, none⟩ (.slice B1 m d1) = z := ⟨_, rfl⟩
          have HX_z2 := Lib.hid (put5 (u := (.slice B1 m d1)) HX_z1.out)
          rw [hV] at HX_z2
          have HT_z2 : Hid (Go.Coop.But [b] z1 z2) := hV ▸ (Go.Coop.But.refl _ _).setCell (by simp) _
          (try rw [hV])
          refine hK.out _ _ trivial (fun hHeld => ?_)
          clear hK K hV f0 f1 f2 f3 f4 f5 f6 fbl t0 t1 t2 t3 t4 t5 t6
          try simp only [Act.put, List.setIfInBounds_toArray, List.set_cons_zero, List.set_cons_succ]
          refine wpAnyH_take (i := 13) (oi := ⟨some 16, _, _, _, _, _⟩) (v := ?_) rfl (by kernel_rfl) (by kernel_rfl) (by kernel_rfl) (fun _ _ _ h => h) (Or.inl ⟨by rfl, ?_⟩) (by assumption) ?_
          rotate_left
          · intro w hSw
            (try dsimp only at hSw)
            go_simp
            all_goals (with_reducible rfl)
          try simp only [Act.put, List.setIfInBounds_toArray, List.set_cons_zero, List.set_cons_succ]
          refine wpAnyH_ready (rs := [14]) (by kernel_rfl) (by simp) (AllReadyH.cons (o := ⟨none, _, _, _, _, _⟩) rfl (fun K hK => ?_) AllReadyH.nil)
          obtain ⟨⟨f0, f1, f2, f3, f4, f5, f6⟩, fbl⟩ := seven HX_z2.out
          obtain ⟨t0, t1, t2, t3, t4, t5, t6⟩ := thaw7 HX_z2.out
          go_simp
          obtain ⟨z3, hV⟩ : ∃ z, z2.setCell ⟨b, 6, none⟩ (.slice C1 q k1) = z := ⟨_, rfl⟩
          have HX_z3 := Lib.hid (put6 (u := (.slice C1 q k1)) HX_z2.out)
          rw [hV] at HX_z3
          have HT_z3 : Hid (Go.Coop.But [b] z2 z3) := hV ▸ (Go.Coop.But.refl _ _).setCell (by simp) _
          (try rw [hV])
          refine hK.out _ _ trivial (fun hHeld => ?_)
          clear hK K hV f0 f1 f2 f3 f4 f5 f6 fbl t0 t1 t2 t3 t4 t5 t6
          try simp only [Act.put, List.setIfInBounds_toArray, List.set_cons_zero, List.set_cons_succ]
          refine wpAnyH_done (by kernel_rfl) ?_ _
          have HT : Hid (Go.Coop.But [b] y3 z3) := (HT_z1.out.trans HT_z2.out).trans HT_z3.out
          have HAC : Hid (AC w2 z3 b b2 s v need ph A1 n c1 ms B1 m d1 ws C1 q k1 vs) := ⟨HX_z3.out, HT.out.cells HZ_y3.out (by simp; exact hne), HO1_y3.out.but HT.out (fun j hj hm => by have h1 := (HO1_y3.out.block j hj).1; have h2 := lt_of_block HX2.out; simp at hm; omega), HO2_y3.out.but HT.out (fun j hj hm => by have h1 := (HO2_y3.out.block j hj).1; have h2 := lt_of_block HX2.out; simp at hm; omega), HO3_y3.out.but HT.out (fun j hj hm => by have h1 := (HO3_y3.out.block j hj).1; have h2 := lt_of_block HX2.out; simp at hm; omega), HDJ.out, (Go.Coop.But.of_below HW_y3.out).trans HT.out⟩
          go_wp2
          go_meet
          case rel => exact ⟨A1, c1, B1, d1, C1, k1, HAC⟩
    · obtain ⟨⟨f0, f1, f2, f3, f4, f5, f6⟩, fbl⟩ := seven HX_y0.out
      go_simp
      refine hK.out _ _ trivial (fun hHeld => ?_)
      clear hK K f0 f1 f2 f3 f4 f5 f6 fbl
      try simp only [Act.put, List.setIfInBounds_toArray, List.set_cons_zero, List.set_cons_succ]
      refine wpAnyH_ready (rs := [1, 7]) (by kernel_rfl) (by simp) (AllReadyH.cons (o := ⟨some 6, _, _, _, _, _⟩) rfl (fun K hK => ?_) (AllReadyH.cons (o := ⟨some 12, _, _, _, _, _⟩) rfl (fun K hK => ?_) AllReadyH.nil))
      · obtain ⟨⟨f0, f1, f2, f3, f4, f5, f6⟩, fbl⟩ := seven HX_y0.out
        go_simp
        refine hK.out _ _ trivial (fun hHeld => ?_)
        clear hK K f0 f1 f2 f3 f4 f5 f6 fbl
        try simp only [Act.put, List.setIfInBounds_toArray, List.set_cons_zero, List.set_cons_succ]
        refine wpAnyH_ready (rs := [2, 7]) (by kernel_rfl) (by simp) (AllReadyH.cons (o := ⟨some 7, _, _, _, _, _⟩) rfl (fun K hK => ?_) (AllReadyH.cons (o := ⟨some 12, _, _, _, _, _⟩) rfl (fun K hK => ?_) AllReadyH.nil))
        · go_simp
          refine (cl_is HR_y0.out.ma bn).mono ?_
          rintro e y1 ⟨A1, c1, rfl, ho, hb⟩
          have HX_y1 := Lib.hid ((hb.block _ (lt_of_block HX_y0.out)).trans HX_y0.out)
          have HZ_y1 := Lib.hid ((hb.block _ (lt_of_block HZ_y0.out)).trans HZ_y0.out)
          have HR_y1 := Lib.hid (HR_y0.out.below hb (Nat.le_refl _))
          have HW_y1 := Lib.hid (HW_y0.out.trans (hb.mono HW_y0.out.size))
          have HO1_y1 := Lib.hid (ho.lower' HW_y0.out.size)
          clear ho hb
          refine hK.out _ _ trivial (fun hHeld => ?_)
          clear hK K
          try simp only [Act.put, List.setIfInBounds_toArray, List.set_cons_zero, List.set_cons_succ]
          refine wpAnyH_ready (rs := [5, 7]) (by kernel_rfl) (by simp) (AllReadyH.cons (o := ⟨some 10, _, _, _, _, _⟩) rfl (fun K hK => ?_) (AllReadyH.cons (o := ⟨some 12, _, _, _, _, _⟩) rfl (fun K hK => ?_) AllReadyH.nil))
          · go_simp
            refine (cl_is HR_y1.out.wa bm).mono ?_
            rintro e y2 ⟨B1, d1, rfl, ho, hb⟩
            have HX_y2 := Lib.hid ((hb.block _ (lt_of_block HX_y1.out)).trans HX_y1.out)
            have HZ_y2 := Lib.hid ((hb.block _ (lt_of_block HZ_y1.out)).trans HZ_y1.out)
            have HR_y2 := Lib.hid (HR_y1.out.below hb (Nat.le_refl _))
            have HW_y2 := Lib.hid (HW_y1.out.trans (hb.mono HW_y1.out.size))
            have HO1_y2 := Lib.hid (HO1_y1.out.below hb (Nat.le_refl _))
            have HDJ : Hid (∀ i, A1.map (·.block) = some i → B1.map (·.block) ≠ some i) := fun i h1 h2 => by have := (HO1_y1.out.block i h1).2; have := (ho.block i h2).1; omega
            have HO2_y2 := Lib.hid (ho.lower' HW_y1.out.size)
            clear ho hb
            refine hK.out _ _ trivial (fun hHeld => ?_)
            clear hK K
            try simp only [Act.put, List.setIfInBounds_toArray, List.set_cons_zero, List.set_cons_succ]
            refine wpAnyH_ready (rs := [7]) (by kernel_rfl) (by simp) (AllReadyH.cons (o := ⟨some 12, _, _, _, _, _⟩) rfl (fun K hK => ?_) AllReadyH.nil)
            obtain ⟨⟨f0, f1, f2, f3, f4, f5, f6⟩, fbl⟩ := seven HX_y2.out
            go_simp
            refine hK.out _ _ trivial (fun hHeld => ?_)
            clear hK K f0 f1 f2 f3 f4 f5 f6 fbl
            try simp only [Act.put, List.setIfInBounds_toArray, List.set_cons_zero, List.set_cons_succ]
            refine wpAnyH_take (i := 9) (oi := ⟨some 14, _, _, _, _, _⟩) (v := ?_) rfl (by kernel_rfl) (by kernel_rfl) (by kernel_rfl) (fun _ _ _ h => h) (Or.inl ⟨by rfl, ?_⟩) (by assumption) ?_
            rotate_left
            · intro w hSw
              (try dsimp only at hSw)
              go_simp
              all_goals (with_reducible rfl)
            try simp only [Act.put, List.setIfInBounds_toArray, List.set_cons_zero, List.set_cons_succ]
            refine wpAnyH_ready (rs := [8]) (by kernel_rfl) (by simp) (AllReadyH.cons (o := ⟨some 13, _, _, _, _, _⟩) rfl (fun K hK => ?_) AllReadyH.nil)
            go_simp
            refine (cloneL_is C q k vs _ (HVS.out.1.below HW_y2.out (Nat.le_refl _)) HVS.out.2 bq).mono ?_
            rintro e y3 ⟨C1, k1, rfl, ho, hb⟩
            have HX_y3 := Lib.hid ((hb.block _ (lt_of_block HX_y2.out)).trans HX_y2.out)
            have HZ_y3 := Lib.hid ((hb.block _ (lt_of_block HZ_y2.out)).trans HZ_y2.out)
            have HR_y3 := Lib.hid (HR_y2.out.below hb (Nat.le_refl _))
            have HW_y3 := Lib.hid (HW_y2.out.trans (hb.mono HW_y2.out.size))
            have HO1_y3 := Lib.hid (HO1_y2.out.below hb (Nat.le_refl _))
            have HO2_y3 := Lib.hid (HO2_y2.out.below hb (Nat.le_refl _))
            have HO3_y3 := Lib.hid (ho.lower' HW_y2.out.size)
            clear ho hb
            refine hK.out _ _ trivial (fun hHeld => ?_)
            clear hK K
            try simp only [Act.put, List.setIfInBounds_toArray, List.set_cons_zero, List.set_cons_succ]
            refine wpAnyH_ready (rs := [10]) (by kernel_rfl) (by simp) (AllReadyH.cons (o := ⟨none, _, _, _, _, _⟩) rfl (fun K hK => ?_) AllReadyH.nil)
            obtain ⟨⟨f0, f1, f2, f3, f4, f5, f6⟩, fbl⟩ := seven HX_y3.out
            obtain ⟨t0, t1, t2, t3, t4, t5, t6⟩ := thaw7 HX_y3.out
            go_simp
            obtain ⟨z1, hV⟩ : ∃ z, y3.setCell ⟨b, 4, none⟩ (.slice A1 n c1) = z := ⟨_, rfl⟩
            have HX_z1 := Lib.hid (put4 (u := (.slice A1 n c1)) HX_y3.out)
            rw [hV] at HX_z1
            have HT_z1 : Hid (Go.Coop.But [b] y3 z1) := hV ▸ (Go.Coop.But.refl _ _).setCell (by simp) _
            (try rw [hV])
            refine hK.out _ _ trivial (fun hHeld => ?_)
            clear hK K hV f0 f1 f2 f3 f4 f5 f6 fbl t0 t1 t2 t3 t4 t5 t6
            try simp only [Act.put, List.setIfInBounds_toArray, List.set_cons_zero, List.set_cons_succ]
            refine wpAnyH_take (i := 11) (oi := ⟨some 15, _, _, _, _, _⟩) (v := ?_) rfl (by kernel_rfl) (by kernel_rfl) (by kernel_rfl) (fun _ _ _ h => h) (Or.inl ⟨by rfl, ?_⟩) (by assumption) ?_
            rotate_left
            · intro w hSw
              (try dsimp only at hSw)
              go_simp
              all_goals (with_reducible rfl)
            try simp only [Act.put, List.setIfInBounds_toArray, List.set_cons_zero, List.set_cons_succ]
            refine wpAnyH_ready (rs := [12]) (by kernel_rfl) (by simp) (AllReadyH.cons (o := ⟨none, _, _, _, _, _⟩) rfl (fun K hK => ?_) AllReadyH.nil)
            obtain ⟨⟨f0, f1, f2, f3, f4, f5, f6⟩, fbl⟩ := seven HX_z1.out
            obtain ⟨t0, t1, t2, t3, t4, t5, t6⟩ := thaw7 HX_z1.out
            go_simp
            obtain ⟨z2, hV⟩ : ∃ z, z1.setCell ⟨b, 5, none⟩ (.slice B1 m d1) = z := ⟨_, rfl⟩
            have HX_z2 := Lib.hid (put5 (u := (.slice B1 m d1)) HX_z1.out)
            rw [hV] at HX_z2
            have HT_z2 : Hid (Go.Coop.But [b] z1 z2) := hV ▸ (Go.Coop.But.refl _ _).setCell (by simp) _
            (try rw [hV])
            refine hK.out _ _ trivial (fun hHeld => ?_)
            clear hK K hV f0 f1 f2 f3 f4 f5 f6 fbl t0 t1 t2 t3 t4 t5 t6
            try simp only [Act.put, List.setIfInBounds_toArray, List.set_cons_zero, List.set_cons_succ]
            refine wpAnyH_take (i := 13) (oi := ⟨some 16, _, _, _, _, _⟩) (v := ?_) rfl (by kernel_rfl) (by kernel_rfl) (by kernel_rfl) (fun _ _ _ h => h) (Or.inl ⟨by rfl, ?_⟩) (by assumption) ?_
            rotate_left
            · intro w hSw
              (try dsimp only at hSw)
              go_simp
              all_goals (with_reducible rfl)
            try simp only [Act.put, List.setIfInBounds_toArray, List.set_cons_zero, List.set_cons_succ]
            refine wpAnyH_ready (rs := [14]) (by kernel_rfl) (by simp) (AllReadyH.cons (o := ⟨none, _, _, _, _, _⟩) rfl (fun K hK => ?_) AllReadyH.nil)
            obtain ⟨⟨f0, f1, f2, f3, f4, f5, f6⟩, fbl⟩ := seven HX_z2.out
            obtain ⟨t0, t1, t2, t3, t4, t5, t6⟩ := thaw7 HX_z2.out
            go_simp
            obtain ⟨z3, hV⟩ : ∃ z, z2.setCell ⟨b, 6, none⟩ (.slice C1 q k1) = z := ⟨_, rfl⟩
            have HX_z3 := Lib.hid (put6 (u := (.slice C1 q k1)) HX_z2.out)
            rw [hV] at HX_z3
            have HT_z3 : Hid (Go.Coop.But [b] z2 z3) := hV ▸ (Go.Coop.But.refl _ _).setCell (by simp) _
            (try rw [hV])
            refine hK.out _ _ trivial (fun hHeld => ?_)
            clear hK K hV f0 f1 f2 f3 f4 f5 f6 fbl t0 t1 t2 t3 t4 t5 t6
            try simp only [Act.put, List.setIfInBounds_toArray, List.set_cons_zero, List.set_cons_succ]
            refine wpAnyH_done (by kernel_rfl) ?_ _
            have HT : Hid (Go.Coop.But [b] y3 z3) := (HT_z1.out.trans HT_z2.out).trans HT_z3.out
            have HAC : Hid (AC w2 z3 b b2 s v need ph A1 n c1 ms B1 m d1 ws C1 q k1 vs) := ⟨HX_z3.out, HT.out.cells HZ_y3.out (by simp; exact hne), HO1_y3.out.but HT.out (fun j hj hm => by have h1 := (HO1_y3.out.block j hj).1; have h2 := lt_of_block HX2.out; simp at hm; omega), HO2_y3.out.but HT.out (fun j hj hm => by have h1 := (HO2_y3.out.block j hj).1; have h2 := lt_of_block HX2.out; simp at hm; omega), HO3_y3.out.but HT.out (fun j hj hm => by have h1 := (HO3_y3.out.block j hj).1; have h2 := lt_of_block HX2.out; simp at hm; omega), HDJ.out, (Go.Coop.But.of_below HW_y3.out).trans HT.out⟩
            go_wp2
            go_meet
            case rel => exact ⟨A1, c1, B1, d1, C1, k1, HAC⟩
          · obtain ⟨⟨f0, f1, f2, f3, f4, f5, f6⟩, fbl⟩ := seven HX_y1.out
            go_simp
            refine hK.out _ _ trivial (fun hHeld => ?_)
            clear hK K f0 f1 f2 f3 f4 f5 f6 fbl
            try simp only [Act.put, List.setIfInBounds_toArray, List.set_cons_zero, List.set_cons_succ]
            refine wpAnyH_take (i := 9) (oi := ⟨some 14, _, _, _, _, _⟩) (v := ?_) rfl (by kernel_rfl) (by kernel_rfl) (by kernel_rfl) (fun _ _ _ h => h) (Or.inl ⟨by rfl, ?_⟩) (by assumption) ?_
            rotate_left
            · intro w hSw
              (try dsimp only at hSw)
              go_simp
              all_goals (with_reducible rfl)
            try simp only [Act.put, List.setIfInBounds_toArray, List.set_cons_zero, List.set_cons_succ]
            refine wpAnyH_ready (rs := [5]) (by kernel_rfl) (by simp) (AllReadyH.cons (o := ⟨some 10, _, _, _, _, _⟩) rfl (fun K hK => ?_) AllReadyH.nil)
            go_simp
            refine (cl_is HR_y1.out.wa bm).mono ?_
            rintro e y2 ⟨B1, d1, rfl, ho, hb⟩
            have HX_y2 := Lib.hid ((hb.block _ (lt_of_block HX_y1.out)).trans HX_y1.out)
            have HZ_y2 := Lib.hid ((hb.block _ (lt_of_block HZ_y1.out)).trans HZ_y1.out)
            have HR_y2 := Lib.hid (HR_y1.out.below hb (Nat.le_refl _))
            have HW_y2 := Lib.hid (HW_y1.out.trans (hb.mono HW_y1.out.size))
            have HO1_y2 := Lib.hid (HO1_y1.out.below hb (Nat.le_refl _))
            have HDJ : Hid (∀ i, A1.map (·.block) = some i → B1.map (·.block) ≠ some i) := fun i h1 h2 => by have := (HO1_y1.out.block i h1).2; have := (ho.block i h2).1; omega
            have HO2_y2 := Lib.hid (ho.lower' HW_y1.out.size)
            clear ho hb
            refine hK.out _ _ trivial (fun hHeld => ?_)
            clear hK K
            try simp only [Act.put, List.setIfInBounds_toArray, List.set_cons_zero, List.set_cons_succ]
            refine wpAnyH_ready (rs := [8]) (by kernel_rfl) (by simp) (AllReadyH.cons (o := ⟨some 13, _, _, _, _, _⟩) rfl (fun K hK => ?_) AllReadyH.nil)
            go_simp
            refine (cloneL_is C q k vs _ (HVS.out.1.below HW_y2.out (Nat.le_refl _)) HVS.out.2 bq).mono ?_
            rintro e y3 ⟨C1, k1, rfl, ho, hb⟩
            have HX_y3 := Lib.hid ((hb.block _ (lt_of_block HX_y2.out)).trans HX_y2.out)
            have HZ_y3 := Lib.hid ((hb.block _ (lt_of_block HZ_y2.out)).trans HZ_y2.out)
            have HR_y3 := Lib.hid (HR_y2.out.below hb (Nat.le_refl _))
            have HW_y3 := Lib.hid (HW_y2.out.trans (hb.mono HW_y2.out.size))
            have HO1_y3 := Lib.hid (HO1_y2.out.below hb (Nat.le_refl _))
            have HO2_y3 := Lib.hid (HO2_y2.out.below hb (Nat.le_refl _))
            have HO3_y3 := Lib.hid (ho.lower' HW_y2.out.size)
            clear ho hb
            refine hK.out _ _ trivial (fun hHeld => ?_)
            clear hK K
            try simp only [Act.put, List.setIfInBounds_toArray, List.set_cons_zero, List.set_cons_succ]
            refine wpAnyH_ready (rs := [10]) (by kernel_rfl) (by simp) (AllReadyH.cons (o := ⟨none, _, _, _, _, _⟩) rfl (fun K hK => ?_) AllReadyH.nil)
            obtain ⟨⟨f0, f1, f2, f3, f4, f5, f6⟩, fbl⟩ := seven HX_y3.out
            obtain ⟨t0, t1, t2, t3, t4, t5, t6⟩ := thaw7 HX_y3.out
            go_simp
            obtain ⟨z1, hV⟩ : ∃ z, y3.setCell ⟨b, 4, none⟩ (.slice A1 n c1) = z := ⟨_, rfl⟩
            have HX_z1 := Lib.hid (put4 (u := (.slice A1 n c1)) HX_y3.out)
            rw [hV] at HX_z1
            have HT_z1 : Hid (Go.Coop.But [b] y3 z1) := hV ▸ (Go.Coop.But.refl _ _).setCell (by simp) _
            (try rw [hV])
            refine hK.out _ _ trivial (fun hHeld => ?_)
            clear hK K hV f0 f1 f2 f3 f4 f5 f6 fbl t0 t1 t2 t3 t4 t5 t6
            try simp only [Act.put, List.setIfInBounds_toArray, List.set_cons_zero, List.set_cons_succ]
            refine wpAnyH_take (i := 11) (oi := ⟨some 15, _, _, _, _, _⟩) (v := ?_) rfl (by kernel_rfl) (by kernel_rfl) (by kernel_rfl) (fun _ _ _ h => h) (Or.inl ⟨by rfl, ?_⟩) (by assumption) ?_
            rotate_left
            · intro w hSw
              (try dsimp only at hSw)
              go_simp
              all_goals (with_reducible rfl)
            try simp only [Act.put, List.setIfInBounds_toArray, List.set_cons_zero, List.set_cons_succ]
            refine wpAnyH_ready (rs := [12]) (by kernel_rfl) (by simp) (AllReadyH.cons (o := ⟨none, _, _, _, _, _⟩) rfl (fun K hK => ?_) AllReadyH.nil)
            obtain ⟨⟨f0, f1, f2, f3, f4, f5, f6⟩, fbl⟩ := seven HX_z1.out
            obtain ⟨t0, t1, t2, t3, t4, t5, t6⟩ := thaw7 HX_z1.out
            go_simp
            obtain ⟨z2, hV⟩ : ∃ z, z1.setCell ⟨b, 5, none⟩ (.slice B1 m d1) = z := ⟨_, rfl⟩
            have HX_z2 := Lib.hid (put5 (u := (.slice B1 m d1)) HX_z1.out)
            rw [hV] at HX_z2
            have HT_z2 : Hid (Go.Coop.But [b] z1 z2) := hV ▸ (Go.Coop.But.refl _ _).setCell (by simp) _
            (try rw [hV])
            refine hK.out _ _ trivial (fun hHeld => ?_)
            clear hK K hV f0 f1 f2 f3 f4 f5 f6 fbl t0 t1 t2 t3 t4 t5 t6
            try simp only [Act.put, List.setIfInBounds_toArray, List.set_cons_zero, List.set_cons_succ]
            refine wpAnyH_take (i := 13) (oi := ⟨some 16, _, _, _, _, _⟩) (v := ?_) rfl (by kernel_rfl) (by kernel_rfl) (by kernel_rfl) (fun _ _ _ h => h) (Or.inl ⟨by rfl, ?_⟩) (by assumption) ?_
            rotate_left
            · intro w hSw
              (try dsimp only at hSw)
              go_simp
              all_goals (with_reducible rfl)
            try simp only [Act.put, List.setIfInBounds_toArray, List.set_cons_zero, List.set_cons_succ]
            refine wpAnyH_ready (rs := [14]) (by kernel_rfl) (by simp) (AllReadyH.cons (o := ⟨none, _, _, _, _, _⟩) rfl (fun K hK => ?_) AllReadyH.nil)
            obtain ⟨⟨f0, f1, f2, f3, f4, f5, f6⟩, fbl⟩ := seven HX_z2.out
            obtain ⟨t0, t1, t2, t3, t4, t5, t6⟩ := thaw7 HX_z2.out
            go_simp
            obtain ⟨z3, hV⟩ : ∃ z, z2.setCell ⟨b, 6, none⟩ (.slice C1 q k1) = z := ⟨_, rfl⟩
            have HX_z3 := Lib.hid (put6 (u := (.slice C1 q k1)) HX_z2.out)
            rw [hV] at HX_z3
            have HT_z3 : Hid (Go.Coop.But [b] z2 z3) := hV ▸ (Go.Coop.But.refl _ _).setCell (by simp) _
            (try rw [hV])
            refine hK.out _ _ trivial (fun hHeld => ?_)
            clear hK K hV f0 f1 f2 f3 f4 f5 f6 fbl t0 t1 t2 t3 t4 t5 t6
            try simp only [Act.put, List.setIfInBounds_toArray, List.set_cons_zero, List.set_cons_succ]
            refine wpAnyH_done (by kernel_rfl) ?_ _
            have HT : Hid (Go.Coop.But [b] y3 z3) := (HT_z1.out.trans HT_z2.out).trans HT_z3.out
            have HAC : Hid (AC w2 z3 b b2 s v need ph A1 n c1 ms B1 m d1 ws C1 q k1 vs) := ⟨HX_z3.out, HT.out.cells HZ_y3.out (by simp; exact hne), HO1_y3.out.but HT.out (fun j hj hm => by have h1 := (HO1_y3.out.block j hj).1; have h2 := lt_of_block HX2.out; simp at hm; omega), HO2_y3.out.but HT.out (fun j hj hm => by have h1 := (HO2_y3.out.block j hj).1; have h2 := lt_of_block HX2.out; simp at hm; omega), HO3_y3.out.but HT.out (fun j hj hm => by have h1 := (HO3_y3.out.block j hj).1; have h2 := lt_of_block HX2.out; simp at hm; omega), HDJ.out, (Go.Coop.But.of_below HW_y3.out).trans HT.out⟩
            go_wp2
            go_meet
            case rel => exact ⟨A1, c1, B1, d1, C1, k1, HAC⟩
        · obtain ⟨⟨f0, f1, f2, f3, f4, f5, f6⟩, fbl⟩ := seven HX_y0.out
          go_simp
          refine hK.out _ _ trivial (fun hHeld => ?_)
          clear hK K f0 f1 f2 f3 f4 f5 f6 fbl
          try simp only [Act.put, List.setIfInBounds_toArray, List.set_cons_zero, List.set_cons_succ]
          refine wpAnyH_ready (rs := [2]) (by kernel_rfl) (by simp) (AllReadyH.cons (o := ⟨some 7, _, _, _, _, _⟩) rfl (fun K hK => ?_) AllReadyH.nil)
          go_simp
          refine (cl_is HR_y0.out.ma bn).mono ?_
          rintro e y1 ⟨A1, c1, rfl, ho, hb⟩
          have HX_y1 := Lib.hid ((hb.block _ (lt_of_block HX_y0.out)).trans HX_y0.out)
          have HZ_y1 := Lib.hid ((hb.block _ (lt_of_block HZ_y0.out)).trans HZ_y0.out)
          have HR_y1 := Lib.hid (HR_y0.out.below hb (Nat.le_refl _))
          have HW_y1 := Lib.hid (HW_y0.out.trans (hb.mono HW_y0.out.size))
          have HO1_y1 := Lib.hid (ho.lower' HW_y0.out.size)
          clear ho hb
          refine hK.out _ _ trivial (fun hHeld => ?_)
          clear hK K
          try simp only [Act.put, List.setIfInBounds_toArray, List.set_cons_zero, List.set_cons_succ]
          refine wpAnyH_take (i := 9) (oi := ⟨some 14, _, _, _, _, _⟩) (v := ?_) rfl (by kernel_rfl) (by kernel_rfl) (by kernel_rfl) (fun _ _ _ h => h) (Or.inl ⟨by rfl, ?_⟩) (by assumption) ?_
          rotate_left
          · intro w hSw
            (try dsimp only at hSw)
            go_simp
            all_goals (with_reducible rfl)
          try simp only [Act.put, List.setIfInBounds_toArray, List.set_cons_zero, List.set_cons_succ]
          refine wpAnyH_ready (rs := [5]) (by kernel_rfl) (by simp) (AllReadyH.cons (o := ⟨some 10, _, _, _, _, _⟩) rfl (fun K hK => ?_) AllReadyH.nil)
          go_simp
          refine (cl_is HR_y1.out.wa bm).mono ?_
          rintro e y2 ⟨B1, d1, rfl, ho, hb⟩
          have HX_y2 := Lib.hid ((hb.block _ (lt_of_block HX_y1.out)).trans HX_y1.out)
          have HZ_y2 := Lib.hid ((hb.block _ (lt_of_block HZ_y1.out)).trans HZ_y1.out)
          have HR_y2 := Lib.hid (HR_y1.out.below hb (Nat.le_refl _))
          have HW_y2 := Lib.hid (HW_y1.out.trans (hb.mono HW_y1.out.size))
          have HO1_y2 := Lib.hid (HO1_y1.out.below hb (Nat.le_refl _))
          have HDJ : Hid (∀ i, A1.map (·.block) = some i → B1.map (·.block) ≠ some i) := fun i h1 h2 => by have := (HO1_y1.out.block i h1).2; have := (ho.block i h2).1; omega
          have HO2_y2 := Lib.hid (ho.lower' HW_y1.out.size)
          clear ho hb
          refine hK.out _ _ trivial (fun hHeld => ?_)
          clear hK K
          try simp only [Act.put, List.setIfInBounds_toArray, List.set_cons_zero, List.set_cons_succ]
          refine wpAnyH_ready (rs := [8]) (by kernel_rfl) (by simp) (AllReadyH.cons (o := ⟨some 13, _, _, _, _, _⟩) rfl (fun K hK => ?_) AllReadyH.nil)
          go_simp
          refine (cloneL_is C q k vs _ (HVS.out.1.below HW_y2.out (Nat.le_refl _)) HVS.out.2 bq).mono ?_
          rintro e y3 ⟨C1, k1, rfl, ho, hb⟩
          have HX_y3 := Lib.hid ((hb.block _ (lt_of_block HX_y2.out)).trans HX_y2.out)
          have HZ_y3 := Lib.hid ((hb.block _ (lt_of_block HZ_y2.out)).trans HZ_y2.out)
          have HR_y3 := Lib.hid (HR_y2.out.below hb (Nat.le_refl _))
          have HW_y3 := Lib.hid (HW_y2.out.trans (hb.mono HW_y2.out.size))
          have HO1_y3 := Lib.hid (HO1_y2.out.below hb (Nat.le_refl _))
          have HO2_y3 := Lib.hid (HO2_y2.out.below hb (Nat.le_refl _))
          have HO3_y3 := Lib.hid (ho.lower' HW_y2.out.size)
          clear ho hb
          refine hK.out _ _ trivial (fun hHeld => ?_)
          clear hK K
          try simp only [Act.put, List.setIfInBounds_toArray, List.set_cons_zero, List.set_cons_succ]
          refine wpAnyH_ready (rs := [10]) (by kernel_rfl) (by simp) (AllReadyH.cons (o := ⟨none, _, _, _, _, _⟩) rfl (fun K hK => ?_) AllReadyH.nil)
          obtain ⟨⟨f0, f1, f2, f3, f4, f5, f6⟩, fbl⟩ := seven HX_y3.out
          obtain ⟨t0, t1, t2, t3, t4, t5, t6⟩ := thaw7 HX_y3.out
          go_simp
          obtain ⟨z1, hV⟩ : ∃ z, y3.setCell ⟨b, 4, none⟩ (.slice A1 n c1) = z := ⟨_, rfl⟩
          have HX_z1 := Lib.hid (put4 (u := (.slice A1 n c1)) HX_y3.out)
          rw [hV] at HX_z1
          have HT_z1 : Hid (Go.Coop.But [b] y3 z1) := hV ▸ (Go.Coop.But.refl _ _).setCell (by simp) _
          (try rw [hV])
          refine hK.out _ _ trivial (fun hHeld => ?_)
          clear hK K hV f0 f1 f2 f3 f4 f5 f6 fbl t0 t1 t2 t3 t4 t5 t6
          try simp only [Act.put, List.setIfInBounds_toArray, List.set_cons_zero, List.set_cons_succ]
          refine wpAnyH_take (i := 11) (oi := ⟨some 15, _, _, _, _, _⟩) (v := ?_) rfl (by kernel_rfl) (by kernel_rfl) (by kernel_rfl) (fun _ _ _ h => h) (Or.inl ⟨by rfl, ?_⟩) (by assumption) ?_
          rotate_left
          · intro w hSw
            (try dsimp only at hSw)
            go_simp
            all_goals (with_reducible rfl)
          try simp only [Act.put, List.setIfInBounds_toArray, List.set_cons_zero, List.set_cons_succ]
          refine wpAnyH_ready (rs := [12]) (by kernel_rfl) (by simp) (AllReadyH.cons (o := ⟨none, _, _, _, _, _⟩) rfl (fun K hK => ?_) AllReadyH.nil)
          obtain ⟨⟨f0, f1, f2, f3, f4, f5, f6⟩, fbl⟩ := seven HX_z1.out
          obtain ⟨t0, t1, t2, t3, t4, t5, t6⟩ := thaw7 HX_z1.out
          go_simp
          obtain ⟨z2, hV⟩ : ∃ z, z1.setCell ⟨b, 5, none⟩ (.slice B1 m d1) = z := ⟨_, rfl⟩
          have HX_z2 := Lib.hid (put5 (u := (.slice B1 m d1)) HX_z1.out)
          rw [hV] at HX_z2
          have HT_z2 : Hid (Go.Coop.But [b] z1 z2) := hV ▸ (Go.Coop.But.refl _ _).setCell (by simp) _
          (try rw [hV])
          refine hK.out _ _ trivial (fun hHeld => ?_)
          clear hK K hV f0 f1 f2 f3 f4 f5 f6 fbl t0 t1 t2 t3 t4 t5 t6
          try simp only [Act.put, List.setIfInBounds_toArray, List.set_cons_zero, List.set_cons_succ]
          refine wpAnyH_take (i := 13) (oi := ⟨some 16, _, _, _, _, _⟩) (v := ?_) rfl (by kernel_rfl) (by kernel_rfl) (by kernel_rfl) (fun _ _ _ h => h) (Or.inl ⟨by rfl, ?_⟩) (by assumption) ?_
          rotate_left
          · intro w hSw
            (try dsimp only at hSw)
            go_simp
            all_goals (with_reducible rfl)
          try simp only [Act.put, List.setIfInBounds_toArray, List.set_cons_zero, List.set_cons_succ]
          refine wpAnyH_ready (rs := [14]) (by kernel_rfl) (by simp) (AllReadyH.cons (o := ⟨none, _, _, _, _, _⟩) rfl (fun K hK => ?_) AllReadyH.nil)
          obtain ⟨⟨f0, f1, f2, f3, f4, f5, f6⟩, fbl⟩ := seven HX_z2.out
          obtain ⟨t0, t1, t2, t3, t4, t5, t6⟩ := thaw7 HX_z2.out
          go_simp
          obtain ⟨z3, hV⟩ : ∃ z, z2.setCell ⟨b, 6, none⟩ (.slice C1 q k1) = z := ⟨_, rfl⟩
          have HX_z3 := Lib.hid (put6 (u := (.slice C1 q k1)) HX_z2.out)
          rw [hV] at HX_z3
          have HT_z3 : Hid (Go.Coop.But [b] z2 z3) := hV ▸ (Go.Coop.But.refl _ _).setCell (by simp) _
          (try rw [hV])
          refine hK.out _ _ trivial (fun hHeld => ?_)
          clear hK K hV f0 f1 f2 f3 f4 f5 f6 fbl t0 t1 t2 t3 t4 t5 t6
          try simp only [Act.put, List.setIfInBounds_toArray, List.set_cons_zero, List.set_cons_succ]
          refine wpAnyH_done (by kernel_rfl) ?_ _
          have HT : Hid (Go.Coop.But [b] y3 z3) := (HT_z1.out.trans HT_z2.out).trans HT_z3.out
          have HAC : Hid (AC w2 z3 b b2 s v need ph A1 n c1 ms B1 m d1 ws C1 q k1 vs) := ⟨HX_z3.out, HT.out.cells HZ_y3.out (by simp; exact hne), HO1_y3.out.but HT.out (fun j hj hm => by have h1 := (HO1_y3.out.block j hj).1; have h2 := lt_of_block HX2.out; simp at hm; omega), HO2_y3.out.but HT.out (fun j hj hm => by have h1 := (HO2_y3.out.block j hj).1; have h2 := lt_of_block HX2.out; simp at hm; omega), HO3_y3.out.but HT.out (fun j hj hm => by have h1 := (HO3_y3.out.block j hj).1; have h2 := lt_of_block HX2.out; simp at hm; omega), HDJ.out, (Go.Coop.But.of_below HW_y3.out).trans HT.out⟩
          go_wp2
          go_meet
          case rel => exact ⟨A1, c1, B1, d1, C1, k1, HAC⟩
      · obtain ⟨⟨f0, f1, f2, f3, f4, f5, f6⟩, fbl⟩ := seven HX_y0.out
        go_simp
        refine hK.out _ _ trivial (fun hHeld => ?_)
        clear hK K f0 f1 f2 f3 f4 f5 f6 fbl
        try simp only [Act.put, List.setIfInBounds_toArray, List.set_cons_zero, List.set_cons_succ]
        refine wpAnyH_ready (rs := [1]) (by kernel_rfl) (by simp) (AllReadyH.cons (o := ⟨some 6, _, _, _, _, _⟩) rfl (fun K hK => ?_) AllReadyH.nil)
        obtain ⟨⟨f0, f1, f2, f3, f4, f5, f6⟩, fbl⟩ := seven HX_y0.out
        go_simp
        refine hK.out _ _ trivial (fun hHeld => ?_)
        clear hK K f0 f1 f2 f3 f4 f5 f6 fbl
        try simp only [Act.put, List.setIfInBounds_toArray, List.set_cons_zero, List.set_cons_succ]
        refine wpAnyH_ready (rs := [2]) (by kernel_rfl) (by simp) (AllReadyH.cons (o := ⟨some 7, _, _, _, _, _⟩) rfl (fun K hK => ?_) AllReadyH.nil)
        go_simp
        refine (cl_is HR_y0.out.ma bn).mono ?_
        rintro e y1 ⟨A1, c1, rfl, ho, hb⟩
        have HX_y1 := Lib.hid ((hb.block _ (lt_of_block HX_y0.out)).trans HX_y0.out)
        have HZ_y1 := Lib.hid ((hb.block _ (lt_of_block HZ_y0.out)).trans HZ_y0.out)
        have HR_y1 := Lib.hid (HR_y0.out.below hb (Nat.le_refl _))
        have HW_y1 := Lib.hid (HW_y0.out.trans (hb.mono HW_y0.out.size))
        have HO1_y1 := Lib.hid (ho.lower' HW_y0.out.size)
        clear ho hb
        refine hK.out _ _ trivial (fun hHeld => ?_)
        clear hK K
        try simp only [Act.put, List.setIfInBounds_toArray, List.set_cons_zero, List.set_cons_succ]
        refine wpAnyH_take (i := 9) (oi := ⟨some 14, _, _, _, _, _⟩) (v := ?_) rfl (by kernel_rfl) (by kernel_rfl) (by kernel_rfl) (fun _ _ _ h => h) (Or.inl ⟨by rfl, ?_⟩) (by assumption) ?_
        rotate_left
        · intro w hSw
          (try dsimp only at hSw)
          go_simp
          all_goals (with_reducible rfl)
        try simp only [Act.put, List.setIfInBounds_toArray, List.set_cons_zero, List.set_cons_succ]
        refine wpAnyH_ready (rs := [5]) (by kernel_rfl) (by simp) (AllReadyH.cons (o := ⟨some 10, _, _, _, _, _⟩) rfl (fun K hK => ?_) AllReadyH.nil)
        go_simp
        refine (cl_is HR_y1.out.wa bm).mono ?_
        rintro e y2 ⟨B1, d1, rfl, ho, hb⟩
        have HX_y2 := Lib.hid ((hb.block _ (lt_of_block HX_y1.out)).trans HX_y1.out)
        have HZ_y2 := Lib.hid ((hb.block _ (lt_of_block HZ_y1.out)).trans HZ_y1.out)
        have HR_y2 := Lib.hid (HR_y1.out.below hb (Nat.le_refl _))
        have HW_y2 := Lib.hid (HW_y1.out.trans (hb.mono HW_y1.out.size))
        have HO1_y2 := Lib.hid (HO1_y1.out.below hb (Nat.le_refl _))
        have HDJ : Hid (∀ i, A1.map (·.block) = some i → B1.map (·.block) ≠ some i) := fun i h1 h2 => by have := (HO1_y1.out.block i h1).2; have := (ho.block i h2).1; omega
        have HO2_y2 := Lib.hid (ho.lower' HW_y1.out.size)
        clear ho hb
        refine hK.out _ _ trivial (fun hHeld => ?_)
        clear hK K
        try simp only [Act.put, List.setIfInBounds_toArray, List.set_cons_zero, List.set_cons_succ]
        refine wpAnyH_ready (rs := [8]) (by kernel_rfl) (by simp) (AllReadyH.cons (o := ⟨some 13, _, _, _, _, _⟩) rfl (fun K hK => ?_) AllReadyH.nil)
        go_simp
        refine (cloneL_is C q k vs _ (HVS.out.1.below HW_y2.out (Nat.le_refl _)) HVS.out.2 bq).mono ?_
        rintro e y3 ⟨C1, k1, rfl, ho, hb⟩
        have HX_y3 := Lib.hid ((hb.block _ (lt_of_block HX_y2.out)).trans HX_y2.out)
        have HZ_y3 := Lib.hid ((hb.block _ (lt_of_block HZ_y2.out)).trans HZ_y2.out)
        have HR_y3 := Lib.hid (HR_y2.out.below hb (Nat.le_refl _))
        have HW_y3 := Lib.hid (HW_y2.out.trans (hb.mono HW_y2.out.size))
        have HO1_y3 := Lib.hid (HO1_y2.out.below hb (Nat.le_refl _))
        have HO2_y3 := Lib.hid (HO2_y2.out.below hb (Nat.le_refl _))
        have HO3_y3 := Lib.hid (ho.lower' HW_y2.out.size)
        clear ho hb
        refine hK.out _ _ trivial (fun hHeld => ?_)
        clear hK K
        try simp only [Act.put, List.setIfInBounds_toArray, List.set_cons_zero, List.set_cons_succ]
        refine wpAnyH_ready (rs := [10]) (by kernel_rfl) (by simp) (AllReadyH.cons (o := ⟨none, _, _, _, _, _⟩) rfl (fun K hK => ?_) AllReadyH.nil)
        obtain ⟨⟨f0, f1, f2, f3, f4, f5, f6⟩, fbl⟩ := seven HX_y3.out
        obtain ⟨t0, t1, t2, t3, t4, t5, t6⟩ := thaw7 HX_y3.out
        go_simp
        obtain ⟨z1, hV⟩ : ∃ z, y3.setCell ⟨b, 4, none⟩ (.slice A1 n c1) = z := ⟨_, rfl⟩
        have HX_z1 := Lib.hid (put4 (u := (.slice A1 n c1)) HX_y3.out)
        rw [hV] at HX_z1
        have HT_z1 : Hid (Go.Coop.But [b] y3 z1) := hV ▸ (Go.Coop.But.refl _ _).setCell (by simp) _
        (try rw [hV])
        refine hK.out _ _ trivial (fun hHeld => ?_)
        clear hK K hV f0 f1 f2 f3 f4 f5 f6 fbl t0 t1 t2 t3 t4 t5 t6
        try simp only [Act.put, List.setIfInBounds_toArray, List.set_cons_zero, List.set_cons_succ]
        refine wpAnyH_take (i := 11) (oi := ⟨some 15, _, _, _, _, _⟩) (v := ?_) rfl (by kernel_rfl) (by kernel_rfl) (by kernel_rfl) (fun _ _ _ h => h) (Or.inl ⟨by rfl, ?_⟩) (by assumption) ?_
        rotate_left
        · intro w hSw
          (try dsimp only at hSw)
          go_simp
          all_goals (with_reducible rfl)
        try simp only [Act.put, List.setIfInBounds_toArray, List.set_cons_zero, List.set_cons_succ]
        refine wpAnyH_ready (rs := [12]) (by kernel_rfl) (by simp) (AllReadyH.cons (o := ⟨none, _, _, _, _, _⟩) rfl (fun K hK => ?_) AllReadyH.nil)
        obtain ⟨⟨f0, f1, f2, f3, f4, f5, f6⟩, fbl⟩ := seven HX_z1.out
        obtain ⟨t0, t1, t2, t3, t4, t5, t6⟩ := thaw7 HX_z1.out
        go_simp
        obtain ⟨z2, hV⟩ : ∃ z, z1.setCell ⟨b, 5, none⟩ (.slice B1 m d1) = z := ⟨_, rfl⟩
        have HX_z2 := Lib.hid (put5 (u := (.slice B1 m d1)) HX_z1.out)
        rw [hV] at HX_z2
        have HT_z2 : Hid (Go.Coop.But [b] z1 z2) := hV ▸ (Go.Coop.But.refl _ _).setCell (by simp) _
        (try rw [hV])
        refine hK.out _ _ trivial (fun hHeld => ?_)
        clear hK K hV f0 f1 f2 f3 f4 f5 f6 fbl t0 t1 t2 t3 t4 t5 t6
        try simp only [Act.put, List.setIfInBounds_toArray, List.set_cons_zero, List.set_cons_succ]
        refine wpAnyH_take (i := 13) (oi := ⟨some 16, _, _, _, _, _⟩) (v := ?_) rfl (by kernel_rfl) (by kernel_rfl) (by kernel_rfl) (fun _ _ _ h => h) (Or.inl ⟨by rfl, ?_⟩) (by assumption) ?_
        rotate_left
        · intro w hSw
          (try dsimp only at hSw)
          go_simp
          all_goals (with_reducible rfl)
        try simp only [Act.put, List.setIfInBounds_toArray, List.set_cons_zero, List.set_cons_succ]
        refine wpAnyH_ready (rs := [14]) (by kernel_rfl) (by simp) (AllReadyH.cons (o := ⟨none, _, _, _, _, _⟩) rfl (fun K hK => ?_) AllReadyH.nil)
        obtain ⟨⟨f0, f1, f2, f3, f4, f5, f6⟩, fbl⟩ := seven HX_z2.out
        obtain ⟨t0, t1, t2, t3, t4, t5, t6⟩ := thaw7 HX_z2.out
        go_simp
        obtain ⟨z3, hV⟩ : ∃ z, z2.setCell ⟨b, 6, none⟩ (.slice C1 q k1) = z := ⟨_, rfl⟩
        have HX_z3 := Lib.hid (put6 (u := (.slice C1 q k1)) HX_z2.out)
        rw [hV] at HX_z3
        have HT_z3 : Hid (Go.Coop.But [b] z2 z3) := hV ▸ (Go.Coop.But.refl _ _).setCell (by simp) _
        (try rw [hV])
        refine hK.out _ _ trivial (fun hHeld => ?_)
        clear hK K hV f0 f1 f2 f3 f4 f5 f6 fbl t0 t1 t2 t3 t4 t5 t6
        try simp only [Act.put, List.setIfInBounds_toArray, List.set_cons_zero, List.set_cons_succ]
        refine wpAnyH_done (by kernel_rfl) ?_ _
        have HT : Hid (Go.Coop.But [b] y3 z3) := (HT_z1.out.trans HT_z2.out).trans HT_z3.out
        have HAC : Hid (AC w2 z3 b b2 s v need ph A1 n c1 ms B1 m d1 ws C1 q k1 vs) := ⟨HX_z3.out, HT.out.cells HZ_y3.out (by simp; exact hne), HO1_y3.out.but HT.out (fun j hj hm => by have h1 := (HO1_y3.out.block j hj).1; have h2 := lt_of_block HX2.out; simp at hm; omega), HO2_y3.out.but HT.out (fun j hj hm => by have h1 := (HO2_y3.out.block j hj).1; have h2 := lt_of_block HX2.out; simp at hm; omega), HO3_y3.out.but HT.out (fun j hj hm => by have h1 := (HO3_y3.out.block j hj).1; have h2 := lt_of_block HX2.out; simp at hm; omega), HDJ.out, (Go.Coop.But.of_below HW_y3.out).trans HT.out⟩
        go_wp2
        go_meet
        case rel => exact ⟨A1, c1, B1, d1, C1, k1, HAC⟩
    · obtain ⟨⟨f0, f1, f2, f3, f4, f5, f6⟩, fbl⟩ := seven HX_y0.out
      go_simp
      refine hK.out _ _ trivial (fun hHeld => ?_)
      clear hK K f0 f1 f2 f3 f4 f5 f6 fbl
      try simp only [Act.put, List.setIfInBounds_toArray, List.set_cons_zero, List.set_cons_succ]
      refine wpAnyH_ready (rs := [1, 4]) (by kernel_rfl) (by simp) (AllReadyH.cons (o := ⟨some 6, _, _, _, _, _⟩) rfl (fun K hK => ?_) (AllReadyH.cons (o := ⟨some 9, _, _, _, _, _⟩) rfl (fun K hK => ?_) AllReadyH.nil))
      · obtain ⟨⟨f0, f1, f2, f3, f4, f5, f6⟩, fbl⟩ := seven HX_y0.out
        go_simp
        refine hK.out _ _ trivial (fun hHeld => ?_)
        clear hK K f0 f1 f2 f3 f4 f5 f6 fbl
        try simp only [Act.put, List.setIfInBounds_toArray, List.set_cons_zero, List.set_cons_succ]
        refine wpAnyH_ready (rs := [2, 4]) (by kernel_rfl) (by simp) (AllReadyH.cons (o := ⟨some 7, _, _, _, _, _⟩) rfl (fun K hK => ?_) (AllReadyH.cons (o := ⟨some 9, _, _, _, _, _⟩) rfl (fun K hK => ?_) AllReadyH.nil))
        · go_simp
          refine (cl_is HR_y0.out.ma bn).mono ?_
          rintro e y1 ⟨A1, c1, rfl, ho, hb⟩
          have HX_y1 := Lib.hid ((hb.block _ (lt_of_block HX_y0.out)).trans HX_y0.out)
          have HZ_y1 := Lib.hid ((hb.block _ (lt_of_block HZ_y0.out)).trans HZ_y0.out)
          have HR_y1 := Lib.hid (HR_y0.out.below hb (Nat.le_refl _))
          have HW_y1 := Lib.hid (HW_y0.out.trans (hb.mono HW_y0.out.size))
          have HO1_y1 := Lib.hid (ho.lower' HW_y0.out.size)
          clear ho hb
          refine hK.out _ _ trivial (fun hHeld => ?_)
          clear hK K
          try simp only [Act.put, List.setIfInBounds_toArray, List.set_cons_zero, List.set_cons_succ]
          refine wpAnyH_ready (rs := [4]) (by kernel_rfl) (by simp) (AllReadyH.cons (o := ⟨some 9, _, _, _, _, _⟩) rfl (fun K hK => ?_) AllReadyH.nil)
          obtain ⟨⟨f0, f1, f2, f3, f4, f5, f6⟩, fbl⟩ := seven HX_y1.out
          go_simp
          refine hK.out _ _ trivial (fun hHeld => ?_)
          clear hK K f0 f1 f2 f3 f4 f5 f6 fbl
          try simp only [Act.put, List.setIfInBounds_toArray, List.set_cons_zero, List.set_cons_succ]
          refine wpAnyH_take (i := 9) (oi := ⟨some 14, _, _, _, _, _⟩) (v := ?_) rfl (by kernel_rfl) (by kernel_rfl) (by kernel_rfl) (fun _ _ _ h => h) (Or.inl ⟨by rfl, ?_⟩) (by assumption) ?_
          rotate_left
          · intro w hSw
            (try dsimp only at hSw)
            go_simp
            all_goals (with_reducible rfl)
          try simp only [Act.put, List.setIfInBounds_toArray, List.set_cons_zero, List.set_cons_succ]
          refine wpAnyH_ready (rs := [5]) (by kernel_rfl) (by simp) (AllReadyH.cons (o := ⟨some 10, _, _, _, _, _⟩) rfl (fun K hK => ?_) AllReadyH.nil)
          go_simp
          refine (cl_is HR_y1.out.wa bm).mono ?_
          rintro e y2 ⟨B1, d1, rfl, ho, hb⟩
          have HX_y2 := Lib.hid ((hb.block _ (lt_of_block HX_y1.out)).trans HX_y1.out)
          have HZ_y2 := Lib.hid ((hb.block _ (lt_of_block HZ_y1.out)).trans HZ_y1.out)
          have HR_y2 := Lib.hid (HR_y1.out.below hb (Nat.le_refl _))
          have HW_y2 := Lib.hid (HW_y1.out.trans (hb.mono HW_y1.out.size))
          have HO1_y2 := Lib.hid (HO1_y1.out.below hb (Nat.le_refl _))
          have HDJ : Hid (∀ i, A1.map (·.block) = some i → B1.map (·.block) ≠ some i) := fun i h1 h2 => by have := (HO1_y1.out.block i h1).2; have := (ho.block i h2).1; omega
          have HO2_y2 := Lib.hid (ho.lower' HW_y1.out.size)
          clear ho hb
          refine hK.out _ _ trivial (fun hHeld => ?_)
          clear hK K
          try simp only [Act.put, List.setIfInBounds_toArray, List.set_cons_zero, List.set_cons_succ]
          refine wpAnyH_ready (rs := [8]) (by kernel_rfl) (by simp) (AllReadyH.cons (o := ⟨some 13, _, _, _, _, _⟩) rfl (fun K hK => ?_) AllReadyH.nil)
          go_simp
          refine (cloneL_is C q k vs _ (HVS.out.1.below HW_y2.out (Nat.le_refl _)) HVS.out.2 bq).mono ?_
          rintro e y3 ⟨C1, k1, rfl, ho, hb⟩
          have HX_y3 := Lib.hid ((hb.block _ (lt_of_block HX_y2.out)).trans HX_y2.out)
          have HZ_y3 := Lib.hid ((hb.block _ (lt_of_block HZ_y2.out)).trans HZ_y2.out)
          have HR_y3 := Lib.hid (HR_y2.out.below hb (Nat.le_refl _))
          have HW_y3 := Lib.hid (HW_y2.out.trans (hb.mono HW_y2.out.size))
          have HO1_y3 := Lib.hid (HO1_y2.out.below hb (Nat.le_refl _))
          have HO2_y3 := Lib.hid (HO2_y2.out.below hb (Nat.le_refl _))
          have HO3_y3 := Lib.hid (ho.lower' HW_y2.out.size)
          clear ho hb
          refine hK.out _ _ trivial (fun hHeld => ?_)
          clear hK K
          try simp only [Act.put, List.setIfInBounds_toArray, List.set_cons_zero, List.set_cons_succ]
          refine wpAnyH_ready (rs := [10]) (by kernel_rfl) (by simp) (AllReadyH.cons (o := ⟨none, _, _, _, _, _⟩) rfl (fun K hK => ?_) AllReadyH.nil)
          obtain ⟨⟨f0, f1, f2, f3, f4, f5, f6⟩, fbl⟩ := seven HX_y3.out
          obtain ⟨t0, t1, t2, t3, t4, t5, t6⟩ := thaw7 HX_y3.out
          go_simp
          obtain ⟨z1, hV⟩ : ∃ z, y3.setCell ⟨b, 4, none⟩ (.slice A1 n c1) = z := ⟨_, rfl⟩
          have HX_z1 := Lib.hid (put4 (u := (.slice A1 n c1)) HX_y3.out)
          rw [hV] at HX_z1
          have HT_z1 : Hid (Go.Coop.But [b] y3 z1) := hV ▸ (Go.Coop.But.refl _ _).setCell (by simp) _
          (try rw [hV])
          refine hK.out _ _ trivial (fun hHeld => ?_)
          clear hK K hV f0 f1 f2 f3 f4 f5 f6 fbl t0 t1 t2 t3 t4 t5 t6
          try simp only [Act.put, List.setIfInBounds_toArray, List.set_cons_zero, List.set_cons_succ]
          refine wpAnyH_take (i := 11) (oi := ⟨some 15, _, _, _, _, _⟩) (v := ?_) rfl (by kernel_rfl) (by kernel_rfl) (by kernel_rfl) (fun _ _ _ h => h) (Or.inl ⟨by rfl, ?_⟩) (by assumption) ?_
          rotate_left
          · intro w hSw
            (try dsimp only at hSw)
            go_simp
            all_goals (with_reducible rfl)
          try simp only [Act.put, List.setIfInBounds_toArray, List.set_cons_zero, List.set_cons_succ]
          refine wpAnyH_ready (rs := [12]) (by kernel_rfl) (by simp) (AllReadyH.cons (o := ⟨none, _, _, _, _, _⟩) rfl (fun K hK => ?_) AllReadyH.nil)
          obtain ⟨⟨f0, f1, f2, f3, f4, f5, f6⟩, fbl⟩ := seven HX_z1.out
          obtain ⟨t0, t1, t2, t3, t4, t5, t6⟩ := thaw7 HX_z1.out
          go_simp
          obtain ⟨z2, hV⟩ : ∃ z, z1.setCell ⟨b, 5, none⟩ (.slice B1 m d1) = z := ⟨_, rfl⟩
          have HX_z2 := Lib.hid (put5 (u := (.slice B1 m d1)) HX_z1.out)
          rw [hV] at HX_z2
          have HT_z2 : Hid (Go.Coop.But [b] z1 z2) := hV ▸ (Go.Coop.But.refl _ _).setCell (by simp) _
          (try rw [hV])
          refine hK.out _ _ trivial (fun hHeld => ?_)
          clear hK K hV f0 f1 f2 f3 f4 f5 f6 fbl t0 t1 t2 t3 t4 t5 t6
          try simp only [Act.put, List.setIfInBounds_toArray, List.set_cons_zero, List.set_cons_succ]
          refine wpAnyH_take (i := 13) (oi := ⟨some 16, _, _, _, _, _⟩) (v := ?_) rfl (by kernel_rfl) (by kernel_rfl) (by kernel_rfl) (fun _ _ _ h => h) (Or.inl ⟨by rfl, ?_⟩) (by assumption) ?_
          rotate_left
          · intro w hSw
            (try dsimp only at hSw)
            go_simp
            all_goals (with_reducible rfl)
          try simp only [Act.put, List.setIfInBounds_toArray, List.set_cons_zero, List.set_cons_succ]
          refine wpAnyH_ready (rs := [14]) (by kernel_rfl) (by simp) (AllReadyH.cons (o := ⟨none, _, _, _, _, _⟩) rfl (fun K hK => ?_) AllReadyH.nil)
          obtain ⟨⟨f0, f1, f2, f3, f4, f5, f6⟩, fbl⟩ := seven HX_z2.out
          obtain ⟨t0, t1, t2, t3, t4, t5, t6⟩ := thaw7 HX_z2.out
          go_simp
          obtain ⟨z3, hV⟩ : ∃ z, z2.setCell ⟨b, 6, none⟩ (.slice C1 q k1) = z := ⟨_, rfl⟩
          have HX_z3 := Lib.hid (put6 (u := (.slice C1 q k1)) HX_z2.out)
          rw [hV] at HX_z3
          have HT_z3 : Hid (Go.Coop.But [b] z2 z3) := hV ▸ (Go.Coop.But.refl _ _).setCell (by simp) _
          (try rw [hV])
          refine hK.out _ _ trivial (fun hHeld => ?_)
          clear hK K hV f0 f1 f2 f3 f4 f5 f6 fbl t0 t1 t2 t3 t4 t5 t6
          try simp only [Act.put, List.setIfInBounds_toArray, List.set_cons_zero, List.set_cons_succ]
          refine wpAnyH_done (by kernel_rfl) ?_ _
          have HT : Hid (Go.Coop.But [b] y3 z3) := (HT_z1.out.trans HT_z2.out).trans HT_z3.out
          have HAC : Hid (AC w2 z3 b b2 s v need ph A1 n c1 ms B1 m d1 ws C1 q k1 vs) := ⟨HX_z3.out, HT.out.cells HZ_y3.out (by simp; exact hne), HO1_y3.out.but HT.out (fun j hj hm => by have h1 := (HO1_y3.out.block j hj).1; have h2 := lt_of_block HX2.out; simp at hm; omega), HO2_y3.out.but HT.out (fun j hj hm => by have h1 := (HO2_y3.out.block j hj).1; have h2 := lt_of_block HX2.out; simp at hm; omega), HO3_y3.out.but HT.out (fun j hj hm => by have h1 := (HO3_y3.out.block j hj).1; have h2 := lt_of_block HX2.out; simp at hm; omega), HDJ.out, (Go.Coop.But.of_below HW_y3.out).trans HT.out⟩
          go_wp2
          go_meet
          case rel => exact ⟨A1, c1, B1, d1, C1, k1, HAC⟩
        · obtain ⟨⟨f0, f1, f2, f3, f4, f5, f6⟩, fbl⟩ := seven HX_y0.out
          go_simp
          refine hK.out _ _ trivial (fun hHeld => ?_)
          clear hK K f0 f1 f2 f3 f4 f5 f6 fbl
          try simp only [Act.put, List.setIfInBounds_toArray, List.set_cons_zero, List.set_cons_succ]
          refine wpAnyH_ready (rs := [2]) (by kernel_rfl) (by simp) (AllReadyH.cons (o := ⟨some 7, _, _, _, _, _⟩) rfl (fun K hK => ?_) AllReadyH.nil)
          go_simp
          refine (cl_is HR_y0.out.ma bn).mono ?_
          rintro e y1 ⟨A1, c1, rfl, ho, hb⟩
          have HX_y1 := Lib.hid ((hb.block _ (lt_of_block HX_y0.out)).trans HX_y0.out)
          have HZ_y1 := Lib.hid ((hb.block _ (lt_of_block HZ_y0.out)).trans HZ_y0.out)
          have HR_y1 := Lib.hid (HR_y0.out.below hb (Nat.le_refl _))
          have HW_y1 := Lib.hid (HW_y0.out.trans (hb.mono HW_y0.out.size))
          have HO1_y1 := Lib.hid (ho.lower' HW_y0.out.size)
          clear ho hb
          refine hK.out _ _ trivial (fun hHeld => ?_)
          clear hK K
          try simp only [Act.put, List.setIfInBounds_toArray, List.set_cons_zero, List.set_cons_succ]
          refine wpAnyH_take (i := 9) (oi := ⟨some 14, _, _, _, _, _⟩) (v := ?_) rfl (by kernel_rfl) (by kernel_rfl) (by kernel_rfl) (fun _ _ _ h => h) (Or.inl ⟨by rfl, ?_⟩) (by assumption) ?_
          rotate_left
          · intro w hSw
            (try dsimp only at hSw)
            go_simp
            all_goals (with_reducible rfl)
          try simp only [Act.put, List.setIfInBounds_toArray, List.set_cons_zero, List.set_cons_succ]
          refine wpAnyH_ready (rs := [5]) (by kernel_rfl) (by simp) (AllReadyH.cons (o := ⟨some 10, _, _, _, _, _⟩) rfl (fun K hK => ?_) AllReadyH.nil)
          go_simp
          refine (cl_is HR_y1.out.wa bm).mono ?_
          rintro e y2 ⟨B1, d1, rfl, ho, hb⟩
          have HX_y2 := Lib.hid ((hb.block _ (lt_of_block HX_y1.out)).trans HX_y1.out)
          have HZ_y2 := Lib.hid ((hb.block _ (lt_of_block HZ_y1.out)).trans HZ_y1.out)
          have HR_y2 := Lib.hid (HR_y1.out.below hb (Nat.le_refl _))
          have HW_y2 := Lib.hid (HW_y1.out.trans (hb.mono HW_y1.out.size))
          have HO1_y2 := Lib.hid (HO1_y1.out.below hb (Nat.le_refl _))
          have HDJ : Hid (∀ i, A1.map (·.block) = some i → B1.map (·.block) ≠ some i) := fun i h1 h2 => by have := (HO1_y1.out.block i h1).2; have := (ho.block i h2).1; omega
          have HO2_y2 := Lib.hid (ho.lower' HW_y1.out.size)
          clear ho hb
          refine hK.out _ _ trivial (fun hHeld => ?_)
          clear hK K
          try simp only [Act.put, List.setIfInBounds_toArray, List.set_cons_zero, List.set_cons_succ]
          refine wpAnyH_ready (rs := [8]) (by kernel_rfl) (by simp) (AllReadyH.cons (o := ⟨some 13, _, _, _, _, _⟩) rfl (fun K hK => ?_) AllReadyH.nil)
          go_simp
          refine (cloneL_is C q k vs _ (HVS.out.1.below HW_y2.out (Nat.le_refl _)) HVS.out.2 bq).mono ?_
          rintro e y3 ⟨C1, k1, rfl, ho, hb⟩
          have HX_y3 := Lib.hid ((hb.block _ (lt_of_block HX_y2.out)).trans HX_y2.out)
          have HZ_y3 := Lib.hid ((hb.block _ (lt_of_block HZ_y2.out)).trans HZ_y2.out)
          have HR_y3 := Lib.hid (HR_y2.out.below hb (Nat.le_refl _))
          have HW_y3 := Lib.hid (HW_y2.out.trans (hb.mono HW_y2.out.size))
          have HO1_y3 := Lib.hid (HO1_y2.out.below hb (Nat.le_refl _))
          have HO2_y3 := Lib.hid (HO2_y2.out.below hb (Nat.le_refl _))
          have HO3_y3 := Lib.hid (ho.lower' HW_y2.out.size)
          clear ho hb
          refine hK.out _ _ trivial (fun hHeld => ?_)
          clear hK K
          try simp only [Act.put, List.setIfInBounds_toArray, List.set_cons_zero, List.set_cons_succ]
          refine wpAnyH_ready (rs := [10]) (by kernel_rfl) (by simp) (AllReadyH.cons (o := ⟨none, _, _, _, _, _⟩) rfl (fun K hK => ?_) AllReadyH.nil)
          obtain ⟨⟨f0, f1, f2, f3, f4, f5, f6⟩, fbl⟩ := seven HX_y3.out
          obtain ⟨t0, t1, t2, t3, t4, t5, t6⟩ := thaw7 HX_y3.out
          go_simp
          obtain ⟨z1, hV⟩ : ∃ z, y3.setCell ⟨b, 4, none⟩ (.slice A1 n c1) = z := ⟨_, rfl⟩
          have HX_z1 := Lib.hid (put4 (u := (.slice A1 n c1)) HX_y3.out)
          rw [hV] at HX_z1
          have HT_z1 : Hid (Go.Coop.But [b] y3 z1) := hV ▸ (Go.Coop.But.refl _ _).setCell (by simp) _
          (try rw [hV])
          refine hK.out _ _ trivial (fun hHeld => ?_)
          clear hK K hV f0 f1 f2 f3 f4 f5 f6 fbl t0 t1 t2 t3 t4 t5 t6
          try simp only [Act.put, List.setIfInBounds_toArray, List.set_cons_zero, List.set_cons_succ]
          refine wpAnyH_take (i := 11) (oi := ⟨some 15, _, _, _, _, _⟩) (v := ?_) rfl (by kernel_rfl) (by kernel_rfl) (by kernel_rfl) (fun _ _ _ h => h) (Or.inl ⟨by rfl, ?_⟩) (by assumption) ?_
          rotate_left
          · intro w hSw
            (try dsimp only at hSw)
            go_simp
            all_goals (with_reducible rfl)
          try simp only [Act.put, List.setIfInBounds_toArray, List.set_cons_zero, List.set_cons_succ]
          refine wpAnyH_ready (rs := [12]) (by kernel_rfl) (by simp) (AllReadyH.cons (o := ⟨none, _, _, _, _, _⟩) rfl (fun K hK => ?_) AllReadyH.nil)
          obtain ⟨⟨f0, f1, f2, f3, f4, f5, f6⟩, fbl⟩ := seven HX_z1.out
          obtain ⟨t0, t1, t2, t3, t4, t5, t6⟩ := thaw7 HX_z1.out
          go_simp
          obtain ⟨z2, hV⟩ : ∃ z, z1.setCell ⟨b, 5, none⟩ (.slice B1 m d1) = z := ⟨_, rfl⟩
          have HX_z2 := Lib.hid (put5 (u := (.slice B1 m d1)) HX_z1.out)
          rw [hV] at HX_z2
          have HT_z2 : Hid (Go.Coop.But [b] z1 z2) := hV ▸ (Go.Coop.But.refl _ _).setCell (by simp) _
          (try rw [hV])
          refine hK.out _ _ trivial (fun hHeld => ?_)
          clear hK K hV f0 f1 f2 f3 f4 f5 f6 fbl t0 t1 t2 t3 t4 t5 t6
          try simp only [Act.put, List.setIfInBounds_toArray, List.set_cons_zero, List.set_cons_succ]
          refine wpAnyH_take (i := 13) (oi := ⟨some 16, _, _, _, _, _⟩) (v := ?_) rfl (by kernel_rfl) (by kernel_rfl) (by kernel_rfl) (fun _ _ _ h => h) (Or.inl ⟨by rfl, ?_⟩) (by assumption) ?_
          rotate_left
          · intro w hSw
            (try dsimp only at hSw)
            go_simp
            all_goals (with_reducible rfl)
          try simp only [Act.put, List.setIfInBounds_toArray, List.set_cons_zero, List.set_cons_succ]
          refine wpAnyH_ready (rs := [14]) (by kernel_rfl) (by simp) (AllReadyH.cons (o := ⟨none, _, _, _, _, _⟩) rfl (fun K hK => ?_) AllReadyH.nil)
          obtain ⟨⟨f0, f1, f2, f3, f4, f5, f6⟩, fbl⟩ := seven HX_z2.out
          obtain ⟨t0, t1, t2, t3, t4, t5, t6⟩ := thaw7 HX_z2.out
          go_simp
          obtain ⟨z3, hV⟩ : ∃ z, z2.setCell ⟨b, 6, none⟩ (.slice C1 q k1) = z := ⟨_, rfl⟩
          have HX_z3 := Lib.hid (put6 (u := (.slice C1 q k1)) HX_z2.out)
          rw [hV] at HX_z3
          have HT_z3 : Hid (Go.Coop.But [b] z2 z3) := hV ▸ (Go.Coop.But.refl _ _).setCell (by simp) _
          (try rw [hV])
          refine hK.out _ _ trivial (fun hHeld => ?_)
          clear hK K hV f0 f1 f2 f3 f4 f5 f6 fbl t0 t1 t2 t3 t4 t5 t6
          try simp only [Act.put, List.setIfInBounds_toArray, List.set_cons_zero, List.set_cons_succ]
          refine wpAnyH_done (by kernel_rfl) ?_ _
          have HT : Hid (Go.Coop.But [b] y3 z3) := (HT_z1.out.trans HT_z2.out).trans HT_z3.out
          have HAC : Hid (AC w2 z3 b b2 s v need ph A1 n c1 ms B1 m d1 ws C1 q k1 vs) := ⟨HX_z3.out, HT.out.cells HZ_y3.out (by simp; exact hne), HO1_y3.out.but HT.out (fun j hj hm => by have h1 := (HO1_y3.out.block j hj).1; have h2 := lt_of_block HX2.out; simp at hm; omega), HO2_y3.out.but HT.out (fun j hj hm => by have h1 := (HO2_y3.out.block j hj).1; have h2 := lt_of_block HX2.out; simp at hm; omega), HO3_y3.out.but HT.out (fun j hj hm => by have h1 := (HO3_y3.out.block j hj).1; have h2 := lt_of_block HX2.out; simp at hm; omega), HDJ.out, (Go.Coop.But.of_below HW_y3.out).trans HT.out⟩
          go_wp2
          go_meet
          case rel => exact ⟨A1, c1, B1, d1, C1, k1, HAC⟩
      · obtain ⟨⟨f0, f1, f2, f3, f4, f5, f6⟩, fbl⟩ := seven HX_y0.out
        go_simp
        refine hK.out _ _ trivial (fun hHeld => ?_)
        clear hK K f0 f1 f2 f3 f4 f5 f6 fbl
        try simp only [Act.put, List.setIfInBounds_toArray, List.set_cons_zero, List.set_cons_succ]
        refine wpAnyH_ready (rs := [1]) (by kernel_rfl) (by simp) (AllReadyH.cons (o := ⟨some 6, _, _, _, _, _⟩) rfl (fun K hK => ?_) AllReadyH.nil)
        obtain ⟨⟨f0, f1, f2, f3, f4, f5, f6⟩, fbl⟩ := seven HX_y0.out
        go_simp
        refine hK.out _ _ trivial (fun hHeld => ?_)
        clear hK K f0 f1 f2 f3 f4 f5 f6 fbl
        try simp only [Act.put, List.setIfInBounds_toArray, List.set_cons_zero, List.set_cons_succ]
        refine wpAnyH_ready (rs := [2]) (by kernel_rfl) (by simp) (AllReadyH.cons (o := ⟨some 7, _, _, _, _, _⟩) rfl (fun K hK => ?_) AllReadyH.nil)
        go_simp
        refine (cl_is HR_y0.out.ma bn).mono ?_
        rintro e y1 ⟨A1, c1, rfl, ho, hb⟩
        have HX_y1 := Lib.hid ((hb.block _ (lt_of_block HX_y0.out)).trans HX_y0.out)
        have HZ_y1 := Lib.hid ((hb.block _ (lt_of_block HZ_y0.out)).trans HZ_y0.out)
        have HR_y1 := Lib.hid (HR_y0.out.below hb (Nat.le_refl _))
        have HW_y1 := Lib.hid (HW_y0.out.trans (hb.mono HW_y0.out.size))
        have HO1_y1 := Lib.hid (ho.lower' HW_y0.out.size)
        clear ho hb
        refine hK.out _ _ trivial (fun hHeld => ?_)
        clear hK K
        try simp only [Act.put, List.setIfInBounds_toArray, List.set_cons_zero, List.set_cons_succ]
        refine wpAnyH_take (i := 9) (oi := ⟨some 14, _, _, _, _, _⟩) (v := ?_) rfl (by kernel_rfl) (by kernel_rfl) (by kernel_rfl) (fun _ _ _ h => h) (Or.inl ⟨by rfl, ?_⟩) (by assumption) ?_
        rotate_left
        · intro w hSw
          (try dsimp only at hSw)
          go_simp
          all_goals (with_reducible rfl)
        try simp only [Act.put, List.setIfInBounds_toArray, List.set_cons_zero, List.set_cons_succ]
        refine wpAnyH_ready (rs := [5]) (by kernel_rfl) (by simp) (AllReadyH.cons (o := ⟨some 10, _, _, _, _, _⟩) rfl (fun K hK => ?_) AllReadyH.nil)
        go_simp
        refine (cl_is HR_y1.out.wa bm).mono ?_
        rintro e y2 ⟨B1, d1, rfl, ho, hb⟩
        have HX_y2 := Lib.hid ((hb.block _ (lt_of_block HX_y1.out)).trans HX_y1.out)
        have HZ_y2 := Lib.hid ((hb.block _ (lt_of_block HZ_y1.out)).trans HZ_y1.out)
        have HR_y2 := Lib.hid (HR_y1.out.below hb (Nat.le_refl _))
        have HW_y2 := Lib.hid (HW_y1.out.trans (hb.mono HW_y1.out.size))
        have HO1_y2 := Lib.hid (HO1_y1.out.below hb (Nat.le_refl _))
        have HDJ : Hid (∀ i, A1.map (·.block) = some i → B1.map (·.block) ≠ some i) := fun i h1 h2 => by have := (HO1_y1.out.block i h1).2; have := (ho.block i h2).1; omega
        have HO2_y2 := Lib.hid (ho.lower' HW_y1.out.size)
        clear ho hb
        refine hK.out _ _ trivial (fun hHeld => ?_)
        clear hK K
        try simp only [Act.put, List.setIfInBounds_toArray, List.set_cons_zero, List.set_cons_succ]
        refine wpAnyH_ready (rs := [8]) (by kernel_rfl) (by simp) (AllReadyH.cons (o := ⟨some 13, _, _, _, _, _⟩) rfl (fun K hK => ?_) AllReadyH.nil)
        go_simp
        refine (cloneL_is C q k vs _ (HVS.out.1.below HW_y2.out (Nat.le_refl _)) HVS.out.2 bq).mono ?_
        rintro e y3 ⟨C1, k1, rfl, ho, hb⟩
        have HX_y3 := Lib.hid ((hb.block _ (lt_of_block HX_y2.out)).trans HX_y2.out)
        have HZ_y3 := Lib.hid ((hb.block _ (lt_of_block HZ_y2.out)).trans HZ_y2.out)
        have HR_y3 := Lib.hid (HR_y2.out.below hb (Nat.le_refl _))
        have HW_y3 := Lib.hid (HW_y2.out.trans (hb.mono HW_y2.out.size))
        have HO1_y3 := Lib.hid (HO1_y2.out.below hb (Nat.le_refl _))
        have HO2_y3 := Lib.hid (HO2_y2.out.below hb (Nat.le_refl _))
        have HO3_y3 := Lib.hid (ho.lower' HW_y2.out.size)
        clear ho hb
        refine hK.out _ _ trivial (fun hHeld => ?_)
        clear hK K
        try simp only [Act.put, List.setIfInBounds_toArray, List.set_cons_zero, List.set_cons_succ]
        refine wpAnyH_ready (rs := [10]) (by kernel_rfl) (by simp) (AllReadyH.cons (o := ⟨none, _, _, _, _, _⟩) rfl (fun K hK => ?_) AllReadyH.nil)
        obtain ⟨⟨f0, f1, f2, f3, f4, f5, f6⟩, fbl⟩ := seven HX_y3.out
        obtain ⟨t0, t1, t2, t3, t4, t5, t6⟩ := thaw7 HX_y3.out
        go_simp
        obtain ⟨z1, hV⟩ : ∃ z, y3.setCell ⟨b, 4, none⟩ (.slice A1 n c1) = z := ⟨_, rfl⟩
        have HX_z1 := Lib.hid (put4 (u := (.slice A1 n c1)) HX_y3.out)
        rw [hV] at HX_z1
        have HT_z1 : Hid (Go.Coop.But [b] y3 z1) := hV ▸ (Go.Coop.But.refl _ _).setCell (by simp) _
        (try rw [hV])
        refine hK.out _ _ trivial (fun hHeld => ?_)
        clear hK K hV f0 f1 f2 f3 f4 f5 f6 fbl t0 t1 t2 t3 t4 t5 t6
        try simp only [Act.put, List.setIfInBounds_toArray, List.set_cons_zero, List.set_cons_succ]
        refine wpAnyH_take (i := 11) (oi := ⟨some 15, _, _, _, _, _⟩) (v := ?_) rfl (by kernel_rfl) (by kernel_rfl) (by kernel_rfl) (fun _ _ _ h => h) (Or.inl ⟨by rfl, ?_⟩) (by assumption) ?_
        rotate_left
        · intro w hSw
          (try dsimp only at hSw)
          go_simp
          all_goals (with_reducible rfl)
        try simp only [Act.put, List.setIfInBounds_toArray, List.set_cons_zero, List.set_cons_succ]
        refine wpAnyH_ready (rs := [12]) (by kernel_rfl) (by simp) (AllReadyH.cons (o := ⟨none, _, _, _, _, _⟩) rfl (fun K hK => ?_) AllReadyH.nil)
        obtain ⟨⟨f0, f1, f2, f3, f4, f5, f6⟩, fbl⟩ := seven HX_z1.out
        obtain ⟨t0, t1, t2, t3, t4, t5, t6⟩ := thaw7 HX_z1.out
        go_simp
        obtain ⟨z2, hV⟩ : ∃ z, z1.setCell ⟨b, 5, none⟩ (.slice B1 m d1) = z := ⟨_, rfl⟩
        have HX_z2 := Lib.hid (put5 (u := (.slice B1 m d1)) HX_z1.out)
        rw [hV] at HX_z2
        have HT_z2 : Hid (Go.Coop.But [b] z1 z2) := hV ▸ (Go.Coop.But.refl _ _).setCell (by simp) _
        (try rw [hV])
        refine hK.out _ _ trivial (fun hHeld => ?_)
        clear hK K hV f0 f1 f2 f3 f4 f5 f6 fbl t0 t1 t2 t3 t4 t5 t6
        try simp only [Act.put, List.setIfInBounds_toArray, List.set_cons_zero, List.set_cons_succ]
        refine wpAnyH_take (i := 13) (oi := ⟨some 16, _, _, _, _, _⟩) (v := ?_) rfl (by kernel_rfl) (by kernel_rfl) (by kernel_rfl) (fun _ _ _ h => h) (Or.inl ⟨by rfl, ?_⟩) (by assumption) ?_
        rotate_left
        · intro w hSw
          (try dsimp only at hSw)
          go_simp
          all_goals (with_reducible rfl)
        try simp only [Act.put, List.setIfInBounds_toArray, List.set_cons_zero, List.set_cons_succ]
        refine wpAnyH_ready (rs := [14]) (by kernel_rfl) (by simp) (AllReadyH.cons (o := ⟨none, _, _, _, _, _⟩) rfl (fun K hK => ?_) AllReadyH.nil)
        obtain ⟨⟨f0, f1, f2, f3, f4, f5, f6⟩, fbl⟩ := seven HX_z2.out
        obtain ⟨t0, t1, t2, t3, t4, t5, t6⟩ := thaw7 HX_z2.out
        go_simp
        obtain ⟨z3, hV⟩ : ∃ z, z2.setCell ⟨b, 6, none⟩ (.slice C1 q k1) = z := ⟨_, rfl⟩
        have HX_z3 := Lib.hid (put6 (u := (.slice C1 q k1)) HX_z2.out)
        rw [hV] at HX_z3
        have HT_z3 : Hid (Go.Coop.But [b] z2 z3) := hV ▸ (Go.Coop.But.refl _ _).setCell (by simp) _
        (try rw [hV])
        refine hK.out _ _ trivial (fun hHeld => ?_)
        clear hK K hV f0 f1 f2 f3 f4 f5 f6 fbl t0 t1 t2 t3 t4 t5 t6
        try simp only [Act.put, List.setIfInBounds_toArray, List.set_cons_zero, List.set_cons_succ]
        refine wpAnyH_done (by kernel_rfl) ?_ _
        have HT : Hid (Go.Coop.But [b] y3 z3) := (HT_z1.out.trans HT_z2.out).trans HT_z3.out
        have HAC : Hid (AC w2 z3 b b2 s v need ph A1 n c1 ms B1 m d1 ws C1 q k1 vs) := ⟨HX_z3.out, HT.out.cells HZ_y3.out (by simp; exact hne), HO1_y3.out.but HT.out (fun j hj hm => by have h1 := (HO1_y3.out.block j hj).1; have h2 := lt_of_block HX2.out; simp at hm; omega), HO2_y3.out.but HT.out (fun j hj hm => by have h1 := (HO2_y3.out.block j hj).1; have h2 := lt_of_block HX2.out; simp at hm; omega), HO3_y3.out.but HT.out (fun j hj hm => by have h1 := (HO3_y3.out.block j hj).1; have h2 := lt_of_block HX2.out; simp at hm; omega), HDJ.out, (Go.Coop.But.of_below HW_y3.out).trans HT.out⟩
        go_wp2
        go_meet
        case rel => exact ⟨A1, c1, B1, d1, C1, k1, HAC⟩
  case rest =>
    obtain ⟨A1, c1, B1, d1, C1, k1, HAC⟩ := hcut
    have hws := HAC.out.but.size
    have HL2 := Lib.hid (And.intro (lt_of_block HX2.out) (lt_of_block HZ2.out))
    clear f0 f1 f2 f3 f4 f5 f6 fbl
    obtain ⟨⟨f0, f1, f2, f3, f4, f5, f6⟩, fbl⟩ := seven HAC.out.row
    have HRW : Hid (Rws w wc w2.heap.size 0 vs bs) := fun i r hr => by
      obtain ⟨B0, d0, e0, h0⟩ := HS.out i r hr
      exact ⟨B0, d0, e0, fun h => by omega, fun _ => h0⟩
    go_wp2_with fail
    go_loopg [3, 4, 20] q (fun kx _ _ s20 wr => ∃ (j : Nat) (us : List Value), j ≤ q ∧ q - j ≤ kx ∧ s20 = .int .i64 (j : Int) ∧ Hid (us.length = q) ∧ Hid (AC w2 wr b b2 s v need ph A1 n c1 ms B1 m d1 ws C1 q k1 us) ∧ Hid (Rws w wr w2.heap.size j us bs))
    case atStart => exact ⟨0, vs, Nat.zero_le _, by omega, rfl, HVL, HAC, HRW⟩
    case round =>
      obtain ⟨j, us, hj, hk, rfl, HUL, HC, HRJ⟩ := hrel
      clear HAC HRW f0 f1 f2 f3 f4 f5 f6 fbl
      obtain ⟨⟨f0, f1, f2, f3, f4, f5, f6⟩, fbl⟩ := seven HC.out.row
      by_cases hlt : j < q
      · obtain ⟨r, hr⟩ : ∃ r, bs[j]? = some r := ⟨_, List.getElem?_eq_getElem (by have := HR2.out.lens.2.2; omega)⟩
        obtain ⟨Bj, dj, e1, _, h3⟩ := HRJ.out j r hr
        have HRd := Lib.hid (h3 (Nat.le_refl _))
        obtain ⟨g, hC1, hg1, hg2, hfz⟩ : ∃ g, C1 = some ⟨g, 0, none⟩ ∧ w2.heap.size ≤ g ∧ g < wr.heap.size ∧ ∀ k, wr.frozen? ⟨g, k, none⟩ = false := HC.out.oc.addr (by omega)
        subst hC1
        obtain ⟨ad, ea, _, hxc⟩ := HC.out.oc.rd.cells (show 0 < q by omega)
        injection ea with ea
        subst ea
        have e2 := hxc j _ e1
        have e2' : wr.cell? ⟨g, j, none⟩ = some (.slice Bj r.length dj) := by rw [addr_at] at e2; rw [Nat.zero_add] at e2; exact e2
        have HBW : Hid (Below w.heap.size w wr) := HB2.out.trans (HC.out.but.below (B := w.heap.size) HB2.out.size (by intro i hi; simp at hi; have := HLT.out.2; omega))
        have hi1 : (0 : Int) ≤ (j : Int) := by omega
        have hi2 : (j : Int) < (q : Int) := by omega
        have hwj : IntKind.i64.wrap ((j : Int) + 1) = (j : Int) + 1 := IntWalk.i64_in _ (by omega)
        obtain ⟨rl, hrl⟩ : ∃ k, r.length = k := ⟨_, rfl⟩
        have HRL := Lib.hid (And.intro hrl (And.intro hr (And.intro hlt (And.intro hg1 hg2))))
        rw [hrl] at e1 e2 e2'
        have hfz0 := hfz j
        clear hr hlt h3 hrl e1 hxc hg1 hg2
        go_wp2_with fail
        obtain ⟨x0, h_x0⟩ : ∃ z, wr.drew = z := ⟨_, rfl⟩
        have HD0 : Hid (Below wr.heap.size wr x0) := h_x0 ▸ (Below.refl _ _).drew
        have HC0 := Lib.hid (HC.out.below HD0.out)
        have HRd0 := Lib.hid (HRd.out.below (HBW.out.trans (HD0.out.mono HBW.out.size)) (Nat.le_refl _))
        refine wp_region_held_drew (S := fun u => u.cell? ⟨b, 6, none⟩ = some (.slice (some ⟨g, 0, none⟩) q k1)) (by kernel_rfl) (by show _ = _; rw [h_x0]; exact (seven HC0.out.row).1.2.2.2.2.2.2) (fun hHeld => ?_)
        rw [h_x0]
        clear h_x0 hHeld
        have hHeld := (seven HC0.out.row).1.2.2.2.2.2.2
        refine wpAnyH_take (i := 0) (oi := ⟨some 25, _, _, _, _, _⟩) (v := ?_) rfl (by kernel_rfl) (by kernel_rfl) (by kernel_rfl) (fun _ _ _ h => h) (Or.inl ⟨by rfl, ?_⟩) (by assumption) ?_
        rotate_left
        · intro w hSw
          (try dsimp only at hSw)
          go_simp
          all_goals (with_reducible rfl)
        try simp only [Act.put, List.setIfInBounds_toArray, List.set_cons_zero, List.set_cons_succ]
        refine wpAnyH_take (i := 1) (oi := ⟨some 26, _, _, _, _, _⟩) (v := ?_) rfl (by kernel_rfl) (by kernel_rfl) (by kernel_rfl) (fun _ _ _ h => h) (Or.inl ⟨by rfl, ?_⟩) (by assumption) ?_
        rotate_left
        · intro w hSw
          (try dsimp only at hSw)
          go_simp
          all_goals (with_reducible rfl)
        try simp only [Act.put, List.setIfInBounds_toArray, List.set_cons_zero, List.set_cons_succ]
        refine wpAnyH_take (i := 2) (oi := ⟨some 27, _, _, _, _, _⟩) (v := ?_) rfl (by kernel_rfl) (by kernel_rfl) (by kernel_rfl) (fun _ _ _ h => h) (Or.inl ⟨by rfl, ?_⟩) (by assumption) ?_
        rotate_left
        · intro w hSw
          (try dsimp only at hSw)
          go_simp
          all_goals (with_reducible rfl)
        try simp only [Act.put, List.setIfInBounds_toArray, List.set_cons_zero, List.set_cons_succ]
        refine wpAnyH_take (i := 3) (oi := ⟨some 28, _, _, _, _, _⟩) (v := ?_) rfl (by kernel_rfl) (by kernel_rfl) (by kernel_rfl) (fun _ _ _ h => h) (Or.inl ⟨by rfl, ?_⟩) (by assumption) ?_
        rotate_left
        · intro w hSw
          (try dsimp only at hSw)
          go_simp
          all_goals (with_reducible rfl)
        try simp only [Act.put, List.setIfInBounds_toArray, List.set_cons_zero, List.set_cons_succ]
        refine wpAnyH_ready (rs := [4]) (by kernel_rfl) (by simp) (AllReadyH.cons (o := ⟨some 29, _, _, _, _, _⟩) rfl (fun K hK => ?_) AllReadyH.nil)
        go_simp
        rw [← HRL.out.1]
        refine (cloneB_is Bj _ dj r x0 HRd0.out (HSM.out r (List.mem_of_getElem? HRL.out.2.1))).mono ?_
        rintro e x1 ⟨X1, e1, rfl, ho1, hb1⟩
        have HC1 := Lib.hid (HC0.out.below hb1)
        have HO1 := Lib.hid (ho1.lower (show w2.heap.size ≤ x0.heap.size by have := HC0.out.but.size; omega))
        have HD1 := Lib.hid (HD0.out.trans (hb1.mono HD0.out.size))
        clear ho1 hb1
        refine hK.out _ _ ((seven HC1.out.row).1.2.2.2.2.2.2) (fun hHeld => ?_)
        clear hK K
        try simp only [Act.put, List.setIfInBounds_toArray, List.set_cons_zero, List.set_cons_succ]
        refine wpAnyH_take (i := 5) (oi := ⟨some 30, _, _, _, _, _⟩) (v := ?_) rfl (by kernel_rfl) (by kernel_rfl) (by kernel_rfl) (fun _ _ _ h => h) (Or.inl ⟨by rfl, ?_⟩) (by assumption) ?_
        rotate_left
        · intro w hSw
          (try dsimp only at hSw)
          go_simp
          all_goals (with_reducible rfl)
        try simp only [Act.put, List.setIfInBounds_toArray, List.set_cons_zero, List.set_cons_succ]
        refine wpAnyH_ready (rs := [6]) (by kernel_rfl) (by simp) (AllReadyH.cons (o := ⟨none, _, _, _, _, _⟩) rfl (fun K hK => ?_) AllReadyH.nil)
        obtain ⟨g', hC1', hg1', hg2', hfz1⟩ : ∃ g', (some ⟨g, 0, none⟩ : Option Addr) = some ⟨g', 0, none⟩ ∧ w2.heap.size ≤ g' ∧ g' < x1.heap.size ∧ ∀ k, x1.frozen? ⟨g', k, none⟩ = false := HC1.out.oc.addr (by have := HRL.out.2.2.1; omega)
        injection hC1' with hC1'
        injection hC1' with hC1' _ _
        subst hC1'
        have hfz2 := hfz1 j
        obtain ⟨cu, hcu⟩ := HC1.out.oc.typ (j := g) rfl
        have hcc : x1.cell? ⟨g, j, none⟩ = some (.slice Bj rl dj) := by
          have h0 := (HD1.out.cell (p := ⟨g, j, none⟩) HRL.out.2.2.2.2).trans e2'
          exact h0
        go_simp
        obtain ⟨x2, hx2⟩ : ∃ z, x1.setCell ⟨g, j, none⟩ (.slice X1 r.length e1) = z := ⟨_, rfl⟩
        (try rw [hx2])
        have HC2 := Lib.hid (HC1.out.put hx2 HL2.out.1 HL2.out.2 HRL.out.2.2.2.1 ⟨cu, hcu⟩)
        have HRJ2 := Lib.hid (HRJ.out.put HD1.out hx2 ⟨cu, hcu⟩ HRL.out.2.1 (by rw [HUL.out, HR2.out.lens.2.2]) HO1.out)
        refine hK.out _ _ ((seven HC2.out.row).1.2.2.2.2.2.2) (fun hHeld => ?_)
        clear hK K hx2 hcc hfz1 hfz2
        try simp only [Act.put, List.setIfInBounds_toArray, List.set_cons_zero, List.set_cons_succ]
        refine wpAnyH_done (by kernel_rfl) ?_ _
        go_wp2
        go_roundg (q - (j + 1))
        case measure => have := HRL.out.2.2.1; omega
        case rel => exact ⟨j + 1, us.set j (.slice X1 r.length e1), by have := HRL.out.2.2.1; omega, by omega, by go_num, (by show _ = _; rw [List.length_set]; exact HUL.out), HC2, HRJ2⟩
      · obtain rfl : j = q := by omega
        obtain ⟨t0, t1, t2, t3, t4, t5, t6⟩ := thaw7 HC.out.res
        obtain ⟨⟨p0, p1, p2, p3, p4, p5, p6⟩, pbl⟩ := seven HC.out.res
        have HMO : Hid (MO wr w2.heap.size w2.heap.size C1 j k1 bs) := ⟨HR2.out.lens.2.2, us, HC.out.oc, fun i r hr => by
          obtain ⟨B0, d0, h1, h2, _⟩ := HRJ.out i r hr
          exact ⟨B0, d0, h1, h2 (by have := (List.getElem?_eq_some_iff.1 hr).1; have := HR2.out.lens.2.2; omega)⟩⟩
        go_wp2
        have hw7 := row7 (v0 := .int .i64 s) (v1 := .int .i64 v) (v2 := .int .i64 need) (v3 := .int .i64 ph) (v4 := .slice A1 n c1) (v5 := .slice B1 m d1) (v6 := .slice C1 j k1) HC.out.res
        have hbt := but7 wr b2 (.int .i64 s) (.int .i64 v) (.int .i64 need) (.int .i64 ph) (.slice A1 n c1) (.slice B1 m d1) (.slice C1 j k1)
        have hbl : Below w.heap.size w wr := HB2.out.trans (HC.out.but.below (B := w.heap.size) HB2.out.size (by intro i hi; simp at hi; have := HLT.out.2; omega))
        have hn2 : ∀ {X : Option Addr} {n c : Nat} {E : Nat} {l : List Value}, OwnV wr w2.heap.size E X n c l → ∀ i, X.map (·.block) = some i → i ∉ [b2] := fun ho i hi hm => by have h1 := (ho.block i hi).1; have h2 := HL2.out.2; simp at hm; omega
        refine bodyPost_ret (v := .agg #[.int .i64 s, .int .i64 v, .int .i64 need, .int .i64 ph, .slice A1 n c1, .slice B1 m d1, .slice C1 j k1]) (results_cell_row rfl _ _ b2 27 _ (0, 0) _ rfl hw7 Try.underlying27 rfl (by kernel_rfl)) rfl ⟨A1, c1, B1, d1, C1, k1, ?_, ?_, ?_, ?_, HC.out.dj, ?_⟩
        · rw [hln, hlm, HR2.out.lens.2.2]
        · rw [hln]; exact (HC.out.oa.but hbt (hn2 HC.out.oa)).lower' HB2.out.size
        · rw [hlm]; exact (HC.out.ob.but hbt (hn2 HC.out.ob)).lower' HB2.out.size
        · rw [HR2.out.lens.2.2]
          refine (HMO.out.keep fun i cur E hi ho => ?_).lower HB2.out.size HB2.out.size
          refine (hbt.cells hi ?_).trans hi.symm
          intro hm
          simp at hm
          subst hm
          rw [HC.out.res] at hi
          injection hi with hi
          injection hi with _ hi _
          rcases ho with ⟨rfl, _⟩ | ⟨rfl, _⟩ <;> exact absurd hi (by decide)
        · exact hbl.trans (hbt.below (B := w.heap.size) hbl.size (by intro i hi; simp at hi; have := HLT.out; omega))
end
end Go.Proofs.Ytkkpfehgobanbaa
