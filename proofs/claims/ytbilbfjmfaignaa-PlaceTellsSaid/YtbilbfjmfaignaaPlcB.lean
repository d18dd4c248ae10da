/- Placements in memory; slices.Clone at ints; alone; Right. -/
import Derived.Test.YtbilbfjmfaignaaPlcA
import Derived.Deep.RegionWith
namespace Go.Proofs.Ytbilbfjmfaignaa
open Go.RowKit Go.Coop
set_option maxRecDepth 100000
/-- a placement in memory -/
structure Pc where
  e : Int
  A : Option Addr
  n : Nat
  c : Nat
  l : List Int
def Pc.cells (p : Pc) : List Value := [.int .i64 p.e, .slice p.A p.n p.c]
def Pc.pl (p : Pc) : Pl := ⟨p.e, p.l⟩
abbrev Pc.val (p : Pc) : Value := .agg #[.int .i64 p.e, .slice p.A p.n p.c]
structure Pc.Ok (p : Pc) (w : World) : Prop where
  rd : RdV w p.A p.n (p.l.map IV)
  small : p.n ≤ 1000000
theorem Pc.Ok.len {p : Pc} {w : World} (h : p.Ok w) : p.l.length = p.n := by simpa using h.rd.len
theorem Pc.Ok.below {p : Pc} {w w' : World} {B : Nat} (h : p.Ok w) (hb : Below B w w') (hB : w.heap.size ≤ B) : p.Ok w' := ⟨h.rd.below hb hB, h.small⟩
/-- placements that are read -/
structure PL (w : World) (A : Option Addr) (n : Nat) (ps : List Pc) : Prop where
  len : ps.length = n
  at_ : ∀ (i : Nat) (p : Pc), ps[i]? = some p → p.Ok w ∧ ∃ ad, A = some ad ∧ ad.block < w.heap.size ∧ ∀ j v, p.cells[j]? = some v → w.cell? (ad.add (i * 2 + j)) = some v
theorem PL.below {w w' : World} {A : Option Addr} {n : Nat} {ps : List Pc} {B : Nat} (h : PL w A n ps) (hb : Below B w w') (hB : w.heap.size ≤ B) : PL w' A n ps :=
  ⟨h.len, fun i p hi => by
    obtain ⟨h1, ad, h2, h3, h4⟩ := h.at_ i p hi
    exact ⟨h1.below hb hB, ad, h2, Nat.lt_of_lt_of_le h3 hb.size, fun j v hj => (hb.cell (by rw [addr_add_block]; omega)).trans (h4 j v hj)⟩⟩
theorem PL.nil (w : World) (A : Option Addr) : PL w A 0 [] := ⟨rfl, by simp⟩
theorem addr_succ (a : Addr) (j : Nat) : a.add (j + 1) = ⟨(a.add j).block, (a.add j).off + 1, none⟩ := by
  unfold Addr.add
  rw [if_neg (by omega)]
  split
  · rename_i h; subst h; rfl
  · rfl
/-- the i-th placement -/
theorem PL.get {w : World} {A : Option Addr} {n : Nat} {ps : List Pc} (h : PL w A n ps) {i : Nat} (hi : i < n) : ∃ p ad, ps[i]? = some p ∧ p.Ok w ∧ A = some ad ∧ ad.block < w.heap.size ∧
    (Instr.loadAt 30 (.pointer (some (ad.add (i * 2))))).run Try.prog w = .ok p.val w ∧ w.cell? (ad.add (i * 2)) = some (.int .i64 p.e) ∧ w.cell? ⟨(ad.add (i * 2)).block, (ad.add (i * 2)).off + 1, none⟩ = some (.slice p.A p.n p.c) := by
  have hl := h.len
  obtain ⟨p, hp⟩ : ∃ p, ps[i]? = some p := ⟨_, List.getElem?_eq_getElem (by omega)⟩
  obtain ⟨h1, ad, h2, h3, h4⟩ := h.at_ i p hp
  refine ⟨p, ad, hp, h1, h2, h3, ?_, h4 0 _ rfl, ?_⟩
  · exact run_loadAt_at w _ 30 p.cells _ (fun j v hj => by rw [addr_add_add]; exact h4 j v hj) Try.underlying30 rfl (by kernel_rfl)
  · have := h4 1 _ rfl
    rwa [addr_succ] at this
/-- the cells of placements -/
def pcs (ps : List Pc) : List Value := ps.flatMap Pc.cells
theorem pcs_len : ∀ ps : List Pc, (pcs ps).length = ps.length * 2
  | [] => rfl
  | p :: ps => by
    have := pcs_len ps
    simp only [pcs, List.flatMap_cons, List.length_append] at this ⊢
    rw [this]
    simp [Pc.cells]
    omega
theorem pcs_append (a b : List Pc) : pcs (a ++ b) = pcs a ++ pcs b := by simp [pcs]
theorem pcs_one (ps : List Pc) : ∀ v ∈ pcs ps, v.oneCell' = true := by
  intro v hv
  obtain ⟨p, _, hv⟩ := List.mem_flatMap.1 hv
  simp [Pc.cells] at hv
  rcases hv with rfl | rfl <;> rfl
theorem pcs_get : ∀ {ps : List Pc} {i : Nat} {p : Pc} {j : Nat} {v : Value}, ps[i]? = some p → p.cells[j]? = some v → (pcs ps)[i * 2 + j]? = some v
  | [], i, p, j, v, h, _ => by simp at h
  | q :: ps, 0, p, j, v, h, hj => by
    simp at h
    subst h
    have : j < q.cells.length := (List.getElem?_eq_some_iff.1 hj).1
    simp only [pcs, List.flatMap_cons]
    rw [Nat.zero_mul, Nat.zero_add, List.getElem?_append_left this, hj]
  | q :: ps, i + 1, p, j, v, h, hj => by
    have := pcs_get (ps := ps) (i := i) (by simpa using h) hj
    simp only [pcs, List.flatMap_cons] at this ⊢
    have hl : q.cells.length = 2 := rfl
    rw [List.getElem?_append_right (by rw [hl]; omega), hl, show (i + 1) * 2 + j - 2 = i * 2 + j by omega, this]
theorem ivs_one (l : List Int) : ∀ u ∈ l.map IV, u.oneCell' = true := by
  intro u hu
  obtain ⟨x, _, rfl⟩ := List.mem_map.1 hu
  rfl
/-- placements in memory of their own, from a block on -/
structure PO (w : World) (B : Nat) (A : Option Addr) (n c : Nat) (ps : List Pc) : Prop where
  row : OwnK w B 30 2 A n c (pcs ps)
  each : ∀ p ∈ ps, OwnV w B 3 p.A p.n p.c (p.l.map IV) ∧ p.n ≤ 1000000
section
variable {w w' : World} {B n c : Nat} {A : Option Addr} {ps : List Pc}
theorem PO.len (h : PO w B A n c ps) : ps.length = n := by
  have := h.row.len
  rw [pcs_len] at this
  omega
theorem PO.pl (h : PO w B A n c ps) : PL w A n ps :=
  ⟨h.len, fun i p hi => by
    obtain ⟨h1, h2⟩ := h.each p (List.mem_of_getElem? hi)
    have hlt := (List.getElem?_eq_some_iff.1 hi).1
    obtain ⟨ad, e, hl, hc⟩ := h.row.rd.cells (by have := h.len; omega)
    exact ⟨⟨h1.rd, h2⟩, ad, e, hl, fun j v hj => hc _ _ (pcs_get hi hj)⟩⟩
theorem PO.nil (w : World) (B : Nat) : PO w B none 0 0 [] := ⟨OwnK.nil _ _ _ _, by simp⟩
theorem PO.below {B' : Nat} (h : PO w B A n c ps) (hb : Below B' w w') (hB : w.heap.size ≤ B') : PO w' B A n c ps :=
  ⟨h.row.below hb hB, fun p hp => ⟨(h.each p hp).1.below hb hB, (h.each p hp).2⟩⟩
theorem _root_.Go.Coop.OwnV.lower' {w : World} {base base' E : Nat} {A : Option Addr} {n c : Nat} {l : List Value} (h : OwnV w base E A n c l) (hb : base' ≤ base) : OwnV w base' E A n c l := by
  refine ⟨h.len, h.row.1, ?_⟩
  rcases h.row.2 with h0 | ⟨g, cap, cur, hv, hbg, hg, r⟩
  · exact .inl h0
  · exact .inr ⟨g, cap, cur, hv, Nat.le_trans hb hbg, hg, r⟩
theorem _root_.Go.Coop.OwnK.lower' {w : World} {base base' E k : Nat} {A : Option Addr} {n c : Nat} {l : List Value} (h : OwnK w base E k A n c l) (hb : base' ≤ base) : OwnK w base' E k A n c l := by
  refine ⟨h.row.1, ?_⟩
  rcases h.row.2 with h0 | ⟨g, cap, cur, hv, hbg, hg, r⟩
  · exact .inl h0
  · exact .inr ⟨g, cap, cur, hv, Nat.le_trans hb hbg, hg, r⟩
theorem PO.lower {B' : Nat} (h : PO w B A n c ps) (hb : B' ≤ B) : PO w B' A n c ps :=
  ⟨h.row.lower' hb, fun p hp => ⟨(h.each p hp).1.lower' hb, (h.each p hp).2⟩⟩
/-- a row of one's own stays but for other blocks -/
theorem _root_.Go.Coop.OwnV.but {gs : List Nat} {w w' : World} {base E : Nat} {A : Option Addr} {n c : Nat} {l : List Value} (h : OwnV w base E A n c l) (hb : But gs w w') (hn : ∀ j, A.map (·.block) = some j → j ∉ gs) : OwnV w' base E A n c l := by
  refine ⟨h.len, h.row.1, ?_⟩
  rcases h.row.2 with h0 | ⟨g, cap, cur, hv, hbg, hg, r⟩
  · exact .inl h0
  · injection hv with hA h2 h3
    subst hA h3
    exact .inr ⟨g, c, cur, rfl, hbg, hb.cells hg (hn g rfl), r⟩
theorem _root_.Go.Coop.OwnV.typ {w : World} {base E : Nat} {A : Option Addr} {n c : Nat} {l : List Value} (h : OwnV w base E A n c l) {j : Nat} (hj : A.map (·.block) = some j) : ∃ cur, w.heap[j]? = some (.cells cur E (0, 0)) := by
  rcases h.row.2 with ⟨hv, _⟩ | ⟨g, cap, cur, hv, hbg, hg, r⟩
  · injection hv with hA h2 h3
    subst hA
    cases hj
  · injection hv with hA h2 h3
    subst hA
    injection hj with hj
    subst hj
    exact ⟨cur, hg⟩
end
section
variable (w : World)
theorem clone_none (n c : Nat) : Calls Try.prog 51 #[.slice none n c] w fun e w' => e = .returned (.slice none 0 0) ∧ w = w' := by
  have q30 : ∀ (w : World) (a : Option Addr) (n c n' c' : Nat), (binOp .eql 28 (.slice a n c) (.slice none n' c')).run Try.prog w = .ok (.bool a.isNone) w := fun w a n c n' c' => Lib.run_eql_slice_nil w _ _ a n c n' c' Try.underlying28
  go_enter Try.func51, Try.ntmps51
  go_wp2
  go_ret
  exact ⟨rfl, rfl⟩
/-- a slice of ints in memory of its own -/
def Ints (w : World) (l : List Int) (e : Ending) (w' : World) : Prop := ∃ A c, e = .returned (.slice A l.length c) ∧ OwnV w' w.heap.size 3 A l.length c (l.map IV) ∧ Below w.heap.size w w'
theorem clone_is {A : Option Addr} {n c : Nat} {l : List Int} (h : RdV w A n (l.map IV)) (hm : n ≤ 1000000) : Calls Try.prog 51 #[.slice A n c] w (Ints w l) := by
  have hln : l.length = n := by simpa using h.len
  cases A with
  | none =>
    have h0 : n = 0 := by
      rcases Nat.eq_zero_or_pos n with h0 | h0
      · exact h0
      · obtain ⟨_, e, _⟩ := h.cells h0
        cases e
    have hl0 : l = [] := List.eq_nil_of_length_eq_zero (by omega)
    subst hl0
    exact (clone_none w n c).mono fun e w' ⟨he, hw⟩ => ⟨none, 0, he, OwnV.nil _ _ _, hw ▸ Below.refl _ _⟩
  | some a =>
    have q30 : ∀ (w : World) (a : Option Addr) (n c n' c' : Nat), (binOp .eql 28 (.slice a n c) (.slice none n' c')).run Try.prog w = .ok (.bool a.isNone) w := fun w a n c n' c' => Lib.run_eql_slice_nil w _ _ a n c n' c' Try.underlying28
    obtain ⟨i0, hi0, hz0, hz1, hz2⟩ := info_parts info3
    have HH := Lib.hid (And.intro h hln)
    have HI := Lib.hid (And.intro hi0 (And.intro hz0 (And.intro hz1 hz2)))
    clear h hln hi0 hz0 hz1 hz2
    go_enter Try.func51, Try.ntmps51
    go_wp2_with (at_builtin; refine wpList_append_own _ rfl _ _ 28 rfl w.heap.size 3 i0 (.int .i64 0) 1 8 Try.underlying28 HI.out.1 HI.out.2.1 HI.out.2.2.1 HI.out.2.2.2 rfl (by omega) _ _ _ rfl (World.ownsRow_made w #[] 0 (Nat.le_refl _) (Nat.zero_le _) (by simp)) a n c (l.map IV) rfl ?qc1 ?qc2 ?qc3 ?qc4 ?qc5 ?qc6 ?_)
    case qc1 => rw [List.length_map, HH.out.2, Nat.mul_one]
    case qc2 =>
      intro j u hj
      have hjl := (List.getElem?_eq_some_iff.1 hj).1
      obtain ⟨ad, e, _, hc⟩ := HH.out.1.cells (by rw [List.length_map, HH.out.2] at hjl; omega)
      injection e with e
      subst e
      exact Lib.cell?_alloc_some _ (hc j u hj)
    case qc3 => exact ivs_one l
    case qc4 => rw [Nat.zero_add]; unfold maxLen; omega
    case qc5 => rw [Nat.zero_add]; omega
    case qc6 => simp
    intro v' w1 hown hgrow hnil
    go_wp2
    go_ret
    have hown : w1.ownsRow w.heap.size 3 1 v' n (l.map IV) := by simpa using hown
    obtain ⟨A', c', rfl⟩ : ∃ A' c', v' = .slice A' n c' := by
      rcases hown.2 with ⟨rfl, h0⟩ | ⟨g, cap, cur, rfl, _⟩
      · exact ⟨none, 0, by rw [h0]⟩
      · exact ⟨_, _, rfl⟩
    refine ⟨A', c', by rw [HH.out.2]; rfl, ⟨by simp, by rw [HH.out.2]; exact hown⟩, ?_⟩
    exact ((Below.refl _ w).alloc (Nat.le_refl _) _).grown hgrow (by simp) (by intro k hk; simp [Value.ownBlock] at hk; omega)
theorem box_new {w w1 : World} {o : Obj} (h : w.alloc o = w1) : Below w.heap.size w w1 ∧ w1.heap[w.heap.size]? = some o := by
  subst h
  exact ⟨(Below.refl _ _).alloc (Nat.le_refl _) _, heap_alloc_new _ _⟩
theorem two30 {w : World} {b : Nat} {x0 x1 : Value} {T : TypeId} (h : w.heap[b]? = some (.cells #[x0, x1] T (0, 0))) : (w.cell? ⟨b, 0, none⟩ = some x0 ∧ w.cell? ⟨b, 1, none⟩ = some x1) ∧ w.frozen? ⟨b, 0, none⟩ = false ∧ w.frozen? ⟨b, 1, none⟩ = false :=
  ⟨⟨cell_of_row _ b 0 _ T (0, 0) h, cell_of_row _ b 1 _ T (0, 0) h⟩, frozen_of_row w b 0 _ T h, frozen_of_row w b 1 _ T h⟩
theorem row2 {w : World} {b : Nat} {T : TypeId} {x0 x1 v0 v1 : Value} (h : w.heap[b]? = some (.cells #[x0, x1] T (0, 0))) : ((w.setCell ⟨b, 0, none⟩ v0).setCell ⟨b, 1, none⟩ v1).heap[b]? = some (.cells #[v0, v1] T (0, 0)) := by
  have h1 := heap_setCell_same w b 0 _ T v0 h
  exact heap_setCell_same _ b 1 _ T v1 h1
/-- one placement in memory of its own -/
def Alone (w : World) (e0 : Int) (l : List Int) (e : Ending) (w' : World) : Prop := ∃ A c, e = .returned (.agg #[.int .i64 e0, .slice A l.length c]) ∧ OwnV w' w.heap.size 3 A l.length c (l.map IV) ∧ Below w.heap.size w w'
theorem alone_is {A : Option Addr} {n c : Nat} {l : List Int} (ep : Int) (h : RdV w A n (l.map IV)) (hm : n ≤ 1000000) : Calls Try.prog 44 #[.agg #[.int .i64 ep, .slice A n c]] w (Alone w ep l) := by
  obtain ⟨w1, hw1⟩ : ∃ v, w.alloc (.cells #[.int .i64 ep, .slice A n c] 30) = v := ⟨_, rfl⟩
  obtain ⟨w2, hw2⟩ : ∃ v, w1.alloc (.cells #[.int .i64 0, .slice none 0 0] 30) = v := ⟨_, rfl⟩
  obtain ⟨hb1, hx1⟩ := box_new hw1
  obtain ⟨hb2, hx2⟩ := box_new hw2
  obtain ⟨b, hb⟩ : ∃ b, w.heap.size = b := ⟨_, rfl⟩
  obtain ⟨b2, hbb⟩ : ∃ b, w1.heap.size = b := ⟨_, rfl⟩
  have hlt : b < b2 := by rw [← hb, ← hbb]; exact (Array.getElem?_eq_some_iff.1 hx1).1
  have hx12 := (hb2.block _ (Array.getElem?_eq_some_iff.1 hx1).1).trans hx1
  rw [hb] at hx12
  rw [hbb] at hx2
  have hB2 := hb1.trans (hb2.mono hb1.size)
  have hR := h.below hB2 (Nat.le_refl _)
  have hne : b2 ≠ b := by omega
  have hne' : b ≠ b2 := by omega
  have hb2l : b2 < w2.heap.size := (Array.getElem?_eq_some_iff.1 hx2).1
  obtain ⟨⟨m0, m1⟩, fm0, fm1⟩ := two30 hx12
  obtain ⟨⟨p0, p1⟩, fp0, fp1⟩ := two30 hx2
  have HE := Lib.hid (And.intro hR (And.intro hB2 (And.intro hx12 (And.intro hx2 (And.intro hb (And.intro hb2l (And.intro hlt hm)))))))
  clear h hR hB2 hx12 hx2 hlt hm hx1 hb1 hb2 hb2l
  go_enter Try.func44, Try.ntmps44
  go_wp2
  (try rw [hw1]); (try rw [hw2]); (try rw [hb]); (try rw [hbb])
  clear hw1 hw2 hb hbb
  go_region_with (go_at_call 51; (with_reducible refine (clone_is _ (HE.out.1.drew) HE.out.2.2.2.2.2.2.2).mono ?_); rintro e w3 ⟨A3, c3, rfl, ho3, hb3⟩; obtain ⟨⟨n0, n1⟩, gm0, gm1⟩ := two30 ((hb3.block _ (Array.getElem?_eq_some_iff.1 HE.out.2.2.1).1).trans HE.out.2.2.1); obtain ⟨⟨r0, r1⟩, gp0, gp1⟩ := two30 ((hb3.block _ HE.out.2.2.2.2.2.1).trans HE.out.2.2.2.1))
  all_goals (try go_wp2)
  all_goals
    obtain ⟨q1, q2, q3, q4, q5, q6, q7, q8⟩ := HE.out
    have hx3 := (hb3.block _ q6).trans q4
    have hw := row2 (v0 := .int .i64 ep) (v1 := .slice A3 l.length c3) hx3
    refine bodyPost_ret (v := .agg #[.int .i64 ep, .slice A3 l.length c3]) (results_cell_row rfl _ _ b2 30 _ (0, 0) _ rfl hw Try.underlying30 rfl (by kernel_rfl)) rfl ⟨A3, c3, rfl, ?_, ?_⟩
    · have hbt : But [b2] w3 ((w3.setCell ⟨b2, 0, none⟩ (.int .i64 ep)).setCell ⟨b2, 1, none⟩ (.slice A3 l.length c3)) := ((But.refl _ _).setCell (by simp) _).setCell (by simp) _
      refine (ho3.but hbt fun j hj hm => ?_).lower' (by simpa using q2.size)
      have h1 := (ho3.block j hj).1
      simp at hm h1
      omega
    · exact (((q2.drew).trans (hb3.mono (by simpa using q2.size))).setCell (by simp; omega) _).setCell (by simp; omega) _
end
end Go.Proofs.Ytbilbfjmfaignaa
