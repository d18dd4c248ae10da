/- Lists of answers in memory; finds of one's own; the laws' told, begun. -/
import Derived.Test.YtkkpfehgobanbaaFndH
namespace Go.Proofs.Ytkkpfehgobanbaa
open Go.RowKit Go.Coop
set_option maxRecDepth 100000
theorem addr_succ2 (a : Addr) (j : Nat) : a.add (j + 2) = ⟨(a.add j).block, (a.add j).off + 2, none⟩ := by
  rw [show j + 2 = (j + 1) + 1 from rfl, addr_succ, addr_succ]
theorem addr_succ3 (a : Addr) (j : Nat) : a.add (j + 3) = ⟨(a.add j).block, (a.add j).off + 3, none⟩ := by
  rw [show j + 3 = (j + 2) + 1 from rfl, addr_succ, addr_succ2]
/-- an answer, and where its bytes lie -/
structure _root_.Go.Coop.OpF where
  lost : Bool
  ix : Int
  e : Int
  b : List UInt8
  B : Option Addr
  d : Nat
def _root_.Go.Coop.OpF.cells (o : OpF) : List Value := [.bool o.lost, .int .i64 o.ix, .int .i64 o.e, .slice o.B o.b.length o.d]
def ocs (l : List OpF) : List Value := l.flatMap OpF.cells
theorem ocs_get : ∀ {l : List OpF} {i : Nat} {x : OpF} {j : Nat} {v : Value}, l[i]? = some x → x.cells[j]? = some v → (ocs l)[i * 4 + j]? = some v
  | [], i, p, j, v, h, _ => by simp at h
  | q :: ps, 0, p, j, v, h, hj => by
    simp at h
    subst h
    have : j < q.cells.length := (List.getElem?_eq_some_iff.1 hj).1
    simp only [ocs, List.flatMap_cons]
    rw [Nat.zero_mul, Nat.zero_add, List.getElem?_append_left this, hj]
  | q :: ps, i + 1, p, j, v, h, hj => by
    have := ocs_get (l := ps) (i := i) (by simpa using h) hj
    simp only [ocs, List.flatMap_cons] at this ⊢
    have hl : q.cells.length = 4 := rfl
    rw [List.getElem?_append_right (by rw [hl]; omega), hl, show (i + 1) * 4 + j - 4 = i * 4 + j by omega, this]
/-- the slice at F of m elements reads as these answers -/
structure OpsF (w : World) (F : Option Addr) (m : Nat) (os : List OpF) : Prop where
  len : os.length = m
  at_ : ∀ (i : Nat) (o : OpF), os[i]? = some o → (∃ ad, F = some ad ∧ ad.block < w.heap.size ∧ ∀ j v, o.cells[j]? = some v → w.cell? (ad.add (i * 4 + j)) = some v) ∧ Rd w o.B o.b.length o.b
theorem OpsF.below {w w' : World} {F : Option Addr} {m : Nat} {os : List OpF} {B : Nat} (h : OpsF w F m os) (hb : Below B w w') (hB : w.heap.size ≤ B) : OpsF w' F m os :=
  ⟨h.len, fun i o hi => by
    obtain ⟨⟨ad, h2, h3, h4⟩, h5⟩ := h.at_ i o hi
    exact ⟨⟨ad, h2, Nat.lt_of_lt_of_le h3 hb.size, fun j v hj => (hb.cell (by rw [addr_add_block]; omega)).trans (h4 j v hj)⟩, h5.below hb hB⟩⟩
theorem OpsF.of {w : World} {F : Option Addr} {m : Nat} {os : List OpF} (h : RdV w F (m * 4) (ocs os)) (hl : os.length = m) (hr : ∀ o ∈ os, Rd w o.B o.b.length o.b) : OpsF w F m os :=
  ⟨hl, fun i o hi => by
    have h0 := (List.getElem?_eq_some_iff.1 hi).1
    obtain ⟨ad, e, h1, h2⟩ := h.cells (by omega)
    exact ⟨⟨ad, e, h1, fun j v hj => h2 _ _ (ocs_get hi hj)⟩, hr o (List.mem_of_getElem? hi)⟩⟩
/-- an answer at its place, at this world and behind it -/
def StepF (wr : World) (ad : Addr) (o : OpF) : Prop := ∀ v, Below wr.heap.size wr v → v.cell? ad = some (.bool o.lost) ∧ v.cell? ⟨ad.block, ad.off + 1, none⟩ = some (.int .i64 o.ix) ∧ v.cell? ⟨ad.block, ad.off + 2, none⟩ = some (.int .i64 o.e) ∧ v.cell? ⟨ad.block, ad.off + 3, none⟩ = some (.slice o.B o.b.length o.d)
theorem OpsF.step {w : World} {F : Option Addr} {m : Nat} {os : List OpF} (h : OpsF w F m os) {i : Nat} (hi : i < m) : ∃ o ad, os[i]? = some o ∧ F = some ad ∧ StepF w (ad.add (i * 4)) o ∧ Rd w o.B o.b.length o.b := by
  have hl := h.len
  obtain ⟨o, ho⟩ : ∃ o, os[i]? = some o := ⟨_, List.getElem?_eq_getElem (by omega)⟩
  obtain ⟨⟨ad, h2, h3, h4⟩, h5⟩ := h.at_ i o ho
  have c0 := h4 0 _ rfl
  have c1 := h4 1 _ rfl
  have c2 := h4 2 _ rfl
  have c3 := h4 3 _ rfl
  rw [Nat.add_zero] at c0
  rw [addr_succ] at c1
  rw [addr_succ2] at c2
  rw [addr_succ3] at c3
  refine ⟨o, ad, ho, h2, fun v hv => ?_, h5⟩
  exact ⟨(hv.cell (block_lt_of_cell c0)).trans c0, (hv.cell (block_lt_of_cell c1)).trans c1, (hv.cell (block_lt_of_cell c2)).trans c2, (hv.cell (block_lt_of_cell c3)).trans c3⟩
/-- the bounds that a find's lists keep -/
structure _root_.Go.Coop.Fq.Ok (r : Fq) : Prop where
  ma : r.ms.length ≤ 1000000
  wa : r.ws.length ≤ 1000000
  ba : r.bs.length ≤ 1000000
  sm : ∀ x ∈ r.bs, x.length ≤ 140737488355328
theorem told_ok {r : Fq} (h : r.Ok) (i e : Int) {l : List UInt8} (hl : l.length ≤ 140737488355328) : (r.told i e l).1.Ok := by
  unfold Fq.told
  split
  · rename_i hH
    split
    · split
      · have h1 := hH.1.ws
        have h2 := hH.1.bs
        have h3 := ixs_len 1 r.ms
        have h4 := hH.1.may.2.2.1
        refine ⟨?_, ?_, ?_, ?_⟩
        · show (r.ms.set _ _).length ≤ _; rw [List.length_set]; exact h.ma
        · show (r.ws ++ _).length ≤ _; simp; omega
        · show (r.bs ++ _).length ≤ _; simp; omega
        · intro x hx
          have hx : x ∈ r.bs ++ [l] := hx
          rcases List.mem_append.1 hx with h5 | h5
          · exact h.sm x h5
          · simp at h5; subst h5; exact hl
      · exact ⟨by show (r.ms.set _ _).length ≤ _; rw [List.length_set]; exact h.ma, h.wa, h.ba, h.sm⟩
    · exact h
  · exact h
theorem lose_ok {r : Fq} (h : r.Ok) (i : Int) : (r.lose i).1.Ok := by
  unfold Fq.lose
  split
  · split
    · exact ⟨by show (r.ms.set _ _).length ≤ _; rw [List.length_set]; exact h.ma, h.wa, h.ba, h.sm⟩
    · exact h
  · exact h
theorem begin_ok (s v n d : Int) : (beginF s v n d).1.Ok := by
  unfold beginF
  split
  · rename_i h
    exact ⟨by have := h.2.2.1; simp; omega, by simp, by simp, by simp⟩
  · exact ⟨by simp, by simp, by simp, by simp⟩
/-- a find in memory of its own -/
structure FW (w : World) (r : Fq) (A : Option Addr) (c : Nat) (B : Option Addr) (d : Nat) (C : Option Addr) (k : Nat) : Prop where
  oa : OwnV w 0 3 A r.ms.length c (r.ms.map IV)
  ob : OwnV w 0 3 B r.ws.length d (r.ws.map IV)
  oc : MO w 0 0 C r.bs.length k r.bs
theorem FW.below {w w' : World} {r : Fq} {A : Option Addr} {c : Nat} {B : Option Addr} {d : Nat} {C : Option Addr} {k : Nat} (h : FW w r A c B d C k) (hb : Below w.heap.size w w') : FW w' r A c B d C k := ⟨h.oa.below hb (Nat.le_refl _), h.ob.below hb (Nat.le_refl _), h.oc.below hb (Nat.le_refl _)⟩
theorem FW.fr {w : World} {r : Fq} {A : Option Addr} {c : Nat} {B : Option Addr} {d : Nat} {C : Option Addr} {k : Nat} (h : FW w r A c B d C k) (hk : r.Ok) : FR w A r.ms.length r.ms B r.ws.length r.ws C r.bs.length r.bs := ⟨h.oa.rd, h.ob.rd, h.oc.mr, hk.sm, hk.ma, hk.wa, hk.ba⟩
theorem FW.but {w w' : World} {r : Fq} {A : Option Addr} {c : Nat} {B : Option Addr} {d : Nat} {C : Option Addr} {k b : Nat} {cs : Array Value} {T : TypeId} (h : FW w r A c B d C k) (hb : Go.Coop.But [b] w w') (hx : w.heap[b]? = some (.cells cs T (0, 0))) (hT : T ≠ 3 ∧ T ≠ 35 ∧ T ≠ 5) : FW w' r A c B d C k := by
  have hn : ∀ {X : Option Addr} {n c E : Nat} {l : List Value}, OwnV w 0 E X n c l → T ≠ E → ∀ i, X.map (·.block) = some i → i ∉ [b] := fun ho hE i hi hm => by
    obtain ⟨cur, hc⟩ := ho.typ hi
    simp at hm
    subst hm
    rw [hc] at hx
    injection hx with hx
    injection hx with _ hx _
    exact hE hx.symm
  obtain ⟨vs, hv, _⟩ := h.oc.out
  refine ⟨h.oa.but hb (hn h.oa hT.1), h.ob.but hb (hn h.ob hT.1), mo_but h.oc hb (hn hv hT.2.1) (fun i cur hi _ hm => ?_)⟩
  simp at hm
  subst hm
  rw [hi] at hx
  injection hx with hx
  injection hx with _ hx _
  exact hT.2.2 hx.symm
/-- a box that holds a find -/
structure BF (w : World) (b : Nat) (r : Fq) (A : Option Addr) (c : Nat) (B : Option Addr) (d : Nat) (C : Option Addr) (k : Nat) : Prop where
  row : w.heap[b]? = some (.cells #[.int .i64 r.s, .int .i64 r.v, .int .i64 r.need, .int .i64 r.ph, .slice A r.ms.length c, .slice B r.ws.length d, .slice C r.bs.length k] 27 (0, 0))
  fw : FW w r A c B d C k
theorem BF.below {w w' : World} {b : Nat} {r : Fq} {A : Option Addr} {c : Nat} {B : Option Addr} {d : Nat} {C : Option Addr} {k : Nat} (h : BF w b r A c B d C k) (hb : Below w.heap.size w w') : BF w' b r A c B d C k := ⟨(hb.block _ (lt_of_block h.row)).trans h.row, h.fw.below hb⟩
theorem BF.new {w w' : World} {r : Fq} {A : Option Addr} {c : Nat} {B : Option Addr} {d : Nat} {C : Option Addr} {k b : Nat} (h : FW w r A c B d C k) (hw : w.alloc (.cells #[.int .i64 r.s, .int .i64 r.v, .int .i64 r.need, .int .i64 r.ph, .slice A r.ms.length c, .slice B r.ws.length d, .slice C r.bs.length k] 27) = w') (hb : w.heap.size = b) : BF w' b r A c B d C k ∧ Below w.heap.size w w' := by
  obtain ⟨h1, h2⟩ := box_mk hw
  rw [hb] at h2
  exact ⟨⟨h2, h.below h1⟩, h1⟩
/-- the box is written -/
theorem BF.set {w w' : World} {b : Nat} {r : Fq} {A : Option Addr} {c : Nat} {B : Option Addr} {d : Nat} {C : Option Addr} {k : Nat} {x0 x1 x2 x3 x4 x5 x6 : Value} (hx : w.heap[b]? = some (.cells #[x0, x1, x2, x3, x4, x5, x6] 27 (0, 0))) (h : FW w r A c B d C k) (hw : set7 w b (.int .i64 r.s) (.int .i64 r.v) (.int .i64 r.need) (.int .i64 r.ph) (.slice A r.ms.length c) (.slice B r.ws.length d) (.slice C r.bs.length k) = w') : BF w' b r A c B d C k ∧ Go.Coop.But [b] w w' := by
  subst hw
  exact ⟨⟨row7 hx, h.but (but7 _ _ _ _ _ _ _ _ _) hx ⟨by decide, by decide, by decide⟩⟩, but7 _ _ _ _ _ _ _ _ _⟩
/-- other boxes stay -/
theorem BF.but {w w' : World} {b g : Nat} {r : Fq} {A : Option Addr} {c : Nat} {B : Option Addr} {d : Nat} {C : Option Addr} {k : Nat} {cs : Array Value} {T : TypeId} (h : BF w b r A c B d C k) (hb : Go.Coop.But [g] w w') (hx : w.heap[g]? = some (.cells cs T (0, 0))) (hT : T ≠ 3 ∧ T ≠ 35 ∧ T ≠ 5) (hne : b ≠ g) : BF w' b r A c B d C k := ⟨hb.cells h.row (by simp; exact hne), h.fw.but hb hx hT⟩
theorem BF.cells {w : World} {b : Nat} {r : Fq} {A : Option Addr} {c : Nat} {B : Option Addr} {d : Nat} {C : Option Addr} {k : Nat} (h : BF w b r A c B d C k) : (w.cell? ⟨b, 0, none⟩ = some (.int .i64 r.s) ∧ w.cell? ⟨b, 1, none⟩ = some (.int .i64 r.v) ∧ w.cell? ⟨b, 2, none⟩ = some (.int .i64 r.need) ∧ w.cell? ⟨b, 3, none⟩ = some (.int .i64 r.ph) ∧ w.cell? ⟨b, 4, none⟩ = some (.slice A r.ms.length c) ∧ w.cell? ⟨b, 5, none⟩ = some (.slice B r.ws.length d) ∧ w.cell? ⟨b, 6, none⟩ = some (.slice C r.bs.length k)) ∧ b < w.heap.size := seven h.row
/-- a find of its own, and an error, are told -/
def TwoW (w : World) (Q : Fq) (E : Int) (e : Ending) (w' : World) : Prop := ∃ A c B d C k, e = .returned (.tuple #[.agg #[.int .i64 Q.s, .int .i64 Q.v, .int .i64 Q.need, .int .i64 Q.ph, .slice A Q.ms.length c, .slice B Q.ws.length d, .slice C Q.bs.length k], .int .i64 E]) ∧ FW w' Q A c B d C k ∧ Below w.heap.size w w'
theorem TwoF.tw {w : World} {Q : Fq} {E : Int} {e : Ending} {w' : World} (h : TwoF w (Q, E) e w') : TwoW w Q E e w' := by
  obtain ⟨A, c, B, d, C, k, he, oa, ob, oc, _, hb⟩ := h
  exact ⟨A, c, B, d, C, k, he, ⟨oa.lower' (Nat.zero_le _), ob.lower' (Nat.zero_le _), oc.lower (Nat.zero_le _) (Nat.zero_le _)⟩, hb⟩
/-- Told at a find of one's own -/
theorem told_q (w : World) (r : Fq) {A : Option Addr} {c : Nat} {B : Option Addr} {d : Nat} {C : Option Addr} {k : Nat} (h : FW w r A c B d C k) (hk : r.Ok) (i e : Int) {X : Option Addr} {xl xd : Nat} {l : List UInt8} (hx : Rd w X xl l) (hxl : xl ≤ 140737488355328) {Q : Fq} {E : Int} (hQ : r.told i e l = (Q, E)) : Calls Try.prog 10 #[.agg #[.int .i64 r.s, .int .i64 r.v, .int .i64 r.need, .int .i64 r.ph, .slice A r.ms.length c, .slice B r.ws.length d, .slice C r.bs.length k], .int .i64 i, .int .i64 e, .slice X xl xd] w (TwoW w Q E) :=
  (told_is w r.s r.v r.need r.ph i e (h.fr hk) hx hxl hQ).mono fun _ _ h => h.tw
/-- answers, one behind the other -/
def toldA (p : Fq × Bool) (o : OpF) : Fq × Bool := ((p.1.told o.ix o.e o.b).1, p.2 && ((p.1.told o.ix o.e o.b).2 == 0))
def toldL (r : Fq) (l : List OpF) : Fq × Bool := l.foldl toldA (r, true)
theorem toldL_take {r : Fq} {l : List OpF} {j : Nat} {x : OpF} (h : l[j]? = some x) : toldL r (l.take (j + 1)) = toldA (toldL r (l.take j)) x := by
  unfold toldL
  rw [List.take_add_one, h]
  simp
/-- a find of its own, and a truth, are told -/
def TwoB (w : World) (Q : Fq) (z : Bool) (e : Ending) (w' : World) : Prop := ∃ A c B d C k, e = .returned (.tuple #[.agg #[.int .i64 Q.s, .int .i64 Q.v, .int .i64 Q.need, .int .i64 Q.ph, .slice A Q.ms.length c, .slice B Q.ws.length d, .slice C Q.bs.length k], .bool z]) ∧ FW w' Q A c B d C k ∧ Below w.heap.size w w'
section
variable (w : World)
set_option maxHeartbeats 4000000 in
theorem ltold_is (r : Fq) {A : Option Addr} {c : Nat} {B : Option Addr} {d : Nat} {C : Option Addr} {k : Nat} (h : FW w r A c B d C k) (hk : r.Ok) {F : Option Addr} {m cF : Nat} {os : List OpF} (hF : OpsF w F m os) (hm : m ≤ 1000000) (hs : ∀ o ∈ os, o.b.length ≤ 140737488355328) {Q : Fq} {z : Bool} (hQ : toldL r os = (Q, z)) : Calls Try.prog 11 #[.agg #[.int .i64 r.s, .int .i64 r.v, .int .i64 r.need, .int .i64 r.ph, .slice A r.ms.length c, .slice B r.ws.length d, .slice C r.bs.length k], .slice F m cF] w (TwoB w Q z) := by
  obtain ⟨w1, hw1⟩ : ∃ z, w.alloc (.cells #[.int .i64 r.s, .int .i64 r.v, .int .i64 r.need, .int .i64 r.ph, .slice A r.ms.length c, .slice B r.ws.length d, .slice C r.bs.length k] 27) = z := ⟨_, rfl⟩
  obtain ⟨w2, hw2⟩ : ∃ z, w1.alloc (.cells #[.int .i64 0, .int .i64 0, .int .i64 0, .int .i64 0, .slice none 0 0, .slice none 0 0, .slice none 0 0] 27) = z := ⟨_, rfl⟩
  obtain ⟨b, hb⟩ : ∃ b, w.heap.size = b := ⟨_, rfl⟩
  obtain ⟨b2, hbb⟩ : ∃ b, w1.heap.size = b := ⟨_, rfl⟩
  obtain ⟨hf1, hb1⟩ := BF.new h hw1 hb
  obtain ⟨hb2, hx2⟩ := box_mk hw2
  rw [hbb] at hx2
  have HB2 := Lib.hid (hf1.below hb2)
  have HZ2 := Lib.hid hx2
  have HW2 := Lib.hid (hb1.trans (hb2.mono hb1.size))
  have HF := Lib.hid hF
  have HLT : Hid (b < b2 ∧ w.heap.size = b) := ⟨by rw [← hbb]; exact lt_of_block hf1.row, hb⟩
  have HK := Lib.hid hk
  have HQ := Lib.hid hQ
  have HSM := Lib.hid hs
  clear h hk hF hs hQ hf1 hb1 hb2 hx2
  go_enter Try.func11, Try.ntmps11
  go_wp2
  (try rw [hw1]); (try rw [hw2]); (try rw [hb]); (try rw [hbb])
  clear hw1 hw2 hb hbb
  go_loopg [6, 8, 9, 12] m (fun kx s6 _ _ s12 wr => ∃ (j : Nat) (R : Fq) (ok : Bool) (A1 : Option Addr) (c1 : Nat) (B1 : Option Addr) (d1 : Nat) (C1 : Option Addr) (k1 : Nat), j ≤ m ∧ m - j ≤ kx ∧ s12 = .int .i64 (j : Int) ∧ s6 = .bool ok ∧ Hid (BF wr b R A1 c1 B1 d1 C1 k1) ∧ Hid (wr.heap[b2]? = some (.cells #[.int .i64 0, .int .i64 0, .int .i64 0, .int .i64 0, .slice none 0 0, .slice none 0 0, .slice none 0 0] 27 (0, 0))) ∧ Hid (toldL r (os.take j) = (R, ok)) ∧ Hid R.Ok ∧ Hid (Below w.heap.size w wr))
  case atStart => exact ⟨0, r, true, A, c, B, d, C, k, Nat.zero_le _, by omega, rfl, rfl, HB2, HZ2, (by simp [toldL] : toldL r (os.take 0) = (r, true)), HK, HW2⟩
  case round =>
    obtain ⟨j, R, ok, A1, c1, B1, d1, C1, k1, hj, hkx, rfl, rfl, HB, HZ, HT, HO, HW⟩ := hrel
    clear HB2 HZ2 HW2 HK
    by_cases hlt : j < m
    · obtain ⟨o, ad, ho, hFa, hst, hrd⟩ := HF.out.step hlt
      subst hFa
      obtain ⟨i0, i1, i2, i3⟩ := (fun v hv => hst v hv : StepF w (ad.add (j * 4)) o) wr HW.out
      have HRD := Lib.hid hrd
      have HOO := Lib.hid (And.intro ho hlt)
      have HXL := Lib.hid (HSM.out o (List.mem_of_getElem? ho))
      have hi1 : (0 : Int) ≤ (j : Int) := by omega
      have hi2 : (j : Int) < (m : Int) := by omega
      have hwj : IntKind.i64.wrap ((j : Int) + 1) = (j : Int) + 1 := IntWalk.i64_in _ (by omega)
      clear hst hrd ho hlt
      obtain ⟨b8, hb8⟩ : ∃ z, wr.heap.size = z := ⟨_, rfl⟩
      obtain ⟨w8, hw8⟩ : ∃ z, wr.alloc (.cells #[.bool o.lost, .int .i64 o.ix, .int .i64 o.e, .slice o.B o.b.length o.d] 37) = z := ⟨_, rfl⟩
      obtain ⟨hbb8, hx8⟩ := box_mk hw8
      rw [hb8] at hx8
      have HB8 := Lib.hid (HB.out.below hbb8)
      have HZ8 := Lib.hid ((hbb8.block _ (lt_of_block HZ.out)).trans HZ.out)
      have HW8 := Lib.hid (HW.out.trans (hbb8.mono HW.out.size))
      obtain ⟨q0, q1, q2, q3⟩ : w8.cell? ⟨b8, 0, none⟩ = some (.bool o.lost) ∧ w8.cell? ⟨b8, 1, none⟩ = some (.int .i64 o.ix) ∧ w8.cell? ⟨b8, 2, none⟩ = some (.int .i64 o.e) ∧ w8.cell? ⟨b8, 3, none⟩ = some (.slice o.B o.b.length o.d) := ⟨cell_of_row _ b8 0 _ 37 (0, 0) hx8, cell_of_row _ b8 1 _ 37 (0, 0) hx8, cell_of_row _ b8 2 _ 37 (0, 0) hx8, cell_of_row _ b8 3 _ 37 (0, 0) hx8⟩
      obtain ⟨⟨f0, f1, f2, f3, f4, f5, f6⟩, fbl⟩ := HB8.out.cells
      clear hbb8 hx8
      go_wp2_with fail
      (try rw [hw8]); (try rw [hb8])
      clear hw8 hb8
      obtain ⟨P, hP⟩ : ∃ P, R.told o.ix o.e o.b = P := ⟨_, rfl⟩
      obtain ⟨R2, E2⟩ := P
      have HP := Lib.hid hP
      clear hP
      refine (told_q w8 R HB8.out.fw HO.out o.ix o.e (HRD.out.below HW8.out (Nat.le_refl _)) HXL.out HP.out).mono ?_
      rintro e' w9 ⟨A2, c2, B2, d2, C2, k2, rfl, hf9, hb9⟩
      have HF9 := Lib.hid hf9
      have HB9 := Lib.hid (HB8.out.below hb9)
      have HZ9 := Lib.hid ((hb9.block _ (lt_of_block HZ8.out)).trans HZ8.out)
      have HW9 := Lib.hid (HW8.out.trans (hb9.mono HW8.out.size))
      clear hf9 hb9 f0 f1 f2 f3 f4 f5 f6 fbl q0 q1 q2 q3 i0 i1 i2 i3
      obtain ⟨⟨f0, f1, f2, f3, f4, f5, f6⟩, fbl⟩ := HB9.out.cells
      obtain ⟨t0, t1, t2, t3, t4, t5, t6⟩ := thaw7 HB9.out.row
      obtain ⟨wz, hwz⟩ : ∃ z, set7 w9 b (.int .i64 R2.s) (.int .i64 R2.v) (.int .i64 R2.need) (.int .i64 R2.ph) (.slice A2 R2.ms.length c2) (.slice B2 R2.ws.length d2) (.slice C2 R2.bs.length k2) = z := ⟨_, rfl⟩
      obtain ⟨hbz, hbt⟩ := BF.set HB9.out.row HF9.out hwz
      have HBZ := Lib.hid hbz
      have HZZ := Lib.hid (hbt.cells HZ9.out (by have := HLT.out.1; simp; omega))
      have HWZ := Lib.hid (HW9.out.trans (hbt.below (B := w.heap.size) HW9.out.size (by intro i hi; simp at hi; have := HLT.out.2; omega)))
      have HOZ : Hid R2.Ok := by show R2.Ok; have h0 := told_ok HO.out o.ix o.e HXL.out; rw [HP.out] at h0; exact h0
      have HTZ : Hid (toldL r (os.take (j + 1)) = (R2, ok && (E2 == 0))) := by show _ = _; rw [toldL_take HOO.out.1, HT.out]; unfold toldA; rw [HP.out]
      unfold set7 at hwz
      clear hbz hbt
      cases ok with
      | false =>
        go_wp2
        (try rw [hwz])
        go_roundg (m - (j + 1))
        case measure => have := HOO.out.2; omega
        case rel => exact ⟨j + 1, R2, false, A2, c2, B2, d2, C2, k2, by have := HOO.out.2; omega, by omega, by go_num, rfl, HBZ, HZZ, by simpa using HTZ, HOZ, HWZ⟩
      | true =>
        obtain ⟨ee, hee⟩ : ∃ z, (E2 == 0) = z := ⟨_, rfl⟩
        have HEE := Lib.hid hee
        rw [hee] at HTZ
        go_wp2
        (try rw [hwz])
        go_roundg (m - (j + 1))
        case measure => have := HOO.out.2; omega
        case rel => exact ⟨j + 1, R2, ee, A2, c2, B2, d2, C2, k2, by have := HOO.out.2; omega, by omega, by go_num, by first | rfl | rw [HEE.out], HBZ, HZZ, by simpa using HTZ, HOZ, HWZ⟩
    · obtain rfl : j = m := by omega
      have ht := HT.out
      rw [List.take_of_length_le (by have := HF.out.len; omega), HQ.out] at ht
      injection ht with ht1 ht2
      subst ht1 ht2
      obtain ⟨⟨f0, f1, f2, f3, f4, f5, f6⟩, fbl⟩ := HB.out.cells
      obtain ⟨⟨r0, r1, r2, r3, r4, r5, r6⟩, rbl⟩ := seven HZ.out
      obtain ⟨y0, y1, y2, y3, y4, y5, y6⟩ := thaw7 HZ.out
      go_wp2
      obtain ⟨hbz, hbt⟩ := BF.set (A := A1) (c := c1) (B := B1) (d := d1) (C := C1) (k := k1) (r := Q) HZ.out HB.out.fw rfl
      have hw := hbz.row
      have hT : TwoB w Q z (.returned (.tuple #[.agg #[.int .i64 Q.s, .int .i64 Q.v, .int .i64 Q.need, .int .i64 Q.ph, .slice A1 Q.ms.length c1, .slice B1 Q.ws.length d1, .slice C1 Q.bs.length k1], .bool z])) _ := ⟨A1, c1, B1, d1, C1, k1, rfl, hbz.fw, HW.out.trans (hbt.below (B := w.heap.size) HW.out.size (by intro i hi; simp at hi; have := HLT.out; omega))⟩
      unfold set7 at hw hT
      refine bodyPost_ret (v := .tuple #[.agg #[.int .i64 Q.s, .int .i64 Q.v, .int .i64 Q.need, .int .i64 Q.ph, .slice A1 Q.ms.length c1, .slice B1 Q.ws.length d1, .slice C1 Q.bs.length k1], .bool z]) ?_ rfl hT
      rw [results_cell_tmp rfl]
      simp [asAddr, Result.andThen, loadv27 hw]
end
def manyOf (n : Int) : Nat := (1 + n % 10).toNat
def needOf (n d : Int) : Int := 1 + d % (1 + n % 10)
theorem manyOf_b {n : Int} : (manyOf n : Int) = 1 + n % 10 ∧ 1 ≤ manyOf n ∧ manyOf n ≤ 10 := by
  unfold manyOf
  omega
theorem needOf_b {n d : Int} : 1 ≤ needOf n d ∧ needOf n d ≤ (manyOf n : Int) := by
  have h1 := manyOf_b (n := n)
  unfold needOf
  have h2 := Int.emod_nonneg d (show 1 + n % 10 ≠ 0 by omega)
  have h3 := Int.emod_lt_of_pos d (show 0 < 1 + n % 10 by omega)
  omega
def Bg (n d : Int) : Fq := ⟨5, 9, needOf n d, 1, List.replicate (manyOf n) 0, [], []⟩
theorem bg_eq (n d : Int) : beginF 5 9 (manyOf n) (needOf n d) = (Bg n d, 0) := by
  have h1 := manyOf_b (n := n)
  have h2 := needOf_b (n := n) (d := d)
  unfold beginF
  rw [if_pos (by unfold MayF; omega), Int.toNat_natCast]
  rfl
theorem bg_ok (n d : Int) : (Bg n d).Ok := by have h := begin_ok 5 9 (manyOf n) (needOf n d); rw [bg_eq] at h; exact h
theorem results_cell_tmp_2 {fn : Func} {p u v : Tmp} {ty : TypeId} (h : fn.results = #[.cell p ty, .tmp u, .tmp v]) (tmps : Array Value) (P : Program) (w : World) :
    (results fn tmps).run P w =
      ((asAddr (tmps.getD p undef)).run P w).andThen fun a w₁ => ((loadVar ty a).run P w₁).andThen fun y w₂ => .ok (.tuple #[y, tmps.getD u undef, tmps.getD v undef]) w₂ := by
  simp only [results, h]
  simp [Sem.run_bind, Result.andThen]
/-- a find, how many, and a truth -/
def Begun (w : World) (Q : Fq) (n : Nat) (e : Ending) (w' : World) : Prop := ∃ A c B d C k, e = .returned (.tuple #[.agg #[.int .i64 Q.s, .int .i64 Q.v, .int .i64 Q.need, .int .i64 Q.ph, .slice A Q.ms.length c, .slice B Q.ws.length d, .slice C Q.bs.length k], .int .i64 (n : Int), .bool true]) ∧ FW w' Q A c B d C k ∧ Below w.heap.size w w'
section
variable (w : World)
set_option maxHeartbeats 4000000 in
theorem begun_is (n d : Int) (hn : 0 ≤ n ∧ n ≤ 255) (hd : 0 ≤ d ∧ d ≤ 255) : Calls Try.prog 21 #[.int .u8 n, .int .u8 d] w (Begun w (Bg n d) (manyOf n)) := by
  obtain ⟨w1, hw1⟩ : ∃ z, w.alloc (.cells #[.int .i64 0, .int .i64 0, .int .i64 0, .int .i64 0, .slice none 0 0, .slice none 0 0, .slice none 0 0] 27) = z := ⟨_, rfl⟩
  obtain ⟨hb1, hx1⟩ := box_mk hw1
  obtain ⟨b, hb⟩ : ∃ b, w.heap.size = b := ⟨_, rfl⟩
  rw [hb] at hx1
  have HB1 := Lib.hid hb1
  have HX1 := Lib.hid hx1
  have HLT := Lib.hid hb
  clear hb1 hx1
  obtain ⟨m, hm⟩ : ∃ m, manyOf n = m := ⟨_, rfl⟩
  obtain ⟨hm1, hm2, hm3⟩ := manyOf_b (n := n)
  rw [hm] at hm1 hm2 hm3 ⊢
  have hmod : n % 10 = (m : Int) - 1 := by omega
  have hw2 : IntKind.i64.wrap (1 + ((m : Int) - 1)) = (m : Int) := by rw [show 1 + ((m : Int) - 1) = (m : Int) by omega]; exact IntWalk.i64_in _ (by omega)
  obtain ⟨q, hq⟩ : ∃ q, needOf n d = q := ⟨_, rfl⟩
  have hqb := needOf_b (n := n) (d := d)
  rw [hq, hm] at hqb
  have hdm : d % (m : Int) = q - 1 := by rw [← hq]; unfold needOf; rw [hm1]; omega
  have hmz : ((m : Int) == 0) = false := by simp; omega
  have hw3 : IntKind.i64.wrap (d.tmod (m : Int)) = q - 1 := by rw [Int.tmod_eq_emod_of_nonneg hd.1, hdm]; exact IntWalk.i64_in _ (by omega)
  have hw4 : IntKind.i64.wrap (1 + (q - 1)) = q := by rw [show 1 + (q - 1) = q by omega]; exact IntWalk.i64_in _ (by omega)
  have HP : Hid (beginF 5 9 m q = (Bg n d, 0)) := by show _ = _; rw [← hm, ← hq]; exact bg_eq n d
  have hnm : n.tmod 10 = (m : Int) - 1 := by rw [Int.tmod_eq_emod_of_nonneg hn.1]; exact hmod
  have hm0 : ¬ (m : Int) = 0 := by omega
  have htm : d.tmod (m : Int) = q - 1 := by rw [Int.tmod_eq_emod_of_nonneg hd.1, hdm]
  clear hm1 hq
  go_enter Try.func21, Try.ntmps21
  go_wp2_with fail
  (try rw [hw1]); (try rw [hb])
  refine (begin_is _ 5 9 m q).mono ?_
  rintro e w3 h3
  rw [HP.out] at h3
  obtain ⟨A3, c3, B3, d3, C3, k3, rfl, hf3, hb3⟩ := h3.tw
  obtain ⟨R, hR⟩ : ∃ R, Bg n d = R := ⟨_, rfl⟩
  have HRR := Lib.hid hR
  rw [hR] at hf3 ⊢
  clear hR h3 HP
  obtain ⟨b8, hb8⟩ : ∃ z, w3.heap.size = z := ⟨_, rfl⟩
  obtain ⟨w4, hw4'⟩ : ∃ z, w3.alloc (.cells #[.int .i64 R.s, .int .i64 R.v, .int .i64 R.need, .int .i64 R.ph, .slice A3 R.ms.length c3, .slice B3 R.ws.length d3, .slice C3 R.bs.length k3] 27) = z := ⟨_, rfl⟩
  obtain ⟨hf4, hb4⟩ := BF.new hf3 hw4' hb8
  have HF4 := Lib.hid hf4
  have HX4 := Lib.hid ((hb4.block _ (lt_of_block ((hb3.block _ (lt_of_block HX1.out)).trans HX1.out))).trans ((hb3.block _ (lt_of_block HX1.out)).trans HX1.out))
  have HW4 := Lib.hid ((HB1.out.trans (hb3.mono HB1.out.size)).trans (hb4.mono (Nat.le_trans HB1.out.size hb3.size)))
  have hne8 : b8 ≠ b := by have := hb3.size; have := lt_of_block HX1.out; omega
  have hne8' := hne8.symm
  clear hf3 hb3 hf4 hb4
  obtain ⟨⟨f0, f1, f2, f3, f4, f5, f6⟩, fbl⟩ := HF4.out.cells
  obtain ⟨⟨r0, r1, r2, r3, r4, r5, r6⟩, rbl⟩ := seven HX4.out
  obtain ⟨y0, y1, y2, y3, y4, y5, y6⟩ := thaw7 HX4.out
  go_wp2
  (try rw [hw4']); (try rw [hb8])
  obtain ⟨hbz, hbt⟩ := BF.set (A := A3) (c := c3) (B := B3) (d := d3) (C := C3) (k := k3) (r := R) HX4.out HF4.out.fw rfl
  have hw := hbz.row
  have hT : Begun w R m (.returned (.tuple #[.agg #[.int .i64 R.s, .int .i64 R.v, .int .i64 R.need, .int .i64 R.ph, .slice A3 R.ms.length c3, .slice B3 R.ws.length d3, .slice C3 R.bs.length k3], .int .i64 (m : Int), .bool true])) _ := ⟨A3, c3, B3, d3, C3, k3, rfl, hbz.fw, HW4.out.trans (hbt.below (B := w.heap.size) HW4.out.size (by intro i hi; simp at hi; have := HLT.out; omega))⟩
  unfold set7 at hw hT
  rw [HRR.out]
  refine bodyPost_ret (v := .tuple #[.agg #[.int .i64 R.s, .int .i64 R.v, .int .i64 R.need, .int .i64 R.ph, .slice A3 R.ms.length c3, .slice B3 R.ws.length d3, .slice C3 R.bs.length k3], .int .i64 (m : Int), .bool true]) ?_ rfl hT
  rw [results_cell_tmp_2 rfl]
  simp [asAddr, Result.andThen, loadv27 hw]
end
end Go.Proofs.Ytkkpfehgobanbaa
