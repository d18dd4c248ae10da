/- Move, step by step. -/
import Derived.Test.YtbilbfjmfaignaaPlcI
namespace Go.Proofs.Ytbilbfjmfaignaa
open Go.RowKit Go.Coop
set_option maxRecDepth 100000
/-- how far the boxes of Move have come -/
def MvE (a b : Int) (ps : List Pc) (k : Nat) (qs : List Pc) (gr : List Int) (er : Int) : Prop :=
  (er = 0 ∧ (∀ p ∈ ps.take k, ¬ Bad a b p.pl) ∧ qs.map Pc.pl = (ps.take k).map (fun p => mv1 a b p.pl) ∧ gr = grp a ((ps.take k).map Pc.pl)) ∨ (er = 100 ∧ ∃ p ∈ ps, Bad a b p.pl)
structure MvG (B bg be : Nat) (a b : Int) (ps : List Pc) (k : Nat) (qs : List Pc) (W : World) (G : Option Addr) (m mc : Nat) (gr : List Int) (er : Int) : Prop where
  box : Box W bg (.slice G m mc) 28
  own : OwnV W B 3 G m mc (gr.map IV)
  le : m ≤ k
  far : ∀ q ∈ qs, ∀ j, q.A.map (·.block) = some j → G.map (·.block) ≠ some j
  err : Box W be (.int .i64 er) 25
  ok : MvE a b ps k qs gr er
structure MvJ (B bf bt be bg : Nat) (a b : Int) (ps : List Pc) (k : Nat) (qs : List Pc) (W : World) : Prop where
  f : Box W bf (.int .i64 a) 3
  t : Box W bt (.int .i64 b) 3
  g : ∃ G m mc gr er, MvG B bg be a b ps k qs W G m mc gr er
theorem Box.far {W W' : World} {p g : Nat} {v : Value} {E : TypeId} {l r : List Value} {x0 x1 : Value} (h : Box W p v E) (hb : But [g] W W') (hr : RowAt W g l x0 x1 r) (hE : E ≠ 30) : Box W' p v E :=
  h.but hb (by simp; exact ne_of_type h hr hE)
theorem MvG.far' {B bg be : Nat} {a b : Int} {ps : List Pc} {k : Nat} {qs : List Pc} {W W' : World} {G : Option Addr} {m mc : Nat} {gr : List Int} {er : Int} (h : MvG B bg be a b ps k qs W G m mc gr er) {g : Nat} {l r : List Value} {x0 x1 : Value} (hb : But [g] W W') (hr : RowAt W g l x0 x1 r) : MvG B bg be a b ps k qs W' G m mc gr er :=
  ⟨h.box.far hb hr (by decide), own_far h.own hb hr, h.le, h.far, h.err.far hb hr (by decide), h.ok⟩
theorem rd_far {W W' : World} {B n c : Nat} {A : Option Addr} {vs : List Value} {gs : List Nat} (h : OwnV W B 3 A n c vs) (hb : But gs W W') (hn : ∀ j, A.map (·.block) = some j → j ∉ gs) : OwnV W' B 3 A n c vs := h.but hb hn
theorem MvE.none {a b : Int} {ps : List Pc} {k : Nat} {qs : List Pc} {gr : List Int} {er : Int} (h : MvE a b ps k qs gr er) {p : Pc} (hp : ps[k]? = some p) (ha : a ∉ p.l) (q : Pc) (hq : q.pl = p.pl) : MvE a b ps (k + 1) (qs ++ [q]) gr er := by
  rcases h with ⟨h1, h2, h3, h4⟩ | h
  · refine .inl ⟨h1, ?_, ?_, ?_⟩
    · rw [take_snoc hp]
      intro x hx
      rcases List.mem_append.1 hx with hx | hx
      · exact h2 x hx
      · simp at hx
        subst hx
        exact fun hb => ha hb.1
    · rw [take_snoc hp, List.map_append, List.map_append, h3]
      have : mv1 a b p.pl = p.pl := if_neg ha
      simp [hq, this]
    · rw [take_snoc hp, List.map_append]
      simp only [List.map_cons, List.map_nil]
      rw [grp_snoc, h4, if_neg (show ¬ a ∈ p.pl.l from ha), List.append_nil]
  · exact .inr h
theorem MvE.bad {a b : Int} {ps : List Pc} {k : Nat} (qs : List Pc) (gr : List Int) {p : Pc} (hp : ps[k]? = some p) (ha : Bad a b p.pl) : MvE a b ps (k + 1) qs gr 100 := .inr ⟨rfl, p, mem_at hp, ha⟩
theorem MvE.good {a b : Int} {ps : List Pc} {k : Nat} {qs : List Pc} {gr : List Int} {er : Int} (h : MvE a b ps k qs gr er) {p : Pc} (hp : ps[k]? = some p) (ha : a ∈ p.l) (hb : ¬ Bad a b p.pl) (q : Pc) (hq : q.pl = ⟨p.e + 1, p.l.set (idxN a p.l) b⟩) : MvE a b ps (k + 1) (qs ++ [q]) (gr ++ [(k : Int)]) er := by
  have hk : k < ps.length := (List.getElem?_eq_some_iff.1 hp).1
  rcases h with ⟨h1, h2, h3, h4⟩ | h
  · refine .inl ⟨h1, ?_, ?_, ?_⟩
    · rw [take_snoc hp]
      intro x hx
      rcases List.mem_append.1 hx with hx | hx
      · exact h2 x hx
      · simp at hx
        subst hx
        exact hb
    · rw [take_snoc hp, List.map_append, List.map_append, h3]
      have : mv1 a b p.pl = ⟨p.e + 1, p.l.set (idxN a p.l) b⟩ := if_pos ha
      simp [hq, this]
    · rw [take_snoc hp, List.map_append]
      simp only [List.map_cons, List.map_nil]
      rw [grp_snoc, h4, if_pos (show a ∈ p.pl.l from ha)]
      simp
      omega
  · exact .inr h
set_option maxHeartbeats 1000000 in
/-- the closure of Move as a step -/
theorem mv_step {w : World} {bf bt be bg : Nat} {a b : Int} {ps : List Pc} (hfb : bf < w.heap.size) (htb : bt < w.heap.size) (hbb : be < w.heap.size) (hgb : bg < w.heap.size) (hne : be ≠ bg) (hft : bf ≠ be ∧ bf ≠ bg ∧ bt ≠ be ∧ bt ≠ bg) (hall : AllP (ps.map Pc.pl)) (W0 W : World) (k : Nat) (p : Pc) (qs : List Pc) (g : Nat) (l r : List Value) (X : Option Addr) (c : Nat)
    (h : Step w [be, bg] (MvJ w.heap.size bf bt be bg a b ps) ps W0 W k p qs g l r X c) :
    Calls Try.prog 39 #[.int .i64 (k : Int), .pointer (some ⟨g, k * 2, none⟩), .pointer (some ⟨bf, 0, none⟩), .pointer (some ⟨bt, 0, none⟩), .pointer (some ⟨be, 0, none⟩), .pointer (some ⟨bg, 0, none⟩)] W (Stepped w [be, bg] (MvJ w.heap.size bf bt be bg a b ps) W k qs g l r) := by
  obtain ⟨jf, jt, G, m, mc, gr, er, jg⟩ := h.st
  have kf := jf.far h.but1 h.row0 (by decide)
  have kt := jt.far h.but1 h.row0 (by decide)
  have kg := jg.far' h.but1 h.row0
  have hgB : w.heap.size ≤ g := h.g0
  have hbs := h.but.size
  have hk1000 : k < 1000 := by
    have h1 := h.lt
    have h2 := hall.1.2
    simp at h2
    omega
  have hp' : RightP 256 p.pl := hall.2 _ (List.mem_map.2 ⟨p, mem_at h.hp, rfl⟩)
  have heach : ∀ x ∈ qs, OwnV W w.heap.size 3 x.A x.n x.c (x.l.map IV) ∧ x.n ≤ 1000000 := fun x hx => ⟨own_far (h.each x hx).1 h.but1 h.row0, (h.each x hx).2⟩
  have hXG : ∀ j, X.map (·.block) = some j → G.map (·.block) ≠ some j := fun j h1 h2 => by
    have e1 := (h.own.block j h1).1
    have e2 := (jg.own.block j h2).2
    omega
  have hXw : OwnV W w.heap.size 3 X p.n c (p.l.map IV) := h.own.lower' h.but0.size
  have hfarX : ∀ x ∈ qs ++ [(⟨p.e, X, p.n, c, p.l⟩ : Pc)], ∀ j, x.A.map (·.block) = some j → G.map (·.block) ≠ some j := by
    intro x hx
    rcases List.mem_append.1 hx with hx | hx
    · exact jg.far x hx
    · simp at hx
      subst hx
      exact hXG
  by_cases ha : a ∈ p.l
  · by_cases hbad : Bad a b p.pl
    · refine (mv_bad W h.ll h.row h.own.rd h.small kf kt kg.err _ k hbad).mono ?_
      rintro e w' ⟨rfl, hb, he⟩
      have hn1 : g ∉ [be] := by simp; omega
      have hown : ∀ {x : Option Addr} {n c : Nat} {vs : List Value}, OwnV W w.heap.size 3 x n c vs → OwnV w' w.heap.size 3 x n c vs := fun ho => ho.but hb (fun j hj hm => by
        have := (ho.block j hj).1
        simp at hm
        omega)
      refine ⟨⟨p.e, X, p.n, c, p.l⟩, rfl, h.row.but hb hn1, fun x hx => ?_, ⟨kf.but hb (by simp; exact hft.1), kt.but hb (by simp; exact hft.2.2.1), G, m, mc, gr, 100, kg.box.but hb (by simpa using fun e => hne e.symm), hown kg.own, Nat.le_succ_of_le kg.le, hfarX, he, MvE.bad _ _ h.hp hbad⟩, ?_, by simp [h.len]⟩
      · rcases List.mem_append.1 hx with hx | hx
        · exact ⟨hown (heach x hx).1, (heach x hx).2⟩
        · simp at hx
          subst hx
          exact ⟨hown hXw, h.small⟩
      · exact h.but.trans (hb.mono (by simp))
    · have hb' : b ∉ p.l := fun hb => hbad ⟨ha, .inl hb⟩
      have hep : p.e ≠ 1099511627776 := fun hb => hbad ⟨ha, .inr hb⟩
      have hpe : 1 ≤ p.e ∧ p.e ≤ 1099511627776 := hp'.2.1
      have hle : m ≤ 1000 := by have := kg.le; omega
      refine (mv_good W (B := w.heap.size) h.ll h.row hXw h.small kf kt kg.err kg.box kg.own hle hXG htb hbs k ha hb' hep (by omega)).mono ?_
      rintro e w' ⟨rfl, G', mc', hm⟩
      have hng : ∀ j, w.heap.size ≤ j → j ≠ g → X.map (·.block) ≠ some j → G.map (·.block) ≠ some j → j ∉ [g, bg] ++ (X.map (·.block)).toList ++ (G.map (·.block)).toList := by
        intro j h1 h2 h3 h4 hm
        rw [List.mem_append, List.mem_append, Option.mem_toList, Option.mem_toList] at hm
        rcases hm with (hm | hm) | hm
        · simp at hm
          omega
        · exact h3 hm
        · exact h4 hm
      have hbox : ∀ {q : Nat} {v : Value} {E : TypeId}, q < w.heap.size → q ≠ bg → Box W q v E → Box w' q v E := fun hq hn hb => hb.but hm.but (by
        intro hm'
        rw [List.mem_append, List.mem_append, Option.mem_toList, Option.mem_toList] at hm'
        rcases hm' with (hm' | hm') | hm'
        · simp at hm'
          omega
        · have := (hXw.block _ hm').1
          omega
        · have := (kg.own.block _ hm').1
          omega)
      have hqs : ∀ x ∈ qs, OwnV w' w.heap.size 3 x.A x.n x.c (x.l.map IV) := fun x hx => (heach x hx).1.but hm.but (fun j hj => hng j ((heach x hx).1.block j hj).1 (by
        obtain ⟨cur, hc⟩ := (heach x hx).1.typ hj
        exact ne_of_type hc h.row (by decide)) (fun hX => by
        have e1 := (h.own.block j hX).1
        have e2 := ((h.each x hx).1.block j hj).2
        omega) (kg.far x hx j hj))
      refine ⟨⟨p.e + 1, X, p.n, c, p.l.set (idxN a p.l) b⟩, rfl, hm.row, fun x hx => ?_, ⟨hbox hfb hft.2.1 kf, hbox htb hft.2.2.2 kt, G', m + 1, mc', gr ++ [(k : Int)], er, hm.box, hm.grp, by have := kg.le; omega, ?_, hbox hbb hne kg.err, kg.ok.good h.hp ha hbad _ rfl⟩, ?_, by simp [h.len]⟩
      · rcases List.mem_append.1 hx with hx | hx
        · exact ⟨hqs x hx, (heach x hx).2⟩
        · simp at hx
          subst hx
          exact ⟨hm.own, h.small⟩
      · intro x hx j hj
        rcases hm.same with e | ⟨i, hi, e⟩
        · rw [e]
          rcases List.mem_append.1 hx with hx | hx
          · exact jg.far x hx j hj
          · simp at hx
            subst hx
            exact hXG j hj
        · rw [e]
          intro e'
          injection e' with e'
          subst e'
          rcases List.mem_append.1 hx with hx | hx
          · have := ((heach x hx).1.block i hj).2
            omega
          · simp at hx
            subst hx
            have := (hXw.block i hj).2
            omega
      · refine h.but.trans' hm.but (fun i hi => ?_)
        rw [List.mem_append, List.mem_append, Option.mem_toList, Option.mem_toList] at hi
        rcases hi with (hi | hi) | hi
        · simp at hi
          rcases hi with rfl | rfl
          · exact .inr hgB
          · exact .inl (by simp)
        · exact .inr (hXw.block _ hi).1
        · exact .inr (kg.own.block _ hi).1
  · refine (mv_none W h.ll h.row h.own.rd h.small kf _ _ _ k ha).mono ?_
    rintro e w' ⟨rfl, hb⟩
    have hbt : But [] W w' := But.of_below hb
    have hown : ∀ {x : Option Addr} {n c : Nat} {vs : List Value}, OwnV W w.heap.size 3 x n c vs → OwnV w' w.heap.size 3 x n c vs := fun ho => ho.but hbt (by simp)
    refine ⟨⟨p.e, X, p.n, c, p.l⟩, rfl, h.row.but hbt (by simp), fun x hx => ?_, ⟨kf.but hbt (by simp), kt.but hbt (by simp), G, m, mc, gr, er, kg.box.but hbt (by simp), hown kg.own, Nat.le_succ_of_le kg.le, hfarX, kg.err.but hbt (by simp), kg.ok.none h.hp ha _ rfl⟩, h.but.trans (hbt.mono (by simp)), by simp [h.len]⟩
    rcases List.mem_append.1 hx with hx | hx
    · exact ⟨hown (heach x hx).1, (heach x hx).2⟩
    · simp at hx
      subst hx
      exact ⟨hown hXw, h.small⟩
end Go.Proofs.Ytbilbfjmfaignaa
