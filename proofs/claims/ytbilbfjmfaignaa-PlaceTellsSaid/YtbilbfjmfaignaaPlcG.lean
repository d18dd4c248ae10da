/- What a closure does to each placement, one by one: changed. -/
import Derived.Test.YtbilbfjmfaignaaPlcF
namespace Go.Proofs.Ytbilbfjmfaignaa
open Go.RowKit Go.Coop
set_option maxRecDepth 100000
/-- where the closure is called for the k-th placement -/
structure Step (w : World) (gs : List Nat) (J : Nat → List Pc → World → Prop) (ps : List Pc) (W0 W : World) (k : Nat) (p : Pc) (qs : List Pc) (g : Nat) (l r : List Value) (X : Option Addr) (c : Nat) : Prop where
  hp : ps[k]? = some p
  len : qs.length = k
  ll : l.length = k * 2
  each : ∀ q ∈ qs, OwnV W0 w.heap.size 3 q.A q.n q.c (q.l.map IV) ∧ q.n ≤ 1000000
  st : J k qs W0
  but0 : But gs w W0
  but : But gs w W
  g0 : w.heap.size ≤ g
  row0 : RowAt W0 g l (.int .i64 0) (.slice none 0 0) r
  but1 : But [g] W0 W
  row : RowAt W g l (.int .i64 p.e) (.slice X p.n c) r
  own : OwnV W W0.heap.size 3 X p.n c (p.l.map IV)
  small : p.n ≤ 1000000
  lt : k < ps.length
/-- what it leaves -/
structure SteppedQ (w : World) (gs : List Nat) (J : Nat → List Pc → World → Prop) (k : Nat) (qs : List Pc) (g : Nat) (l r : List Value) (w' : World) (q : Pc) : Prop where
  row : RowAt w' g l (.int .i64 q.e) (.slice q.A q.n q.c) r
  each : ∀ x ∈ qs ++ [q], OwnV w' w.heap.size 3 x.A x.n x.c (x.l.map IV) ∧ x.n ≤ 1000000
  st : J (k + 1) (qs ++ [q]) w'
  but : But gs w w'
  len : (qs ++ [q]).length = k + 1
def Stepped (w : World) (gs : List Nat) (J : Nat → List Pc → World → Prop) (_W : World) (k : Nat) (qs : List Pc) (g : Nat) (l r : List Value) (e : Ending) (w' : World) : Prop := ∃ q : Pc, e = .returned (.tuple #[]) ∧ SteppedQ w gs J k qs g l r w' q
section
variable (w : World)

set_option maxHeartbeats 1000000 in
theorem changed_first {c1 c2 : Value} {A : Option Addr} {n ca : Nat} {ps : List Pc} (gs : List Nat) (J : Nat → List Pc → World → Prop) (hgs : ∀ g ∈ gs, g < w.heap.size) (hn : n ≤ 1000) (hps : ∀ W, But gs w W → PL W A n ps)
    (h0 : ∀ W, Below w.heap.size w W → J 0 [] W) (hs : ∀ W0 W k p qs g l r X c, Step w gs J ps W0 W k p qs g l r X c → Calls Try.prog 36 #[.int .i64 (k : Int), .pointer (some ⟨g, k * 2, none⟩), c1, c2] W (Stepped w gs J W k qs g l r)) :
    Calls Try.prog 35 #[.slice A n ca, .func (.func 36) #[] #[c1, c2]] w fun e w' => ∃ A' qs, e = .returned (.slice A' n n) ∧ PO w' w.heap.size A' n n qs ∧ J n qs w' ∧ But gs w w' := by
  have hln : ps.length = n := (hps w (But.refl _ _)).len
  have mk := make24 n (by omega)
  obtain ⟨w1, hw1⟩ : ∃ v, w.alloc (.cells (zrp n).toArray 30) = v := ⟨_, rfl⟩
  obtain ⟨hb1, hx1⟩ := box_new hw1
  obtain ⟨g, hg⟩ : ∃ g, w.heap.size = g := ⟨_, rfl⟩
  have hj0 := h0 w1 hb1
  have H := Lib.hid (And.intro hgs (And.intro hps (And.intro hs (And.intro hln hg))))
  have H1 := Lib.hid (And.intro hj0 (And.intro (But.of_below (gs := gs) hb1) hx1))
  clear hgs hps hs hln h0 hj0 hb1 hx1
  go_enter Try.func35, Try.ntmps35
  go_wp2
  (try rw [hw1]); (try rw [hg])
  clear mk hw1 hg
  go_loopw [6, 7, 13] (fun _ _ s13 wr => ∃ k : Nat, k ≤ n ∧ s13 = .int .i64 k ∧ Hid (∃ qs : List Pc, qs.length = k ∧ wr.heap[g]? = some (.cells (pcs (qs ++ List.replicate (n - k) zPc)).toArray 30 (0, 0)) ∧ (∀ q ∈ qs, OwnV wr w.heap.size 3 q.A q.n q.c (q.l.map IV) ∧ q.n ≤ 1000000) ∧ J k qs wr ∧ But gs w wr)) (fun _ _ s13 _ => n - (Go.RowKit.intOf s13).toNat)
  case atStart =>
    refine ⟨0, by omega, rfl, (⟨[], rfl, ?_, by simp, H1.out.1, H1.out.2.1⟩ : ∃ qs : List Pc, _)⟩
    have := H1.out.2.2
    rw [H.out.2.2.2.2] at this
    rw [List.nil_append, Nat.sub_zero]
    exact this
  case round =>
    obtain ⟨k, hk, rfl, HR⟩ := hrel
    clear H1
    by_cases hlt : k < n
    · obtain ⟨qs, v1, v2, v3, v4, v5⟩ := HR.out
      obtain ⟨p, hp⟩ : ∃ p, ps[k]? = some p := ⟨_, List.getElem?_eq_getElem (by rw [H.out.2.2.2.1]; exact hlt)⟩
      obtain ⟨ad, hok, rfl, hadl, hload, _, _⟩ := (H.out.2.1 wr v5).get' hp
      have hi1 : (0 : Int) ≤ (k : Int) := by omega
      have hi2 : (k : Int) < (n : Int) := by omega
      have hw1 : IntKind.i64.wrap ((k : Int) + 1) = (k : Int) + 1 := IntWalk.i64_in _ (by omega)
      obtain ⟨l, hl⟩ : ∃ l, pcs qs = l := ⟨_, rfl⟩
      obtain ⟨r, hr⟩ : ∃ r, pcs (List.replicate (n - (k + 1)) zPc) = r := ⟨_, rfl⟩
      have hll : l.length = k * 2 := by rw [← hl, pcs_len, v1]
      have hrow : RowAt wr g l (.int .i64 0) (.slice none 0 0) r := by
        unfold RowAt
        rw [v2, pcs_append, hl, show n - k = (n - (k + 1)) + 1 by omega, List.replicate_succ]
        have : pcs (zPc :: List.replicate (n - (k + 1)) zPc) = [.int .i64 0, .slice none 0 0] ++ r := by rw [← hr]; simp [pcs, zPc, Pc.cells]
        rw [this, List.append_assoc]
      obtain ⟨wa, hwa⟩ : ∃ v, wr.alloc (.cells #[.int .i64 p.e, .slice p.A p.n p.c] 30) = v := ⟨_, rfl⟩
      obtain ⟨hba, hxa⟩ := box_new hwa
      obtain ⟨⟨m0, m1⟩, _⟩ := two30 hxa
      have hlt' := Lib.hid hlt
      have HV := Lib.hid (And.intro v1 (And.intro v3 (And.intro v4 (And.intro v5 (And.intro hp (And.intro hok (And.intro hl (And.intro hr (And.intro hll (And.intro hrow hba))))))))))
      clear HR v1 v2 v3 v4 v5 hp hok hl hr hll hrow hba hxa hlt hadl
      go_wp2_with fail
      (try rw [hwa])
      refine (alone_is _ p.e (HV.out.2.2.2.2.2.1.rd.below HV.out.2.2.2.2.2.2.2.2.2.2 (Nat.le_refl _)) HV.out.2.2.2.2.2.1.small).mono ?_
      rintro e wb ⟨X, c, rfl, hX, hbb⟩
      obtain ⟨v1, v3, v4, v5, hp, hok, hl, hr, hll, hrow, hba⟩ := HV.out
      have hbab : Below wr.heap.size wr wb := hba.trans (hbb.mono hba.size)
      have hrb : RowAt wb g l (.int .i64 0) (.slice none 0 0) r := (hbab.block _ hrow.lt).trans hrow
      obtain ⟨⟨c0, c1⟩, f0, f1⟩ := hrb.cells
      rw [hll] at c0 c1 f0 f1
      have hpl := hok.len
      obtain ⟨wc, hwc⟩ : ∃ v, (wb.setCell ⟨g, k * 2, none⟩ (.int .i64 p.e)).setCell ⟨g, k * 2 + 1, none⟩ (.slice X p.l.length c) = v := ⟨_, rfl⟩
      have hrc : RowAt wc g l (.int .i64 p.e) (.slice X p.n c) r := by
        rw [← hwc, ← hll]
        have := (hrb.set0 (.int .i64 p.e)).set1 (.slice X p.l.length c)
        rwa [hpl] at this ⊢
      have hbc : But [g] wr wc := by
        rw [← hwc]
        exact ((But.of_below hbab).setCell (by simp) _).setCell (by simp) _
      have hXc : OwnV wc wr.heap.size 3 X p.n c (p.l.map IV) := by
        rw [hpl] at hX
        have hbt : But [g] wb wc := by rw [← hwc]; exact ((But.refl _ _).setCell (by simp) _).setCell (by simp) _
        refine (hX.but hbt fun j hj hm => ?_).lower' hba.size
        simp at hm
        subst hm
        have h1 := (hX.block j hj).1
        have h2 := hrow.lt
        have h3 := hba.size
        omega
      have hstep : Step w gs J ps wr wc k p qs g l r X c := by
        refine ⟨hp, v1, hll, v3, v4, v5, ?_, by rw [H.out.2.2.2.2]; exact Nat.le_refl _, hrow, hbc, hrc, hXc, hok.small, by rw [H.out.2.2.2.1]; exact hlt'.out⟩
        refine v5.trans' hbc (fun i hi => .inr ?_)
        simp at hi
        subst hi
        rw [H.out.2.2.2.2]
        exact Nat.le_refl _
      have HS := Lib.hid (H.out.2.2.1 _ _ _ _ _ _ _ _ _ _ hstep)
      have HW := Lib.hid hl
      have HW2 := Lib.hid hr
      clear hbb hX hbab hrb hpl hrc hbc hXc hstep v1 v3 v4 v5 hp hok hl hr hll hrow hba hload HV
      go_wp2_with fail
      refine HS.out.mono ?_
      rintro e wd ⟨q, hq⟩
      have HQ := Lib.hid hq
      obtain ⟨rfl, _⟩ := hq
      clear c0 c1 f0 f1 hwc hwa m0 m1
      go_wp2
      go_roundw
      case rel =>
        obtain ⟨_, q1, q2, q3, q4, q6⟩ := HQ.out
        have hlt := hlt'.out
        refine ⟨k + 1, by omega, by go_num, (⟨qs ++ [q], q6, ?_, q2, q3, q4⟩ : ∃ qs : List Pc, _)⟩
        have e : pcs (qs ++ [q] ++ List.replicate (n - (k + 1)) zPc) = l ++ [.int .i64 q.e, .slice q.A q.n q.c] ++ r := by
          rw [pcs_append, pcs_append, HW.out, HW2.out]
          simp [pcs, Pc.cells]
        rw [e]
        exact q1
      case measure => have := hlt'.out; simp [Go.RowKit.intOf]; omega
    · obtain rfl : k = n := by omega
      go_wp2
      go_ret
      obtain ⟨qs, v1, v2, v3, v4, v5⟩ := HR.out
      refine ⟨some ⟨g, 0, none⟩, qs, rfl, ⟨?_, v3⟩, v4, v5⟩
      rw [H.out.2.2.2.2]
      rw [Nat.sub_self, List.replicate_zero, List.append_nil] at v2
      exact OwnK.mk' (sp := []) (Nat.le_refl _) (by rw [List.append_nil]; exact v2) (Nat.le_refl _) (by unfold maxLen; omega) (by rw [pcs_len, v1]) (by rw [pcs_len, v1]; rfl)

set_option maxHeartbeats 1000000 in
theorem changed_move {c1 c2 c3 c4 : Value} {A : Option Addr} {n ca : Nat} {ps : List Pc} (gs : List Nat) (J : Nat → List Pc → World → Prop) (hgs : ∀ g ∈ gs, g < w.heap.size) (hn : n ≤ 1000) (hps : ∀ W, But gs w W → PL W A n ps)
    (h0 : ∀ W, Below w.heap.size w W → J 0 [] W) (hs : ∀ W0 W k p qs g l r X c, Step w gs J ps W0 W k p qs g l r X c → Calls Try.prog 39 #[.int .i64 (k : Int), .pointer (some ⟨g, k * 2, none⟩), c1, c2, c3, c4] W (Stepped w gs J W k qs g l r)) :
    Calls Try.prog 35 #[.slice A n ca, .func (.func 39) #[] #[c1, c2, c3, c4]] w fun e w' => ∃ A' qs, e = .returned (.slice A' n n) ∧ PO w' w.heap.size A' n n qs ∧ J n qs w' ∧ But gs w w' := by
  have hln : ps.length = n := (hps w (But.refl _ _)).len
  have mk := make24 n (by omega)
  obtain ⟨w1, hw1⟩ : ∃ v, w.alloc (.cells (zrp n).toArray 30) = v := ⟨_, rfl⟩
  obtain ⟨hb1, hx1⟩ := box_new hw1
  obtain ⟨g, hg⟩ : ∃ g, w.heap.size = g := ⟨_, rfl⟩
  have hj0 := h0 w1 hb1
  have H := Lib.hid (And.intro hgs (And.intro hps (And.intro hs (And.intro hln hg))))
  have H1 := Lib.hid (And.intro hj0 (And.intro (But.of_below (gs := gs) hb1) hx1))
  clear hgs hps hs hln h0 hj0 hb1 hx1
  go_enter Try.func35, Try.ntmps35
  go_wp2
  (try rw [hw1]); (try rw [hg])
  clear mk hw1 hg
  go_loopw [6, 7, 13] (fun _ _ s13 wr => ∃ k : Nat, k ≤ n ∧ s13 = .int .i64 k ∧ Hid (∃ qs : List Pc, qs.length = k ∧ wr.heap[g]? = some (.cells (pcs (qs ++ List.replicate (n - k) zPc)).toArray 30 (0, 0)) ∧ (∀ q ∈ qs, OwnV wr w.heap.size 3 q.A q.n q.c (q.l.map IV) ∧ q.n ≤ 1000000) ∧ J k qs wr ∧ But gs w wr)) (fun _ _ s13 _ => n - (Go.RowKit.intOf s13).toNat)
  case atStart =>
    refine ⟨0, by omega, rfl, (⟨[], rfl, ?_, by simp, H1.out.1, H1.out.2.1⟩ : ∃ qs : List Pc, _)⟩
    have := H1.out.2.2
    rw [H.out.2.2.2.2] at this
    rw [List.nil_append, Nat.sub_zero]
    exact this
  case round =>
    obtain ⟨k, hk, rfl, HR⟩ := hrel
    clear H1
    by_cases hlt : k < n
    · obtain ⟨qs, v1, v2, v3, v4, v5⟩ := HR.out
      obtain ⟨p, hp⟩ : ∃ p, ps[k]? = some p := ⟨_, List.getElem?_eq_getElem (by rw [H.out.2.2.2.1]; exact hlt)⟩
      obtain ⟨ad, hok, rfl, hadl, hload, _, _⟩ := (H.out.2.1 wr v5).get' hp
      have hi1 : (0 : Int) ≤ (k : Int) := by omega
      have hi2 : (k : Int) < (n : Int) := by omega
      have hw1 : IntKind.i64.wrap ((k : Int) + 1) = (k : Int) + 1 := IntWalk.i64_in _ (by omega)
      obtain ⟨l, hl⟩ : ∃ l, pcs qs = l := ⟨_, rfl⟩
      obtain ⟨r, hr⟩ : ∃ r, pcs (List.replicate (n - (k + 1)) zPc) = r := ⟨_, rfl⟩
      have hll : l.length = k * 2 := by rw [← hl, pcs_len, v1]
      have hrow : RowAt wr g l (.int .i64 0) (.slice none 0 0) r := by
        unfold RowAt
        rw [v2, pcs_append, hl, show n - k = (n - (k + 1)) + 1 by omega, List.replicate_succ]
        have : pcs (zPc :: List.replicate (n - (k + 1)) zPc) = [.int .i64 0, .slice none 0 0] ++ r := by rw [← hr]; simp [pcs, zPc, Pc.cells]
        rw [this, List.append_assoc]
      obtain ⟨wa, hwa⟩ : ∃ v, wr.alloc (.cells #[.int .i64 p.e, .slice p.A p.n p.c] 30) = v := ⟨_, rfl⟩
      obtain ⟨hba, hxa⟩ := box_new hwa
      obtain ⟨⟨m0, m1⟩, _⟩ := two30 hxa
      have hlt' := Lib.hid hlt
      have HV := Lib.hid (And.intro v1 (And.intro v3 (And.intro v4 (And.intro v5 (And.intro hp (And.intro hok (And.intro hl (And.intro hr (And.intro hll (And.intro hrow hba))))))))))
      clear HR v1 v2 v3 v4 v5 hp hok hl hr hll hrow hba hxa hlt hadl
      go_wp2_with fail
      (try rw [hwa])
      refine (alone_is _ p.e (HV.out.2.2.2.2.2.1.rd.below HV.out.2.2.2.2.2.2.2.2.2.2 (Nat.le_refl _)) HV.out.2.2.2.2.2.1.small).mono ?_
      rintro e wb ⟨X, c, rfl, hX, hbb⟩
      obtain ⟨v1, v3, v4, v5, hp, hok, hl, hr, hll, hrow, hba⟩ := HV.out
      have hbab : Below wr.heap.size wr wb := hba.trans (hbb.mono hba.size)
      have hrb : RowAt wb g l (.int .i64 0) (.slice none 0 0) r := (hbab.block _ hrow.lt).trans hrow
      obtain ⟨⟨c0, c1⟩, f0, f1⟩ := hrb.cells
      rw [hll] at c0 c1 f0 f1
      have hpl := hok.len
      obtain ⟨wc, hwc⟩ : ∃ v, (wb.setCell ⟨g, k * 2, none⟩ (.int .i64 p.e)).setCell ⟨g, k * 2 + 1, none⟩ (.slice X p.l.length c) = v := ⟨_, rfl⟩
      have hrc : RowAt wc g l (.int .i64 p.e) (.slice X p.n c) r := by
        rw [← hwc, ← hll]
        have := (hrb.set0 (.int .i64 p.e)).set1 (.slice X p.l.length c)
        rwa [hpl] at this ⊢
      have hbc : But [g] wr wc := by
        rw [← hwc]
        exact ((But.of_below hbab).setCell (by simp) _).setCell (by simp) _
      have hXc : OwnV wc wr.heap.size 3 X p.n c (p.l.map IV) := by
        rw [hpl] at hX
        have hbt : But [g] wb wc := by rw [← hwc]; exact ((But.refl _ _).setCell (by simp) _).setCell (by simp) _
        refine (hX.but hbt fun j hj hm => ?_).lower' hba.size
        simp at hm
        subst hm
        have h1 := (hX.block j hj).1
        have h2 := hrow.lt
        have h3 := hba.size
        omega
      have hstep : Step w gs J ps wr wc k p qs g l r X c := by
        refine ⟨hp, v1, hll, v3, v4, v5, ?_, by rw [H.out.2.2.2.2]; exact Nat.le_refl _, hrow, hbc, hrc, hXc, hok.small, by rw [H.out.2.2.2.1]; exact hlt'.out⟩
        refine v5.trans' hbc (fun i hi => .inr ?_)
        simp at hi
        subst hi
        rw [H.out.2.2.2.2]
        exact Nat.le_refl _
      have HS := Lib.hid (H.out.2.2.1 _ _ _ _ _ _ _ _ _ _ hstep)
      have HW := Lib.hid hl
      have HW2 := Lib.hid hr
      clear hbb hX hbab hrb hpl hrc hbc hXc hstep v1 v3 v4 v5 hp hok hl hr hll hrow hba hload HV
      go_wp2_with fail
      refine HS.out.mono ?_
      rintro e wd ⟨q, hq⟩
      have HQ := Lib.hid hq
      obtain ⟨rfl, _⟩ := hq
      clear c0 c1 f0 f1 hwc hwa m0 m1
      go_wp2
      go_roundw
      case rel =>
        obtain ⟨_, q1, q2, q3, q4, q6⟩ := HQ.out
        have hlt := hlt'.out
        refine ⟨k + 1, by omega, by go_num, (⟨qs ++ [q], q6, ?_, q2, q3, q4⟩ : ∃ qs : List Pc, _)⟩
        have e : pcs (qs ++ [q] ++ List.replicate (n - (k + 1)) zPc) = l ++ [.int .i64 q.e, .slice q.A q.n q.c] ++ r := by
          rw [pcs_append, pcs_append, HW.out, HW2.out]
          simp [pcs, Pc.cells]
        rw [e]
        exact q1
      case measure => have := hlt'.out; simp [Go.RowKit.intOf]; omega
    · obtain rfl : k = n := by omega
      go_wp2
      go_ret
      obtain ⟨qs, v1, v2, v3, v4, v5⟩ := HR.out
      refine ⟨some ⟨g, 0, none⟩, qs, rfl, ⟨?_, v3⟩, v4, v5⟩
      rw [H.out.2.2.2.2]
      rw [Nat.sub_self, List.replicate_zero, List.append_nil] at v2
      exact OwnK.mk' (sp := []) (Nat.le_refl _) (by rw [List.append_nil]; exact v2) (Nat.le_refl _) (by unfold maxLen; omega) (by rw [pcs_len, v1]) (by rw [pcs_len, v1]; rfl)

set_option maxHeartbeats 1000000 in
theorem changed_read {c1 : Value} {A : Option Addr} {n ca : Nat} {ps : List Pc} (gs : List Nat) (J : Nat → List Pc → World → Prop) (hgs : ∀ g ∈ gs, g < w.heap.size) (hn : n ≤ 1000) (hps : ∀ W, But gs w W → PL W A n ps)
    (h0 : ∀ W, Below w.heap.size w W → J 0 [] W) (hs : ∀ W0 W k p qs g l r X c, Step w gs J ps W0 W k p qs g l r X c → Calls Try.prog 43 #[.int .i64 (k : Int), .pointer (some ⟨g, k * 2, none⟩), c1] W (Stepped w gs J W k qs g l r)) :
    Calls Try.prog 35 #[.slice A n ca, .func (.func 43) #[] #[c1]] w fun e w' => ∃ A' qs, e = .returned (.slice A' n n) ∧ PO w' w.heap.size A' n n qs ∧ J n qs w' ∧ But gs w w' := by
  have hln : ps.length = n := (hps w (But.refl _ _)).len
  have mk := make24 n (by omega)
  obtain ⟨w1, hw1⟩ : ∃ v, w.alloc (.cells (zrp n).toArray 30) = v := ⟨_, rfl⟩
  obtain ⟨hb1, hx1⟩ := box_new hw1
  obtain ⟨g, hg⟩ : ∃ g, w.heap.size = g := ⟨_, rfl⟩
  have hj0 := h0 w1 hb1
  have H := Lib.hid (And.intro hgs (And.intro hps (And.intro hs (And.intro hln hg))))
  have H1 := Lib.hid (And.intro hj0 (And.intro (But.of_below (gs := gs) hb1) hx1))
  clear hgs hps hs hln h0 hj0 hb1 hx1
  go_enter Try.func35, Try.ntmps35
  go_wp2
  (try rw [hw1]); (try rw [hg])
  clear mk hw1 hg
  go_loopw [6, 7, 13] (fun _ _ s13 wr => ∃ k : Nat, k ≤ n ∧ s13 = .int .i64 k ∧ Hid (∃ qs : List Pc, qs.length = k ∧ wr.heap[g]? = some (.cells (pcs (qs ++ List.replicate (n - k) zPc)).toArray 30 (0, 0)) ∧ (∀ q ∈ qs, OwnV wr w.heap.size 3 q.A q.n q.c (q.l.map IV) ∧ q.n ≤ 1000000) ∧ J k qs wr ∧ But gs w wr)) (fun _ _ s13 _ => n - (Go.RowKit.intOf s13).toNat)
  case atStart =>
    refine ⟨0, by omega, rfl, (⟨[], rfl, ?_, by simp, H1.out.1, H1.out.2.1⟩ : ∃ qs : List Pc, _)⟩
    have := H1.out.2.2
    rw [H.out.2.2.2.2] at this
    rw [List.nil_append, Nat.sub_zero]
    exact this
  case round =>
    obtain ⟨k, hk, rfl, HR⟩ := hrel
    clear H1
    by_cases hlt : k < n
    · obtain ⟨qs, v1, v2, v3, v4, v5⟩ := HR.out
      obtain ⟨p, hp⟩ : ∃ p, ps[k]? = some p := ⟨_, List.getElem?_eq_getElem (by rw [H.out.2.2.2.1]; exact hlt)⟩
      obtain ⟨ad, hok, rfl, hadl, hload, _, _⟩ := (H.out.2.1 wr v5).get' hp
      have hi1 : (0 : Int) ≤ (k : Int) := by omega
      have hi2 : (k : Int) < (n : Int) := by omega
      have hw1 : IntKind.i64.wrap ((k : Int) + 1) = (k : Int) + 1 := IntWalk.i64_in _ (by omega)
      obtain ⟨l, hl⟩ : ∃ l, pcs qs = l := ⟨_, rfl⟩
      obtain ⟨r, hr⟩ : ∃ r, pcs (List.replicate (n - (k + 1)) zPc) = r := ⟨_, rfl⟩
      have hll : l.length = k * 2 := by rw [← hl, pcs_len, v1]
      have hrow : RowAt wr g l (.int .i64 0) (.slice none 0 0) r := by
        unfold RowAt
        rw [v2, pcs_append, hl, show n - k = (n - (k + 1)) + 1 by omega, List.replicate_succ]
        have : pcs (zPc :: List.replicate (n - (k + 1)) zPc) = [.int .i64 0, .slice none 0 0] ++ r := by rw [← hr]; simp [pcs, zPc, Pc.cells]
        rw [this, List.append_assoc]
      obtain ⟨wa, hwa⟩ : ∃ v, wr.alloc (.cells #[.int .i64 p.e, .slice p.A p.n p.c] 30) = v := ⟨_, rfl⟩
      obtain ⟨hba, hxa⟩ := box_new hwa
      obtain ⟨⟨m0, m1⟩, _⟩ := two30 hxa
      have hlt' := Lib.hid hlt
      have HV := Lib.hid (And.intro v1 (And.intro v3 (And.intro v4 (And.intro v5 (And.intro hp (And.intro hok (And.intro hl (And.intro hr (And.intro hll (And.intro hrow hba))))))))))
      clear HR v1 v2 v3 v4 v5 hp hok hl hr hll hrow hba hxa hlt hadl
      go_wp2_with fail
      (try rw [hwa])
      refine (alone_is _ p.e (HV.out.2.2.2.2.2.1.rd.below HV.out.2.2.2.2.2.2.2.2.2.2 (Nat.le_refl _)) HV.out.2.2.2.2.2.1.small).mono ?_
      rintro e wb ⟨X, c, rfl, hX, hbb⟩
      obtain ⟨v1, v3, v4, v5, hp, hok, hl, hr, hll, hrow, hba⟩ := HV.out
      have hbab : Below wr.heap.size wr wb := hba.trans (hbb.mono hba.size)
      have hrb : RowAt wb g l (.int .i64 0) (.slice none 0 0) r := (hbab.block _ hrow.lt).trans hrow
      obtain ⟨⟨c0, c1⟩, f0, f1⟩ := hrb.cells
      rw [hll] at c0 c1 f0 f1
      have hpl := hok.len
      obtain ⟨wc, hwc⟩ : ∃ v, (wb.setCell ⟨g, k * 2, none⟩ (.int .i64 p.e)).setCell ⟨g, k * 2 + 1, none⟩ (.slice X p.l.length c) = v := ⟨_, rfl⟩
      have hrc : RowAt wc g l (.int .i64 p.e) (.slice X p.n c) r := by
        rw [← hwc, ← hll]
        have := (hrb.set0 (.int .i64 p.e)).set1 (.slice X p.l.length c)
        rwa [hpl] at this ⊢
      have hbc : But [g] wr wc := by
        rw [← hwc]
        exact ((But.of_below hbab).setCell (by simp) _).setCell (by simp) _
      have hXc : OwnV wc wr.heap.size 3 X p.n c (p.l.map IV) := by
        rw [hpl] at hX
        have hbt : But [g] wb wc := by rw [← hwc]; exact ((But.refl _ _).setCell (by simp) _).setCell (by simp) _
        refine (hX.but hbt fun j hj hm => ?_).lower' hba.size
        simp at hm
        subst hm
        have h1 := (hX.block j hj).1
        have h2 := hrow.lt
        have h3 := hba.size
        omega
      have hstep : Step w gs J ps wr wc k p qs g l r X c := by
        refine ⟨hp, v1, hll, v3, v4, v5, ?_, by rw [H.out.2.2.2.2]; exact Nat.le_refl _, hrow, hbc, hrc, hXc, hok.small, by rw [H.out.2.2.2.1]; exact hlt'.out⟩
        refine v5.trans' hbc (fun i hi => .inr ?_)
        simp at hi
        subst hi
        rw [H.out.2.2.2.2]
        exact Nat.le_refl _
      have HS := Lib.hid (H.out.2.2.1 _ _ _ _ _ _ _ _ _ _ hstep)
      have HW := Lib.hid hl
      have HW2 := Lib.hid hr
      clear hbb hX hbab hrb hpl hrc hbc hXc hstep v1 v3 v4 v5 hp hok hl hr hll hrow hba hload HV
      go_wp2_with fail
      refine HS.out.mono ?_
      rintro e wd ⟨q, hq⟩
      have HQ := Lib.hid hq
      obtain ⟨rfl, _⟩ := hq
      clear c0 c1 f0 f1 hwc hwa m0 m1
      go_wp2
      go_roundw
      case rel =>
        obtain ⟨_, q1, q2, q3, q4, q6⟩ := HQ.out
        have hlt := hlt'.out
        refine ⟨k + 1, by omega, by go_num, (⟨qs ++ [q], q6, ?_, q2, q3, q4⟩ : ∃ qs : List Pc, _)⟩
        have e : pcs (qs ++ [q] ++ List.replicate (n - (k + 1)) zPc) = l ++ [.int .i64 q.e, .slice q.A q.n q.c] ++ r := by
          rw [pcs_append, pcs_append, HW.out, HW2.out]
          simp [pcs, Pc.cells]
        rw [e]
        exact q1
      case measure => have := hlt'.out; simp [Go.RowKit.intOf]; omega
    · obtain rfl : k = n := by omega
      go_wp2
      go_ret
      obtain ⟨qs, v1, v2, v3, v4, v5⟩ := HR.out
      refine ⟨some ⟨g, 0, none⟩, qs, rfl, ⟨?_, v3⟩, v4, v5⟩
      rw [H.out.2.2.2.2]
      rw [Nat.sub_self, List.replicate_zero, List.append_nil] at v2
      exact OwnK.mk' (sp := []) (Nat.le_refl _) (by rw [List.append_nil]; exact v2) (Nat.le_refl _) (by unfold maxLen; omega) (by rw [pcs_len, v1]) (by rw [pcs_len, v1]; rfl)
end
end Go.Proofs.Ytbilbfjmfaignaa
