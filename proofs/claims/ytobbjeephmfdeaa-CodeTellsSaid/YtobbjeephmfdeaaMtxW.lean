/- Copies of matrices. -/
import Derived.Test.YtobbjeephmfdeaaMtxV
import Derived.Test.YtobbjeephmfdeaaCodA
namespace Go.Proofs.Ytobbjeephmfdeaa
open Go.RowKit Go.Coop
set_option maxRecDepth 100000

set_option maxRecDepth 100000 in
theorem copym_any (A : Option Addr) (n c : Nat) (M : List (List UInt8)) (w : World) (h : MR w A n M) (hn : n ≤ 1000000) (hL : ∀ r ∈ M, r.length ≤ 140737488355328) :
    Calls Try.prog 23 #[.slice A n c] w fun e w' => ∃ A' c', e = .returned (.slice A' n c') ∧ MO w' w.heap.size w.heap.size A' n c' M ∧ Below w.heap.size w w' := by
  have HM := Lib.hid h
  have HL := Lib.hid hL
  clear h hL
  go_enter Try.func23, Try.ntmps23
  go_wp2
  go_loopw [3, 4] (fun v i wr => ∃ (q : Nat) (A' : Option Addr) (c' : Nat), q ≤ n ∧ i = .int .i64 q ∧ v = .slice A' q c' ∧ Hid (MO wr w.heap.size w.heap.size A' q c' (M.take q)) ∧ Hid (Below w.heap.size w wr)) (fun _ i _ => n - (intOf i).toNat)
  case atStart => exact ⟨0, none, 0, by omega, rfl, rfl, MO.nil _ _ _, Below.refl _ _⟩
  case round =>
    obtain ⟨q, A', c', hq, rfl, rfl, HO, HB⟩ := hrel
    by_cases hlt : q < n
    · obtain ⟨ad, B, d, r, rfl, _, hr, hc, hd⟩ := (HM.out.below HB.out (Nat.le_refl _)).row hlt
      have hrl := HL.out r (List.mem_of_getElem? hr)
      have HX := Lib.hid (And.intro hr hd)
      obtain ⟨L, hLL⟩ : ∃ L, r.length = L := ⟨_, rfl⟩
      rw [hLL] at hc hrl
      have HLL := Lib.hid hLL
      clear hr hd hLL
      have hqn : (q : Int) < n := by omega
      go_wp2_with fail
      refine (copy_any B L d r wr (by rw [← HLL.out]; exact HX.out.2) hrl).mono ?_
      rintro e1 w1 ⟨A1, c1, rfl, ho1, hb1⟩
      have hbs := HB.out.size
      have HO1 := Lib.hid (HO.out.below hb1 (Nat.le_refl _))
      have HN1 := Lib.hid (ho1.lower hbs)
      have HB1 := Lib.hid (HB.out.trans (hb1.mono hbs))
      clear ho1 hb1
      have HL1 := Lib.hid (lit_one HN1.out)
      go_wp2_with (at_builtin; refine wpList_appMM _ rfl (.tmp 11) (.tmp 17) 32 Try.underlying32 rfl rfl (HO1.out.alloc _) rfl HL1.out (by omega) (by omega) (by rw [size_alloc]; have := HB1.out.size; omega) (q + 1) rfl ?_; intro A2 c2 w2 hM2 hg2)
      have HM2 := Lib.hid hM2
      have HB2 : Hid (Below w.heap.size w w2) := (HB1.out.alloc HB1.out.size _).grown hg2 (by rw [size_alloc]; have := HB1.out.size; omega) (fun k hk => (mo_block HO1.out k hk).1)
      clear hM2 hg2
      go_roundw
      case rel => exact ⟨q + 1, A2, c2, by omega, by go_num, rfl, by rw [List.take_add_one, HX.out.1]; exact HM2.out, HB2.out⟩
      case measure => simp [intOf]; omega
    · obtain rfl : q = n := by omega
      go_wp2
      go_ret
      have e : M.take q = M := List.take_of_length_le (by have := HM.out.len; omega)
      have h1 := HO.out
      rw [e] at h1
      exact ⟨A', c', rfl, h1, HB.out⟩

/-- the world under writes into rows of bytes, at the block bx and from S on -/
structure Flip (S bx : Nat) (w w' : World) : Prop where
  os : w'.os = w.os
  tape : w'.tape = w.tape
  output : w'.output = w.output
  size : w'.heap.size = w.heap.size
  low : ∀ p, p < S → p ≠ bx → w'.heap[p]? = w.heap[p]?
  outer : ∀ (p : Nat) (cur : Array Value) (E : TypeId), w.heap[p]? = some (.cells cur E (0, 0)) → E ≠ 5 → w'.heap[p]? = some (.cells cur E (0, 0))
  rows : ∀ (p : Nat) (cur : Array Value), w.heap[p]? = some (.cells cur 5 (0, 0)) → ∃ cur' : Array Value, w'.heap[p]? = some (.cells cur' 5 (0, 0)) ∧ cur'.size = cur.size ∧ ∀ (j : Nat) (x : UInt8), cur[j]? = some (BV x) → ∃ y : UInt8, cur'[j]? = some (BV y)
theorem Flip.refl (S bx : Nat) (w : World) : Flip S bx w w := ⟨rfl, rfl, rfl, rfl, fun _ _ _ => rfl, fun _ _ _ h _ => h, fun _ cur h => ⟨cur, h, rfl, fun _ x h => ⟨x, h⟩⟩⟩
theorem Flip.step {S bx : Nat} {w w' : World} (h : Flip S bx w w') {b j : Nat} {cur : Array Value} (hb : w.heap[b]? = some (.cells cur 5 (0, 0))) (hS : S ≤ b ∨ b = bx) (x : UInt8) : Flip S bx w (w'.setCell ⟨b, j, none⟩ (BV x)) := by
  have far : ∀ p, p ≠ b → (w'.setCell ⟨b, j, none⟩ (BV x)).heap[p]? = w'.heap[p]? := fun p hp => Below.heap_setCell _ _ _ _ hp
  refine ⟨h.os, h.tape, h.output, by rw [← h.size]; simp, fun p hp hne => (far p (by omega)).trans (h.low p hp hne), fun p c E hc hE => ?_, fun p c hc => ?_⟩
  · refine (far p ?_).trans (h.outer p c E hc hE)
    rintro rfl
    rw [hb] at hc
    injection hc with e
    injection e with _ e _
    exact hE e.symm
  · obtain ⟨c', h1, h2, h3⟩ := h.rows p c hc
    by_cases e : p = b
    · subst e
      refine ⟨c'.setIfInBounds j (BV x), heap_setCell_same _ _ _ _ _ _ h1, by simp [h2], fun i y hy => ?_⟩
      rw [Array.getElem?_setIfInBounds]
      by_cases hij : j = i
      · subst hij
        have hlt : j < c'.size := by
          have := (Array.getElem?_eq_some_iff.1 hy).1
          omega
        rw [if_pos rfl, if_pos hlt]
        exact ⟨x, rfl⟩
      · rw [if_neg hij]
        exact h3 i y hy
    · exact ⟨c', (far p e).trans h1, h2, h3⟩
/-- one of the lists that are written over: its rows, and where they lie -/
def Spare (S bx : Nat) (w : World) (A : Option Addr) (n : Nat) : Prop :=
  ∀ i, i < n → ∃ (g b L d : Nat) (co cr : Array Value), A = some ⟨g, 0, none⟩ ∧ w.heap[g]? = some (.cells co 31 (0, 0)) ∧ co[i]? = some (.slice (some ⟨b, 0, none⟩) L d) ∧ L ≤ 6 ∧ w.heap[b]? = some (.cells cr 5 (0, 0)) ∧ (∀ j, j < L → ∃ x, cr[j]? = some (BV x)) ∧ (S ≤ b ∨ b = bx)
/-- a row of one's own, cell by cell -/
theorem own_cells {w : World} {br n c : Nat} {A : Option Addr} {l : List UInt8} (h : Own w br 5 A n c l) (hn : 0 < n) : ∃ (b : Nat) (cr : Array Value), A = some ⟨b, 0, none⟩ ∧ w.heap[b]? = some (.cells cr 5 (0, 0)) ∧ br ≤ b ∧ ∀ j, j < n → ∃ x, cr[j]? = some (BV x) := by
  rcases h.row.2 with ⟨hv, h0⟩ | ⟨g, cap, cur, hv, hb, hg, h1, h2, h3, h4⟩
  · omega
  · injection hv with hA _ _
    refine ⟨g, cur, hA, hg, hb, fun j hj => ?_⟩
    have hjl : j < l.length := by have := h.len; omega
    refine ⟨l[j], ?_⟩
    rw [Nat.mul_one] at h4
    have e : (bvs l)[j]? = some (BV l[j]) := bvs_at' (List.getElem?_eq_getElem hjl)
    rw [← h4, List.getElem?_take, if_pos hj] at e
    simpa using e
theorem spare_of {w : World} {bo br S bx n c k : Nat} {A : Option Addr} {F : Fn2} (h : MO w bo br A n c (tabM n k F)) (hk : 1 ≤ k) (hk6 : k ≤ 6) (hS : S ≤ br) : Spare S bx w A n := by
  intro i hi
  obtain ⟨g, B, d, r, rfl, _, _, _, hr, hc, ho⟩ := h.row hi
  rw [tabM_at k F hi] at hr
  injection hr with hr
  rw [← hr, rowL_len] at hc ho
  obtain ⟨b, cr, rfl, hb, hbr, hx⟩ := own_cells ho (by omega)
  obtain ⟨co, hco⟩ := h.cells
  have h2 := cell_of_row _ _ i _ 31 (0, 0) hco
  rw [hc] at h2
  exact ⟨g, b, k, d, co, cr, rfl, hco, h2.symm, hk6, hb, hx, .inl (by omega)⟩
theorem Spare.below {S bx n B : Nat} {w w' : World} {A : Option Addr} (h : Spare S bx w A n) (hb : Below B w w') (hB : w.heap.size ≤ B) : Spare S bx w' A n := by
  intro i hi
  obtain ⟨g, b, L, d, co, cr, h1, h2, h3, h4, h5, h6, h7⟩ := h i hi
  exact ⟨g, b, L, d, co, cr, h1, (hb.block g (by have := (Array.getElem?_eq_some_iff.1 h2).1; omega)).trans h2, h3, h4, (hb.block b (by have := (Array.getElem?_eq_some_iff.1 h5).1; omega)).trans h5, h6, h7⟩
theorem Flip.below {S bx B : Nat} {w w' : World} (h : Flip S bx w w') (hB : B ≤ S) (hx : B ≤ bx) : Below B w w' :=
  ⟨h.os, h.tape, h.output, Nat.le_of_eq h.size.symm, fun p hp => h.low p (by omega) (by omega)⟩
end Go.Proofs.Ytobbjeephmfdeaa
