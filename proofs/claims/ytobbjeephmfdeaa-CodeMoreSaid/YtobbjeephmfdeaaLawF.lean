/- CodeFits: one byte that is wrong is seen; copies whose rows lie apart; the law's walk. -/
import Derived.Test.YtobbjeephmfdeaaLawJ
namespace Go.Proofs.Ytobbjeephmfdeaa
open Go.RowKit Go.Coop
set_option maxRecDepth 100000

/-- one element turned -/
def turnF (i p : Nat) (t : UInt8) (E : Fn2) : Fn2 := fun a b => if a = i ∧ b = p then E a b ^^^ t else E a b
theorem turn_none {i p : Nat} {E : Fn2} : turnF i p 0 E = E := by
  funext a b
  unfold turnF
  split
  · apply UInt8.toNat_inj.1
    simp
  · rfl
theorem nf_turn_at {i p : Nat} {t : UInt8} {E : Fn2} : nf (turnF i p t E) i p = nf E i p ^^^ t.toNat := by
  unfold nf turnF
  rw [if_pos ⟨rfl, rfl⟩, UInt8.toNat_xor]
theorem nf_turn_off {i p a b : Nat} {t : UInt8} {E : Fn2} (h : ¬ (a = i ∧ b = p)) : nf (turnF i p t E) a b = nf E a b := by
  unfold nf turnF
  rw [if_neg h]
theorem xor_self_ne {a t : Nat} (ht : t ≠ 0) : a ^^^ t ≠ a := fun e => ht (by
  have : a ^^^ (a ^^^ t) = a ^^^ a := by rw [e]
  rwa [← Nat.xor_assoc, Nat.xor_self, Nat.zero_xor] at this)
theorem fits_turn {n k s i p : Nat} {t : UInt8} {D : Fn2} (hk : 0 < k) (hkn : k < n) (hk8 : k < 256) (hs : s ≤ 65536) (hi : i < n) (hp : p < s) : fitsB n k (tabM n s (turnF i p t (encF k D))) = decide (t = 0) := by
  by_cases ht : t = 0
  · subst ht
    rw [turn_none, fits_enc hk (by omega) hs]
    rfl
  · rw [decide_eq_false ht]
    obtain ⟨E', hE'⟩ : ∃ E', E' = turnF i p t (encF k D) := ⟨_, rfl⟩
    rw [← hE']
    have htn : t.toNat ≠ 0 := fun e => ht (UInt8.toNat_inj.1 (by rw [e]; rfl))
    unfold fitsB
    rw [tabM_take (by omega), encL_tab hk, Bool.and_eq_false_iff]
    refine .inr ?_
    rw [Bool.and_eq_false_iff]
    refine .inr (decide_eq_false fun e => ?_)
    have hat : ∀ a, a < n → ∀ b, b < s → encF k E' a b = E' a b := by
      intro a ha b hb
      have e1 := congrArg (fun L => (L[a]?).bind fun r => r[b]?) e
      rw [tabM_at s _ ha, tabM_at s _ ha] at e1
      simp only [Option.bind_some] at e1
      rw [rowL_at _ hb, rowL_at _ hb] at e1
      injection e1
    by_cases hik : i < k
    · have h1 := congrArg UInt8.toNat (hat k hkn p hp)
      have e2 : (E' k p).toNat = nf (encF k D) k p := by
        show nf E' k p = _
        rw [hE', nf_turn_off (by omega)]
      rw [e2] at h1
      have e3 : (encF k E' k p).toNat = nf (encF k D) k p ^^^ mul (nf (codF k) k i) t.toNat := by
        show nf (encF k E') k p = _
        rw [nf_encF, nf_encF]
        unfold mm
        have e4 : xs k (fun r => mul (nf (codF k) k r) (nf E' r p)) = xs k (fun r => if r = i then mul (nf (codF k) k i) (nf D i p ^^^ t.toNat) else mul (nf (codF k) k r) (nf D r p)) := xs_congr fun r hr => by
          by_cases hri : r = i
          · subst hri
            have e5 : nf (encF k D) r p = nf D r p := by unfold nf; rw [enc_data D p hr]
            rw [if_pos rfl, hE', nf_turn_at, e5]
          · have e5 : nf (encF k D) r p = nf D r p := by unfold nf; rw [enc_data D p hr]
            rw [if_neg hri, hE', nf_turn_off (by omega), e5]
        rw [e4, xs_upd (fun r => mul (nf (codF k) k r) (nf D r p)) _ hik, mul_dist _ _ _ (nf_lt _ _ _) t.toNat_lt, Nat.xor_assoc, ← Nat.xor_assoc (mul _ (nf D i p)), Nat.xor_self, Nat.zero_xor]
      rw [e3] at h1
      refine xor_self_ne (mul_ne _ _ ?_ htn) h1
      rw [nf_codF, if_neg (by omega)]
      have e6 := cau_ne (k := k) (i := 0) hik
      rw [Nat.add_zero] at e6
      exact fun e7 => by
        exact iv_ne _ e6 (xor_lt k i hk8 (by omega)) e7
    · have h1 := congrArg UInt8.toNat (hat i hi p hp)
      have e2 : (E' i p).toNat = nf (encF k D) i p ^^^ t.toNat := by
        show nf E' i p = _
        rw [hE', nf_turn_at]
      have e3 : (encF k E' i p).toNat = nf (encF k D) i p := by
        show nf (encF k E') i p = _
        rw [nf_encF, nf_encF]
        refine mm_congr (fun _ _ => rfl) fun r hr => ?_
        rw [hE', nf_turn_off (by omega)]
        unfold nf
        rw [enc_data D p hr]
      rw [e2, e3] at h1
      exact xor_self_ne htn h1.symm
/-- one less, or one more -/
theorem fits_len {n k : Nat} {L : List (List UInt8)} (h : L.length ≠ n) : fitsB n k L = false := by
  unfold fitsB
  rw [decide_eq_false h]
  rfl

def RowsAt (w : World) (n k : Nat) (F : Fn2) (r : Nat → Nat) : Prop := ∀ i, i < n → ∃ cr : Array Value, w.heap[r i]? = some (.cells cr 5 (0, 0)) ∧ ∀ j, j < k → cr[j]? = some (BV (F i j))
theorem heapA_lt {w : World} {p : Nat} {o : Obj} (h : w.heap[p]? = some o) : p < w.heap.size := (Array.getElem?_eq_some_iff.1 h).1
theorem RowsAt.keep {w w' : World} {n k : Nat} {F : Fn2} {r : Nat → Nat} (h : RowsAt w n k F r) (hk : ∀ i, i < n → w'.heap[r i]? = w.heap[r i]?) : RowsAt w' n k F r := fun i hi => by
  obtain ⟨cr, h1, h2⟩ := h i hi
  exact ⟨cr, (hk i hi).trans h1, h2⟩
def rowsA (q k : Nat) (r d : Nat → Nat) : List Value := (List.range q).map fun i => Value.slice (some ⟨r i, 0, none⟩) k (d i)
theorem rowsA_len (q k : Nat) (r d : Nat → Nat) : (rowsA q k r d).length = q := by simp [rowsA]
theorem rowsA_at {q k i : Nat} (r d : Nat → Nat) (h : i < q) : (rowsA q k r d)[i]? = some (.slice (some ⟨r i, 0, none⟩) k (d i)) := by simp [rowsA, h]
def updA (f : Nat → Nat) (q x : Nat) : Nat → Nat := fun i => if i = q then x else f i
theorem rowsA_snoc (q k : Nat) (r d : Nat → Nat) (x e : Nat) : rowsA (q + 1) k (updA r q x) (updA d q e) = rowsA q k r d ++ [.slice (some ⟨x, 0, none⟩) k e] := by
  unfold rowsA
  rw [List.range_succ, List.map_append]
  congr 1
  · refine List.map_congr_left fun i hi => ?_
    have := List.mem_range.1 hi
    unfold updA
    rw [if_neg (by omega), if_neg (by omega)]
  · simp [updA]
structure Apart (w : World) (s q k : Nat) (A : Option Addr) (c : Nat) (F : Fn2) (r d : Nat → Nat) : Prop where
  own : OwnV w s 31 A q c (rowsA q k r d)
  cells : RowsAt w q k F r
  lo : ∀ i, i < q → s ≤ r i
  inj : ∀ i j, i < q → j < q → i ≠ j → r i ≠ r j
theorem grownA_five {w w' : World} {bo m c : Nat} {A : Option Addr} {vs : List Value} (ho : OwnV w bo 31 A m c vs) (hg : w.grownBy w' (A.map (·.block))) {p : Nat} {cur : Array Value} (hp : w.heap[p]? = some (.cells cur 5 (0, 0))) : w'.heap[p]? = w.heap[p]? := by
  refine hg.block p (heapA_lt hp) ?_
  intro e
  cases A with
  | none => cases e
  | some a =>
    injection e with e
    rcases ho.row.2 with ⟨hv, _⟩ | ⟨g', cap, cur', hv, _, hg', _⟩
    · cases hv
    · injection hv with ha _ _
      injection ha with ha
      subst ha
      simp only at e
      subst e
      rw [hp] at hg'
      injection hg' with e
      injection e with _ e _
      cases e
theorem Apart.below {w w' : World} {s q k c B : Nat} {A : Option Addr} {F : Fn2} {r d : Nat → Nat} (h : Apart w s q k A c F r d) (hb : Below B w w') (hB : w.heap.size ≤ B) : Apart w' s q k A c F r d :=
  ⟨h.own.below hb hB, h.cells.keep fun i hi => by obtain ⟨cr, e, _⟩ := h.cells i hi; exact hb.block _ (by have := heapA_lt e; omega), h.lo, h.inj⟩
theorem Apart.alloc {w : World} {s q k c : Nat} {A : Option Addr} {F : Fn2} {r d : Nat → Nat} (h : Apart w s q k A c F r d) (o : Obj) : Apart (w.alloc o) s q k A c F r d := h.below ((Below.refl w.heap.size w).alloc (Nat.le_refl _) o) (Nat.le_refl _)
theorem Apart.lt {w : World} {s q k c : Nat} {A : Option Addr} {F : Fn2} {r d : Nat → Nat} (h : Apart w s q k A c F r d) {i : Nat} (hi : i < q) : r i < w.heap.size := by
  obtain ⟨cr, e, _⟩ := h.cells i hi
  exact heapA_lt e
/-- one row more -/
theorem Apart.grow {w0 w w' : World} {s q k c c' e N : Nat} {A A' : Option Addr} {F : Fn2} {r d : Nat → Nat} {x : Nat} (h0 : Apart w0 s q k A c F r d) (hb : Below w0.heap.size w0 w) (hs : s ≤ w0.heap.size)
    (hx : Go.Coop.Own w w0.heap.size 5 (some ⟨x, 0, none⟩) k e (rowL k (F q))) (hN : N = q + 1) (ho : OwnV w' s 31 A' N c' (rowsA q k r d ++ [.slice (some ⟨x, 0, none⟩) k e])) (hg : w.grownBy w' (A.map (·.block))) (hk : 1 ≤ k) : Apart w' s (q + 1) k A' c' F (updA r q x) (updA d q e) := by
  subst hN
  have h := h0.below hb (Nat.le_refl _)
  obtain ⟨b, cr, eb, hcr, hbx, _⟩ := own_cells hx (by omega)
  injection eb with eb
  injection eb with eb _ _
  subst eb
  refine ⟨by rw [rowsA_snoc]; exact ho, fun i hi => ?_, fun i hi => ?_, fun i j hi hj hij => ?_⟩
  · unfold updA
    by_cases e1 : i = q
    · rw [if_pos e1]
      refine ⟨cr, (grownA_five h.own hg hcr).trans hcr, fun j hj => ?_⟩
      subst e1
      rcases hx.row.2 with ⟨hv, h0⟩ | ⟨g, cap, cur, hv, _, hg', _, _, _, h4⟩
      · omega
      · injection hv with hA _ _
        injection hA with hA
        injection hA with hA _ _
        subst hA
        rw [hcr] at hg'
        injection hg' with hg'
        injection hg' with hg' _ _
        subst hg'
        rw [Nat.mul_one] at h4
        have e3 : (bvs (rowL k (F i)))[j]? = some (BV (F i j)) := bvs_at' (rowL_at (F i) hj)
        rw [← h4, List.getElem?_take, if_pos hj] at e3
        simpa using e3
    · rw [if_neg e1]
      obtain ⟨c1, e2, e3⟩ := h.cells i (by omega)
      exact ⟨c1, (grownA_five h.own hg e2).trans e2, e3⟩
  · unfold updA
    split
    · omega
    · exact h.lo i (by omega)
  · have hold : ∀ i, i < q → r i < w0.heap.size := fun i hi => h0.lt hi
    unfold updA
    by_cases e1 : i = q
    · rw [if_pos e1, if_neg (by omega)]
      have := hold j (by omega)
      omega
    · rw [if_neg e1]
      have := hold i (by omega)
      split
      · omega
      · exact h.inj i j (by omega) (by omega) hij

section
variable {w w' : World} {s q k c : Nat} {A : Option Addr} {F : Fn2} {r d : Nat → Nat}
theorem Apart.addr (h : Apart w s q k A c F r d) (hq : 0 < q) : ∃ g cur, A = some ⟨g, 0, none⟩ ∧ s ≤ g ∧ w.heap[g]? = some (.cells cur 31 (0, 0)) := by
  obtain ⟨g, e, h1, h2, _⟩ := h.own.addr hq
  obtain ⟨cur, hcur, _⟩ := h.own.cells_at g e
  exact ⟨g, cur, e, h1, hcur⟩
theorem Apart.cell (h : Apart w s q k A c F r d) {g : Nat} (hA : A = some ⟨g, 0, none⟩) {i : Nat} (hi : i < q) : w.cell? ⟨g, i, none⟩ = some (.slice (some ⟨r i, 0, none⟩) k (d i)) := by
  obtain ⟨ad, v, e, _, hv, hc⟩ := h.own.rd.at_ hi
  rw [hA] at e
  injection e with e
  subst e
  rw [rowsA_at r d hi] at hv
  injection hv with hv
  subst hv
  rwa [add_zero_off] at hc
theorem Apart.elem (h : Apart w s q k A c F r d) {i j : Nat} (hi : i < q) (hj : j < k) : w.cell? ⟨r i, j, none⟩ = some (.int .u8 ((F i j).toNat : Int)) ∧ w.frozen? ⟨r i, j, none⟩ = false := by
  obtain ⟨cr, h1, h2⟩ := h.cells i hi
  exact ⟨by rw [cell_of_row _ _ j _ 5 (0, 0) h1]; exact h2 j hj, frozen_of_row _ _ j _ 5 h1⟩
theorem Apart.rd (h : Apart w s q k A c F r d) {i : Nat} (hi : i < q) : Rd w (some ⟨r i, 0, none⟩) k (rowL k (F i)) := by
  obtain ⟨cr, h1, h2⟩ := h.cells i hi
  refine ⟨rowL_len _ _, fun _ => ⟨⟨r i, 0, none⟩, rfl, heapA_lt h1, fun j c hj => ?_⟩⟩
  have hjk : j < k := by have := (List.getElem?_eq_some_iff.1 hj).1; rwa [rowL_len] at this
  rw [rowL_at _ hjk] at hj
  injection hj with hj
  subst hj
  rw [add_zero_off, cell_of_row _ _ j _ 5 (0, 0) h1]
  exact h2 j hjk
theorem Apart.drew (h : Apart w s q k A c F r d) : Apart w.drew s q k A c F r d := h.below (B := w.heap.size) ⟨rfl, rfl, rfl, Nat.le_refl _, fun _ _ => rfl⟩ (Nat.le_refl _)
/-- an element is put anew -/
theorem Apart.set (h : Apart w s q k A c F r d) {i j : Nat} (hi : i < q) (x : UInt8) : Apart (w.setCell ⟨r i, j, none⟩ (BV x)) s q k A c (fun a b => if a = i ∧ b = j then x else F a b) r d := by
  have far : ∀ p, p ≠ r i → (w.setCell ⟨r i, j, none⟩ (BV x)).heap[p]? = w.heap[p]? := fun p hp => Below.heap_setCell _ _ _ _ hp
  refine ⟨h.own.at_block fun g hA => far g fun e => ?_, fun a ha => ?_, h.lo, h.inj⟩
  · obtain ⟨cr, h1, _⟩ := h.cells i hi
    obtain ⟨cur, h2, _⟩ := h.own.cells_at g hA
    rw [← e, h2] at h1
    injection h1 with e
    injection e with _ e _
    cases e
  · obtain ⟨cr, h1, h2⟩ := h.cells a ha
    by_cases e : a = i
    · subst e
      refine ⟨cr.setIfInBounds j (BV x), heap_setCell_same _ _ _ _ _ _ h1, fun b hb => ?_⟩
      rw [Array.getElem?_setIfInBounds]
      by_cases hjb : j = b
      · subst hjb
        have := h2 j hb
        rw [if_pos rfl, if_pos (Array.getElem?_eq_some_iff.1 this).1, if_pos ⟨rfl, rfl⟩]
      · rw [if_neg hjb, if_neg (fun e => hjb e.2.symm)]
        exact h2 b hb
    · refine ⟨cr, (far _ (h.inj a i ha hi e)).trans h1, fun b hb => ?_⟩
      rw [if_neg (fun e2 => e e2.1)]
      exact h2 b hb
/-- what a write into a row leaves -/
theorem Apart.setBelow {B : Nat} {w0 : World} (h : Apart w s q k A c F r d) (hb : Below B w0 w) (hB : B ≤ s) {i j : Nat} (hi : i < q) (v : Value) : Below B w0 (w.setCell ⟨r i, j, none⟩ v) := hb.setCell (Nat.le_trans hB (h.lo i hi)) _
theorem Apart.mr (h : Apart w s q k A c F r d) : MR w A q (tabM q k F) := by
  refine ⟨tabM_len _ _ _, rowsA q k r d, h.own.rd, fun i rr hi => ?_⟩
  have hin : i < q := by have := (List.getElem?_eq_some_iff.1 hi).1; rwa [tabM_len] at this
  rw [tabM_at k F hin] at hi
  injection hi with hi
  subst hi
  refine ⟨some ⟨r i, 0, none⟩, d i, ?_, ?_⟩
  · rw [rowsA_at r d hin, rowL_len]
  · rw [rowL_len]
    exact h.rd hin
end

set_option maxRecDepth 100000 in
theorem copyl_any (A : Option Addr) (n c s : Nat) (F : Fn2) (w : World) (h : MR w A n (tabM n s F)) (hn : n ≤ 1000) (hs1 : 1 ≤ s) (hs2 : s ≤ 1000) :
    Calls Try.prog 23 #[.slice A n c] w fun e w' => ∃ A' c' r d, e = .returned (.slice A' n c') ∧ Apart w' w.heap.size n s A' c' F r d ∧ Below w.heap.size w w' := by
  have HM := Lib.hid h
  clear h
  go_enter Try.func23, Try.ntmps23
  go_wp2
  go_loopw [3, 4] (fun v i wr => ∃ (q : Nat) (A' : Option Addr) (c' : Nat) (r d : Nat → Nat), q ≤ n ∧ i = .int .i64 q ∧ v = .slice A' q c' ∧ Hid (Apart wr w.heap.size q s A' c' F r d) ∧ Hid (Below w.heap.size w wr)) (fun _ i _ => n - (intOf i).toNat)
  case atStart => exact ⟨0, none, 0, id, id, by omega, rfl, rfl, ⟨OwnV.nil _ _ _, fun i hi => by omega, fun i hi => by omega, fun i j hi => by omega⟩, Below.refl _ _⟩
  case round =>
    obtain ⟨q, A', c', r, d, hq, rfl, rfl, HO, HB⟩ := hrel
    by_cases hlt : q < n
    · obtain ⟨ad, B, dd, rr, rfl, _, hr, hc, hd⟩ := (HM.out.below HB.out (Nat.le_refl _)).row hlt
      rw [tabM_at _ _ hlt] at hr
      injection hr with hr
      rw [← hr, rowL_len] at hc hd
      have HX := Lib.hid hd
      clear hr hd
      have hqn : (q : Int) < n := by omega
      go_wp2_with fail
      refine (copy_any B s dd (rowL s (F q)) wr HX.out (by omega)).mono ?_
      rintro e1 w1 ⟨A1, c1, rfl, ho1, hb1⟩
      obtain ⟨x1, rfl, _⟩ := ho1.addr (by omega)
      have hbs := HB.out.size
      have HO1 := Lib.hid ho1
      have HB1 := Lib.hid hb1
      have hz1 := hb1.size
      clear ho1 hb1
      go_wp2_with (at_builtin; refine wpList_appV _ rfl (.tmp 11) (.tmp 17) 32 rfl w.heap.size 31 (.slice none 0 0) 24 Try.underlying32 info31 rfl rfl ((HO.out.below HB1.out (Nat.le_refl _)).alloc _).own rfl (RdV.one _ _ _ _) (by intro u hu; simp at hu; subst hu; rfl) (by omega) (by omega) (by rw [size_alloc]; omega) (q + 1) rfl ?_; intro A2 c2 w2 ho2 hg2 hat2)
      have HH := Lib.hid (HO.out.grow (HB1.out.alloc hz1 _) hbs (HO1.out.alloc _) rfl ho2 hg2 hs1)
      have HB2 : Hid (Below w.heap.size w w2) := (((HB.out.trans (HB1.out.mono hbs)).alloc (by omega) _).grown hg2 (by rw [size_alloc]; omega) (fun p hp => (HO.out.own.block p hp).1))
      clear ho2 hg2 hat2
      go_roundw
      case rel => exact ⟨q + 1, A2, c2, _, _, by omega, by go_num, rfl, HH.out, HB2.out⟩
      case measure => simp [intOf]; omega
    · obtain rfl : q = n := by omega
      go_wp2
      go_ret
      exact ⟨A', c', r, d, rfl, HO.out, HB.out⟩
theorem wrapI64 {pz : Nat} (h : pz < 256) : IntKind.i64.wrap (pz : Int) = (pz : Int) := by
  rw [IntKind.wrap_i64]
  omega
theorem u8_turn (x : UInt8) (tz : Nat) (h : tz < 256) : Value.int .u8 (bits BinOp.xor IntKind.u8 (x.toNat : Int) (tz : Int)) = BV (x ^^^ UInt8.ofNat tz) := by
  have h1 : (x ^^^ UInt8.ofNat tz).toNat = x.toNat ^^^ tz := by
    rw [UInt8.toNat_xor, UInt8.toNat_ofNat']
    congr 1
    omega
  unfold BV
  rw [h1]
  exact congrArg (Value.int .u8) (u8_xor_nat _ _ x.toNat_lt h)
/-- one row more, in a step that another one guards -/
theorem wpList_appMW {w : World} {ops : Array Oper} {rest : List Oper} {o : Oper} {a : Act} {Q : Exit → Act → World → Prop} (hw : Region.wanted o (yielded ops a.tmps) = true) (s x : Operand) (T : TypeId) (hT : Try.prog.underlying T = some (.slice 31))
    (ho : o.op = .call { callee := .builtin .append, args := #[s, x], argTypes := #[T, T] }) {bo br bo' : Nat}
    {A : Option Addr} {n c : Nat} {M : List (List UInt8)} (hs : a.eval s = .slice A n c) (hM : MO w bo br A n c M) {X : Option Addr} {m d : Nat} {K : List (List UInt8)} (hx : a.eval x = .slice X m d)
    (hX : MO w bo' br X m d K) (hn : n ≤ 1000000) (hm : m ≤ 1000000) (hbase : bo ≤ w.heap.size) (N : Nat) (hN : N = n + m)
    (h : ∀ A' c' w', MO w' bo br A' N c' (M ++ K) → w.grownBy w' (A.map (·.block)) → wpList Try.prog ops Q rest (a.put o.dst (.slice A' N c')) w') : wpList Try.prog ops Q (o :: rest) a w := by
  refine wpList_step fun Kx hK => ?_
  rw [if_pos hw]
  obtain ⟨vs, hv, hr⟩ := hM.out
  obtain ⟨us, hu, hq⟩ := hX.out
  have h1 := mo_vs_one (by rw [hu.len, hX.len]) hq
  refine wp_appV w s x T ho bo 31 (.slice none 0 0) 24 hT info31 rfl hs hv hx hu.rd h1 (by omega) (by omega) hbase N hN fun A' c' w' h1 h2 _ => hK _ _ (h A' c' w' ⟨?_, _, h1, fun i q hi => ?_⟩ h2)
  · rw [List.length_append, hM.len, hX.len, hN]
  · have hl : vs.length = M.length := by rw [hv.len, hM.len]
    rw [List.getElem?_append] at hi
    rw [List.getElem?_append]
    split at hi
    · rename_i hlt
      obtain ⟨B', d', hv', ho'⟩ := hr i q hi
      rw [if_pos (by omega)]
      exact ⟨B', d', hv', own_grown ho' hv h2⟩
    · rename_i hlt
      rw [if_neg (by omega), hl]
      obtain ⟨B', d', hv', ho'⟩ := hq _ q hi
      exact ⟨B', d', hv', own_grown ho' hv h2⟩
set_option maxHeartbeats 4000000 in
theorem fits_law (kz mz sz : Nat) (B : Option Addr) (m d : Nat) (l : List UInt8) (az pz tz : Nat) (w : World) (hX : Rd w B m l) (hmd : m ≤ d) (h1 : kz < 256) (h2 : mz < 256) (h3 : sz < 256) (h4 : az < 256) (h5 : pz < 256) (h6 : tz < 256) :
    Calls Try.prog 9 #[.agg #[.int .u8 (kz : Int), .int .u8 (mz : Int), .int .u8 (sz : Int), .slice B m d], .int .u8 (az : Int), .int .u8 (pz : Int), .int .u8 (tz : Int)] w fun e w' => e = .returned (.bool true) ∧ Below w.heap.size w w' := by
  obtain ⟨mm, hmm⟩ : ∃ mm, mm = 1 + mz % 8 := ⟨_, rfl⟩
  obtain ⟨ss, hss⟩ : ∃ ss, ss = 1 + sz % 20 := ⟨_, rfl⟩
  obtain ⟨k, hk⟩ : ∃ k, k = 1 + kz % 8 := ⟨_, rfl⟩
  obtain ⟨n, hn⟩ : ∃ n, n = 1 + kz % 8 + mm % 9 := ⟨_, rfl⟩
  obtain ⟨s, hs⟩ : ∃ s, s = ss % 21 := ⟨_, rfl⟩
  have hk1 : 1 ≤ k := by omega
  have hk8 : k ≤ 8 := by omega
  have hkn : k < n := by omega
  have hn16 : n ≤ 16 := by omega
  have hs1 : 1 ≤ s := by omega
  have hs20 : s ≤ 20 := by omega
  have hmm2 : mm < 256 := by omega
  have hss2 : ss < 256 := by omega
  obtain ⟨w0, hw0⟩ : ∃ w0, w.alloc (.cells #[.int .u8 (kz : Int), .int .u8 (mz : Int), .int .u8 (sz : Int), .slice B m d] 66) = w0 := ⟨_, rfl⟩
  have HBX : Hid (w0.heap[w.heap.size]? = some (.cells #[.int .u8 (kz : Int), .int .u8 (mz : Int), .int .u8 (sz : Int), .slice B m d] 66 (0, 0))) := by rw [← hw0]; exact heap_alloc_new _ _
  have HB0 : Hid (Below w.heap.size w w0) := by rw [← hw0]; exact balloc (Below.refl _ _) _
  have hs0 : w0.heap.size = w.heap.size + 1 := by rw [← hw0]; exact size_alloc _ _
  have HKN := Lib.hid (And.intro hk (And.intro hn hs))
  have c1 : w0.cell? ⟨w.heap.size, 1, none⟩ = some (.int .u8 (mz : Int)) := cell_of_row _ _ 1 _ 66 (0, 0) HBX.out
  have c2 : w0.cell? ⟨w.heap.size, 2, none⟩ = some (.int .u8 (sz : Int)) := cell_of_row _ _ 2 _ 66 (0, 0) HBX.out
  have f1 : w0.frozen? ⟨w.heap.size, 1, none⟩ = false := frozen_of_row _ _ 1 _ 66 HBX.out
  have f2 : w0.frozen? ⟨w.heap.size, 2, none⟩ = false := frozen_of_row _ _ 2 _ 66 HBX.out
  obtain ⟨w1, hw1⟩ : ∃ w1, (w0.setCell ⟨w.heap.size, 1, none⟩ (.int .u8 (1 + (mz : Int) % 8))).setCell ⟨w.heap.size, 2, none⟩ (.int .u8 (1 + (sz : Int) % 20)) = w1 := ⟨_, rfl⟩
  have HBY : Hid (w1.heap[w.heap.size]? = some (.cells #[.int .u8 (kz : Int), .int .u8 (mm : Int), .int .u8 (ss : Int), .slice B m d] 66 (0, 0))) := by
    have e1 : (1 + (mz : Int) % 8) = (mm : Int) := by omega
    have e2 : (1 + (sz : Int) % 20) = (ss : Int) := by omega
    rw [← hw1, e1, e2]
    exact heap_setCell_same _ _ _ _ _ _ (heap_setCell_same _ _ _ _ _ _ HBX.out)
  have HB1 : Hid (Below w.heap.size w w1) := by rw [← hw1]; exact (HB0.out.setCell (Nat.le_refl _) _).setCell (Nat.le_refl _) _
  have k0 : w1.cell? ⟨w.heap.size, 0, none⟩ = some (.int .u8 (kz : Int)) := cell_of_row _ _ 0 _ 66 (0, 0) HBY.out
  have k1 : w1.cell? ⟨w.heap.size, 1, none⟩ = some (.int .u8 (mm : Int)) := cell_of_row _ _ 1 _ 66 (0, 0) HBY.out
  have k2 : w1.cell? ⟨w.heap.size, 2, none⟩ = some (.int .u8 (ss : Int)) := cell_of_row _ _ 2 _ 66 (0, 0) HBY.out
  have k3 : w1.cell? ⟨w.heap.size, 3, none⟩ = some (.slice B m d) := cell_of_row _ _ 3 _ 66 (0, 0) HBY.out
  clear hmm hss
  have HX0 := Lib.hid hX
  clear hX
  clear hk hn hs
  go_enter Try.func9, Try.ntmps9
  (try rw [hw0])
  go_wp2_with fail
  clear k0 k1 k2 k3 c1 c2 f1 f2 hw0 hw1
  refine (lmade_k kz mm ss k n s B m d l w1 (HX0.out.below HB1.out (Nat.le_refl _)) hmd h1 (by omega) (by omega) HKN.out.1 HKN.out.2.1 HKN.out.2.2).mono ?_
  rintro e w2 ⟨g, gf, A, c, S, dS, rfl, hC, hM, hkd, hB⟩
  have HB2 : Hid (Below w.heap.size w w2) := HB1.out.trans (hB.mono HB1.out.size)
  have HC2 := Lib.hid hC
  have HD2 := Lib.hid hM.mr
  clear hC hM hB
  go_wp2_with fail
  refine (enc_yes (g := g) S dS s (cutF s l) w2 HC2.out HD2.out (by omega)).mono ?_
  rintro e w3 ⟨Ae, ce, rfl, hM, hB⟩
  have HB3 : Hid (Below w.heap.size w w3) := HB2.out.trans (hB.mono HB2.out.size)
  have HC3 := Lib.hid (HC2.out.below hB (Nat.le_refl _))
  have hnc := hM.capn
  have HE3 := Lib.hid (show MO w3 w2.heap.size w2.heap.size Ae n ce (tabM n s (encF k (cutF s l))) from hM)
  clear hM hB HC2 HD2
  go_wp2_with (go_at_call 13; refine (all_yes _ HC3.out).mono ?_; rintro e w' ⟨rfl, rfl⟩)
  refine (fits_yes (g := g) Ae ce (cutF s l) w3 HC3.out HE3.out.mr hnc (by omega)).mono ?_
  rintro e w4 ⟨rfl, hB⟩
  have HB4 : Hid (Below w.heap.size w w4) := HB3.out.trans (hB.mono HB3.out.size)
  have HC4 := Lib.hid (HC3.out.below hB (Nat.le_refl _))
  have HE4 := Lib.hid (HE3.out.mr.below hB (Nat.le_refl _))
  clear hB HC3 HE3
  have hzw : wrap64 (az : Int) = (az : Int) := by unfold wrap64; omega
  obtain ⟨i, hi⟩ : ∃ i, i = az % n := ⟨_, rfl⟩
  have hin : i < n := by rw [hi]; exact Nat.mod_lt _ (by omega)
  have hzi : ((az : Int)).tmod (n : Int) = (i : Int) := by rw [hi]; rfl
  have hpw : wrap64 (pz : Int) = (pz : Int) := by unfold wrap64; omega
  obtain ⟨p, hp⟩ : ∃ p, p = pz % s := ⟨_, rfl⟩
  have hps : p < s := by rw [hp]; exact Nat.mod_lt _ (by omega)
  have hpp : ((pz : Int)).tmod (s : Int) = (p : Int) := by rw [hp]; rfl
  clear hi hp
  have hs0' : ((s : Int) == 0) = false := beq_eq_false_iff_ne.2 (by omega)
  have hn0' : ((n : Int) == 0) = false := beq_eq_false_iff_ne.2 (by omega)
  obtain ⟨ad, Bi, di, ri, rfl, _, hri, hci, hdi⟩ := HE4.out.row hin
  rw [tabM_at _ _ hin] at hri
  injection hri with hri
  rw [← hri, rowL_len] at hci
  have hin0 : (0 : Int) ≤ (i : Int) := by omega
  have hin1 : (i : Int) < n := by omega
  have hps0 : (0 : Int) ≤ (p : Int) := by omega
  have hps1 : (p : Int) < s := by omega
  clear hri hdi
  go_wp2_with fail
  refine (copyl_any (some ad) n ce s (encF k (cutF s l)) w4 HE4.out (by omega) hs1 (by omega)).mono ?_
  rintro e w5 ⟨A5, c5, r, dd, rfl, hA, hB⟩
  obtain ⟨g5, cur, rfl, hg5, hcur⟩ := hA.addr (by omega)
  have HB5 : Hid (Below w.heap.size w w5) := HB4.out.trans (hB.mono HB4.out.size)
  have HC5 := Lib.hid (HC4.out.below hB (Nat.le_refl _))
  have HE5 := Lib.hid (HE4.out.below hB (Nat.le_refl _))
  have hc5 := hA.cell rfl hin
  obtain ⟨hc6, hf6⟩ := hA.elem hin hps
  obtain ⟨x, hx⟩ : ∃ x, encF k (cutF s l) i p = x := ⟨_, rfl⟩
  rw [hx] at hc6
  have HA5 := Lib.hid hA
  have HXX := Lib.hid hx
  have hne5 : g5 ≠ r i := fun e => by
    obtain ⟨cr, q1, _⟩ := hA.cells i hin
    rw [← e, hcur] at q1
    injection q1 with q1
    injection q1 with _ q1 _
    cases q1
  have HS5 : Hid (∀ v, (w5.setCell ⟨r i, p, none⟩ v).cell? ⟨g5, i, none⟩ = some (.slice (some ⟨r i, 0, none⟩) s (dd i))) := fun v => by
    rw [cell_of_row _ g5 i cur 31 (0, 0) ((Below.heap_setCell _ _ _ _ hne5).trans hcur), ← cell_of_row _ g5 i cur 31 (0, 0) hcur]
    exact hc5
  have HBL := Lib.hid hB
  have hnc5 := hA.own.cap
  have hs45 := HB4.out.size
  clear hA hB hcur hci hx hne5 HC5 HE5
  have hsz : ¬ (s = 0) := by omega
  have hpw2 := wrapI64 h5
  go_upto_region 12 with (fail)
  refine wp_region_held_drew (S := fun u : World => u.cell? ⟨g5, i, none⟩ = some (.slice (some ⟨r i, 0, none⟩) s (dd i))) (by kernel_rfl) (by exact hc5) (fun hHeld => ?_)
  refine wpAnyH_take (i := 0) (oi := ⟨some 76, _, _, _, _, _⟩) (v := ?_) rfl (by kernel_rfl) (by kernel_rfl) (by kernel_rfl) (fun _ _ _ h => h) (Or.inl ⟨by rfl, ?_⟩) (by assumption) ?_
  rotate_left
  · intro w hSw
    (try dsimp only at hSw)
    go_simp
    all_goals (with_reducible rfl)
  try simp only [Act.put, List.setIfInBounds_toArray, List.set_cons_zero, List.set_cons_succ]
  refine wpAnyH_take (i := 1) (oi := ⟨some 77, _, _, _, _, _⟩) (v := ?_) rfl (by kernel_rfl) (by kernel_rfl) (by kernel_rfl) (fun _ _ _ h => h) (Or.inl ⟨by rfl, ?_⟩) (by assumption) ?_
  rotate_left
  · intro w hSw
    (try dsimp only at hSw)
    go_simp
    all_goals (with_reducible rfl)
  try simp only [Act.put, List.setIfInBounds_toArray, List.set_cons_zero, List.set_cons_succ]
  refine wpAnyH_take (i := 2) (oi := ⟨some 78, _, _, _, _, _⟩) (v := ?_) rfl (by kernel_rfl) (by kernel_rfl) (by kernel_rfl) (fun _ _ _ h => h) (Or.inl ⟨by rfl, ?_⟩) (by assumption) ?_
  rotate_left
  · intro w hSw
    (try dsimp only at hSw)
    go_simp
    all_goals (with_reducible rfl)
  try simp only [Act.put, List.setIfInBounds_toArray, List.set_cons_zero, List.set_cons_succ]
  refine wpAnyH_take (i := 3) (oi := ⟨some 79, _, _, _, _, _⟩) (v := ?_) rfl (by kernel_rfl) (by kernel_rfl) (by kernel_rfl) (fun _ _ _ h => h) (Or.inl ⟨by rfl, ?_⟩) (by assumption) ?_
  rotate_left
  · intro w hSw
    (try dsimp only at hSw)
    have hcc := hSw
    go_simp
    all_goals (with_reducible rfl)
  try simp only [Act.put, List.setIfInBounds_toArray, List.set_cons_zero, List.set_cons_succ]
  refine wpAnyH_take (i := 4) (oi := ⟨some 80, _, _, _, _, _⟩) (v := ?_) rfl (by kernel_rfl) (by kernel_rfl) (by kernel_rfl) (fun _ _ _ h => h) (Or.inl ⟨by rfl, ?_⟩) (by assumption) ?_
  rotate_left
  · intro w hSw
    (try dsimp only at hSw)
    go_simp
    all_goals (with_reducible rfl)
  try simp only [Act.put, List.setIfInBounds_toArray, List.set_cons_zero, List.set_cons_succ]
  refine wpAnyH_take (i := 5) (oi := ⟨some 81, _, _, _, _, _⟩) (v := ?_) rfl (by kernel_rfl) (by kernel_rfl) (by kernel_rfl) (fun _ _ _ h => h) (Or.inl ⟨by rfl, ?_⟩) (by assumption) ?_
  rotate_left
  · intro w hSw
    (try dsimp only at hSw)
    go_simp
    all_goals (with_reducible rfl)
  try simp only [Act.put, List.setIfInBounds_toArray, List.set_cons_zero, List.set_cons_succ]
  refine wpAnyH_take (i := 6) (oi := ⟨some 82, _, _, _, _, _⟩) (v := ?_) rfl (by kernel_rfl) (by kernel_rfl) (by kernel_rfl) (fun _ _ _ h => h) (Or.inl ⟨by rfl, ?_⟩) (by assumption) ?_
  rotate_left
  · intro w hSw
    (try dsimp only at hSw)
    go_simp
    all_goals (with_reducible rfl)
  try simp only [Act.put, List.setIfInBounds_toArray, List.set_cons_zero, List.set_cons_succ]
  refine wpAnyH_take (i := 7) (oi := ⟨some 83, _, _, _, _, _⟩) (v := ?_) rfl (by kernel_rfl) (by kernel_rfl) (by kernel_rfl) (fun _ _ _ h => h) (Or.inl ⟨by rfl, ?_⟩) (by assumption) ?_
  rotate_left
  · intro w hSw
    (try dsimp only at hSw)
    go_simp
    all_goals (with_reducible rfl)
  try simp only [Act.put, List.setIfInBounds_toArray, List.set_cons_zero, List.set_cons_succ]
  refine wpAnyH_take (i := 8) (oi := ⟨some 84, _, _, _, _, _⟩) (v := ?_) rfl (by kernel_rfl) (by kernel_rfl) (by kernel_rfl) (fun _ _ _ h => h) (Or.inl ⟨by rfl, ?_⟩) (by assumption) ?_
  rotate_left
  · intro w hSw
    (try dsimp only at hSw)
    go_simp
    all_goals (with_reducible rfl)
  try simp only [Act.put, List.setIfInBounds_toArray, List.set_cons_zero, List.set_cons_succ]
  refine wpAnyH_take (i := 9) (oi := ⟨some 85, _, _, _, _, _⟩) (v := ?_) rfl (by kernel_rfl) (by kernel_rfl) (by kernel_rfl) (fun _ _ _ h => h) (Or.inl ⟨by rfl, ?_⟩) (by assumption) ?_
  rotate_left
  · intro w hSw
    (try dsimp only at hSw)
    have hcc := hSw
    go_simp
    all_goals (with_reducible rfl)
  try simp only [Act.put, List.setIfInBounds_toArray, List.set_cons_zero, List.set_cons_succ]
  refine wpAnyH_take (i := 10) (oi := ⟨some 86, _, _, _, _, _⟩) (v := ?_) rfl (by kernel_rfl) (by kernel_rfl) (by kernel_rfl) (fun _ _ _ h => h) (Or.inl ⟨by rfl, ?_⟩) (by assumption) ?_
  rotate_left
  · intro w hSw
    (try dsimp only at hSw)
    go_simp
    all_goals (with_reducible rfl)
  try simp only [Act.put, List.setIfInBounds_toArray, List.set_cons_zero, List.set_cons_succ]
  refine wpAnyH_take (i := 11) (oi := ⟨some 87, _, _, _, _, _⟩) (v := ?_) rfl (by kernel_rfl) (by kernel_rfl) (by kernel_rfl) (fun _ _ _ h => h) (Or.inl ⟨by rfl, ?_⟩) (by assumption) ?_
  rotate_left
  · intro w hSw
    (try dsimp only at hSw)
    go_simp
    all_goals (with_reducible rfl)
  try simp only [Act.put, List.setIfInBounds_toArray, List.set_cons_zero, List.set_cons_succ]
  refine wpAnyH_take (i := 12) (oi := ⟨some 88, _, _, _, _, _⟩) (v := ?_) rfl (by kernel_rfl) (by kernel_rfl) (by kernel_rfl) (fun _ _ _ h => h) (Or.inl ⟨by rfl, ?_⟩) (by assumption) ?_
  rotate_left
  · intro w hSw
    (try dsimp only at hSw)
    go_simp
    all_goals (with_reducible rfl)
  try simp only [Act.put, List.setIfInBounds_toArray, List.set_cons_zero, List.set_cons_succ]
  refine wpAnyH_take (i := 14) (oi := ⟨some 90, _, _, _, _, _⟩) (v := ?_) rfl (by kernel_rfl) (by kernel_rfl) (by kernel_rfl) (fun _ _ _ h => h) (Or.inl ⟨by rfl, ?_⟩) (by assumption) ?_
  rotate_left
  · intro w hSw
    (try dsimp only at hSw)
    go_simp
    all_goals (with_reducible rfl)
  try simp only [Act.put, List.setIfInBounds_toArray, List.set_cons_zero, List.set_cons_succ]
  refine wpAnyH_ready (rs := [13]) (by kernel_rfl) (by simp) (AllReadyH.cons (o := ⟨some 89, _, _, _, _, _⟩) rfl (fun K hK => ?_) AllReadyH.nil)
  go_simp
  refine hK.out _ _ (by exact hHeld) (fun hHeld => ?_)
  clear hK K
  try simp only [Act.put, List.setIfInBounds_toArray, List.set_cons_zero, List.set_cons_succ]
  refine wpAnyH_take (i := 15) (oi := ⟨some 91, _, _, _, _, _⟩) (v := ?_) rfl (by kernel_rfl) (by kernel_rfl) (by kernel_rfl) (fun _ _ _ h => h) (Or.inl ⟨by rfl, ?_⟩) (by assumption) ?_
  rotate_left
  · intro w hSw
    (try dsimp only at hSw)
    go_simp
    all_goals (with_reducible rfl)
  try simp only [Act.put, List.setIfInBounds_toArray, List.set_cons_zero, List.set_cons_succ]
  refine wpAnyH_take (i := 16) (oi := ⟨some 92, _, _, _, _, _⟩) (v := ?_) rfl (by kernel_rfl) (by kernel_rfl) (by kernel_rfl) (fun _ _ _ h => h) (Or.inl ⟨by rfl, ?_⟩) (by assumption) ?_
  rotate_left
  · intro w hSw
    (try dsimp only at hSw)
    go_simp
    all_goals (with_reducible rfl)
  try simp only [Act.put, List.setIfInBounds_toArray, List.set_cons_zero, List.set_cons_succ]
  refine wpAnyH_ready (rs := [17]) (by kernel_rfl) (by simp) (AllReadyH.cons (o := ⟨none, _, _, _, _, _⟩) rfl (fun K hK => ?_) AllReadyH.nil)
  go_simp
  refine hK.out _ _ (by exact HS5.out _) (fun hHeld => ?_)
  clear hK K
  try simp only [Act.put, List.setIfInBounds_toArray, List.set_cons_zero, List.set_cons_succ]
  refine wpAnyH_done (by kernel_rfl) ?_ _
  obtain ⟨w6, hw6⟩ : ∃ w6, (w5.setCell ⟨r i, p, none⟩ (Value.int .u8 (bits BinOp.xor IntKind.u8 (x.toNat : Int) (tz : Int)))).drew = w6 := ⟨_, rfl⟩
  try rw [hw6]
  have HA6 : Hid (Apart w6 w4.heap.size n s (some ⟨g5, 0, none⟩) c5 (turnF i p (UInt8.ofNat tz) (encF k (cutF s l))) r dd) := by
    have h0 := (HA5.out.set (j := p) hin (x ^^^ UInt8.ofNat tz)).drew
    rw [← u8_turn x tz h6, hw6] at h0
    have e0 : (fun a b => if a = i ∧ b = p then x ^^^ UInt8.ofNat tz else encF k (cutF s l) a b) = turnF i p (UInt8.ofNat tz) (encF k (cutF s l)) := by
      funext a b
      unfold turnF
      by_cases hab : a = i ∧ b = p
      · rw [if_pos hab, if_pos hab, hab.1, hab.2, HXX.out]
      · rw [if_neg hab, if_neg hab]
    rwa [e0] at h0
  have HBD : Hid (Below w4.heap.size w4 w6) := by rw [← hw6]; exact (HA5.out.setBelow HBL.out (Nat.le_refl _) hin _).drew
  have HC6 := Lib.hid (HC4.out.below HBD.out (Nat.le_refl _))
  have HE6 := Lib.hid (HE4.out.below HBD.out (Nat.le_refl _))
  have HB6 : Hid (Below w.heap.size w w6) := HB4.out.trans (HBD.out.mono HB4.out.size)
  clear hc5 hc6 hf6 hw6 HC4 HE4 HA5 HXX HS5 HBL HBD HB5
  have h7 := fits_any (g := g) (some ⟨g5, 0, none⟩) n c5 _ w6 HC6.out HA6.out.mr (by omega) hnc5 (fun r hr => by rw [tab_short r hr]; omega)
  rw [fits_turn (by omega) hkn (by omega) (by omega) hin hps] at h7
  have H7 := Lib.hid h7
  clear h7
  obtain ⟨n1, hn1⟩ : ∃ n1, n1 = n - 1 := ⟨_, rfl⟩
  have hn1i : (n : Int) - 1 = (n1 : Int) := by omega
  have hn1w : wrap64 ((n : Int) - 1) = (n1 : Int) := by unfold wrap64; omega
  have hn1l : n1 < n := by omega
  clear hn1
  by_cases htz : tz = 0
  · have H7' : Hid (Calls Try.prog 15 #[.pointer (some ⟨g, 0, none⟩), .slice (some ⟨g5, 0, none⟩) n c5] w6 fun e w' => e = .returned (.bool true) ∧ Below w6.heap.size w6 w') := by
      have h := H7.out
      rw [htz] at h
      exact h
    replace H7 := H7'
    clear H7'
    subst htz
    go_wp2_with fail
    refine H7.out.mono ?_
    rintro e w7 ⟨rfl, hB⟩
    have HB7 : Hid (Below w.heap.size w w7) := HB6.out.trans (hB.mono HB6.out.size)
    have HC7 := Lib.hid (HC6.out.below hB (Nat.le_refl _))
    have HE7 := Lib.hid (HE6.out.below hB (Nat.le_refl _))
    clear hB H7 HC6 HE6 HA6
    go_wp2_with fail
    refine (copym_any (some ad) n ce _ w7 HE7.out (by omega) (fun r hr => by rw [tab_short r hr]; omega)).mono ?_
    rintro e w8 ⟨A8, c8, rfl, hM, hB⟩
    have HB8 : Hid (Below w.heap.size w w8) := HB7.out.trans (hB.mono HB7.out.size)
    have HC8 := Lib.hid (HC7.out.below hB (Nat.le_refl _))
    have hnc8 := hM.capn
    have HM8 := Lib.hid hM
    have hs78 := hB.size
    have HB78 := Lib.hid hB
    clear hM hB HE7
    have hsl := slice_hi (E := 31) 32 Try.underlying32 info31 A8 n c8 n1 (by omega)
    have h9 := fits_any (g := g) A8 n1 c8 _ w8 HC8.out (HM8.out.mr.take (by omega)) (by omega) (by omega) (fun r hr => by rw [tab_short r (List.mem_of_mem_take hr)]; omega)
    rw [fits_len (by rw [List.length_take, tabM_len]; omega)] at h9
    have H9 := Lib.hid h9
    clear h9
    go_wp2_with fail
    refine H9.out.mono ?_
    rintro e w9 ⟨rfl, hB⟩
    have HB9 : Hid (Below w.heap.size w w9) := HB8.out.trans (hB.mono HB8.out.size)
    have HC9 := Lib.hid (HC8.out.below hB (Nat.le_refl _))
    have HM9 := Lib.hid (HM8.out.below hB (Nat.le_refl _))
    have HB79 : Hid (Below w7.heap.size w7 w9) := HB78.out.trans (hB.mono hs78)
    have hs79 := HB79.out.size
    clear hB H9 HC8 HC9 HM8 HB78 hsl
    obtain ⟨g8, B0, d0, r0, rfl, _, _, _, hr0, hc0, hO0⟩ := HM9.out.row (show 0 < n by omega)
    rw [tabM_at _ _ (show 0 < n by omega)] at hr0
    injection hr0 with hr0
    rw [← hr0, rowL_len] at hc0 hO0
    have HL0 := Lib.hid (lit_one hO0)
    clear hr0 hO0
    have hn00 : (0 : Int) < n := by omega
    go_wp2_with (at_builtin; refine wpList_appMW (by first | rfl | kernel_rfl | simp [Region.wanted, yielded]) (.tmp 111) (.tmp 115) 32 Try.underlying32 rfl rfl (HM9.out.alloc _) rfl HL0.out (by omega) (by omega) (by rw [size_alloc]; omega) (n + 1) rfl ?_; intro A10 c10 w10 hM10 hg10)
    have hnc10 := hM10.capn
    have HC10 := Lib.hid (HC7.out.below ((HB79.out.alloc hs79 _).grown hg10 (by rw [size_alloc]; omega) (fun j hj => (mo_block HM9.out j hj).1)) (Nat.le_refl _))
    have HB10 : Hid (Below w.heap.size w w10) := (HB9.out.alloc HB9.out.size _).grown hg10 (by rw [size_alloc]; have := HB9.out.size; omega) (fun j hj => Nat.le_trans HB7.out.size (mo_block HM9.out j hj).1)
    have h11 := fits_any (g := g) A10 (n + 1) c10 _ w10 HC10.out hM10.mr (by omega) hnc10 (fun r hr => by
      rcases List.mem_append.1 hr with h | h
      · rw [tab_short r h]; omega
      · rw [List.mem_singleton] at h
        rw [h, rowL_len]; omega)
    rw [fits_len (by rw [List.length_append, tabM_len]; simp)] at h11
    have H11 := Lib.hid h11
    clear h11 hM10 hg10
    refine H11.out.mono ?_
    rintro e w11 ⟨rfl, hB⟩
    have HB11 : Hid (Below w.heap.size w w11) := HB10.out.trans (hB.mono HB10.out.size)
    clear hB H11
    go_wp2_with fail
    refine (awake_any w11).mono ?_
    rintro e w12 ⟨rfl, hB⟩
    go_wp2
    go_ret
    exact ⟨rfl, HB11.out.trans (hB.mono HB11.out.size)⟩
  · have H7' : Hid (Calls Try.prog 15 #[.pointer (some ⟨g, 0, none⟩), .slice (some ⟨g5, 0, none⟩) n c5] w6 fun e w' => e = .returned (.bool false) ∧ Below w6.heap.size w6 w') := by
      have h := H7.out
      rw [decide_eq_false (fun e0 => htz (by have := congrArg UInt8.toNat e0; rw [UInt8.toNat_ofNat'] at this; simp at this; omega))] at h
      exact h
    replace H7 := H7'
    clear H7'
    have htz1 : ((tz : Int) == 0) = false := beq_eq_false_iff_ne.2 (by omega)
    have htz2 : ¬ ((tz : Int) = 0) := by omega
    go_wp2_with fail
    refine H7.out.mono ?_
    rintro e w7 ⟨rfl, hB⟩
    have HB7 : Hid (Below w.heap.size w w7) := HB6.out.trans (hB.mono HB6.out.size)
    have HC7 := Lib.hid (HC6.out.below hB (Nat.le_refl _))
    have HE7 := Lib.hid (HE6.out.below hB (Nat.le_refl _))
    clear hB H7 HC6 HE6 HA6
    go_wp2_with fail
    refine (copym_any (some ad) n ce _ w7 HE7.out (by omega) (fun r hr => by rw [tab_short r hr]; omega)).mono ?_
    rintro e w8 ⟨A8, c8, rfl, hM, hB⟩
    have HB8 : Hid (Below w.heap.size w w8) := HB7.out.trans (hB.mono HB7.out.size)
    have HC8 := Lib.hid (HC7.out.below hB (Nat.le_refl _))
    have hnc8 := hM.capn
    have HM8 := Lib.hid hM
    have hs78 := hB.size
    have HB78 := Lib.hid hB
    clear hM hB HE7
    have hsl := slice_hi (E := 31) 32 Try.underlying32 info31 A8 n c8 n1 (by omega)
    have h9 := fits_any (g := g) A8 n1 c8 _ w8 HC8.out (HM8.out.mr.take (by omega)) (by omega) (by omega) (fun r hr => by rw [tab_short r (List.mem_of_mem_take hr)]; omega)
    rw [fits_len (by rw [List.length_take, tabM_len]; omega)] at h9
    have H9 := Lib.hid h9
    clear h9
    go_wp2_with fail
    refine H9.out.mono ?_
    rintro e w9 ⟨rfl, hB⟩
    have HB9 : Hid (Below w.heap.size w w9) := HB8.out.trans (hB.mono HB8.out.size)
    have HC9 := Lib.hid (HC8.out.below hB (Nat.le_refl _))
    have HM9 := Lib.hid (HM8.out.below hB (Nat.le_refl _))
    have HB79 : Hid (Below w7.heap.size w7 w9) := HB78.out.trans (hB.mono hs78)
    have hs79 := HB79.out.size
    clear hB H9 HC8 HC9 HM8 HB78 hsl
    obtain ⟨g8, B0, d0, r0, rfl, _, _, _, hr0, hc0, hO0⟩ := HM9.out.row (show 0 < n by omega)
    rw [tabM_at _ _ (show 0 < n by omega)] at hr0
    injection hr0 with hr0
    rw [← hr0, rowL_len] at hc0 hO0
    have HL0 := Lib.hid (lit_one hO0)
    clear hr0 hO0
    have hn00 : (0 : Int) < n := by omega
    go_wp2_with (at_builtin; refine wpList_appMW (by first | rfl | kernel_rfl | simp [Region.wanted, yielded]) (.tmp 111) (.tmp 115) 32 Try.underlying32 rfl rfl (HM9.out.alloc _) rfl HL0.out (by omega) (by omega) (by rw [size_alloc]; omega) (n + 1) rfl ?_; intro A10 c10 w10 hM10 hg10)
    have hnc10 := hM10.capn
    have HC10 := Lib.hid (HC7.out.below ((HB79.out.alloc hs79 _).grown hg10 (by rw [size_alloc]; omega) (fun j hj => (mo_block HM9.out j hj).1)) (Nat.le_refl _))
    have HB10 : Hid (Below w.heap.size w w10) := (HB9.out.alloc HB9.out.size _).grown hg10 (by rw [size_alloc]; have := HB9.out.size; omega) (fun j hj => Nat.le_trans HB7.out.size (mo_block HM9.out j hj).1)
    have h11 := fits_any (g := g) A10 (n + 1) c10 _ w10 HC10.out hM10.mr (by omega) hnc10 (fun r hr => by
      rcases List.mem_append.1 hr with h | h
      · rw [tab_short r h]; omega
      · rw [List.mem_singleton] at h
        rw [h, rowL_len]; omega)
    rw [fits_len (by rw [List.length_append, tabM_len]; simp)] at h11
    have H11 := Lib.hid h11
    clear h11 hM10 hg10
    refine H11.out.mono ?_
    rintro e w11 ⟨rfl, hB⟩
    have HB11 : Hid (Below w.heap.size w w11) := HB10.out.trans (hB.mono HB10.out.size)
    clear hB H11
    go_wp2_with fail
    refine (awake_any w11).mono ?_
    rintro e w12 ⟨rfl, hB⟩
    go_wp2
    go_ret
    exact ⟨rfl, HB11.out.trans (hB.mono HB11.out.size)⟩
end Go.Proofs.Ytobbjeephmfdeaa
