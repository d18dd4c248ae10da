/- Split: stripes. -/
import Derived.Test.YtobbjeephmfdeaaSplB
import Derived.Test.YtobbjeephmfdeaaPickN
namespace Go.Proofs.Ytobbjeephmfdeaa
open Go.RowKit Go.Coop Go.Shelf
set_option maxRecDepth 100000

attribute [local go_sem] Oper.semAt_some

theorem info32 : (Try.prog.info? 32).map (fun i => (i.zero, i.size, i.bytes)) = some (some (.slice none 0 0), 1, 24) := by kernel_rfl
/-- stripes of one's own -/
structure TO (w : World) (base : Nat) (A : Option Addr) (n c : Nat) (Ts : List (List (List UInt8))) : Prop where
  len : Ts.length = n
  out : ∃ vs : List Value, OwnV w base 32 A n c vs ∧ ∀ (i : Nat) (T : List (List UInt8)), Ts[i]? = some T → ∃ (B : Option Addr) (d : Nat), vs[i]? = some (Value.slice B T.length d) ∧ MO w base base B T.length d T
theorem TO.nil (w : World) (base : Nat) : TO w base none 0 0 [] := ⟨rfl, [], OwnV.nil _ _ _, fun i T h => by simp at h⟩
/-- what it lies in stays -/
theorem TO.keep {w w' : World} {base : Nat} {A : Option Addr} {n c : Nat} {Ts : List (List (List UInt8))} (h : TO w base A n c Ts) (hk : ∀ (g : Nat) (cur : Array Value) (E : TypeId), w.heap[g]? = some (.cells cur E (0, 0)) → E = 32 ∨ E = 31 ∨ E = 5 → w'.heap[g]? = w.heap[g]?) : TO w' base A n c Ts := by
  obtain ⟨vs, hv, hr⟩ := h.out
  refine ⟨h.len, vs, hv.at_block fun g hA => ?_, fun i T hi => ?_⟩
  · obtain ⟨cur, hg, _⟩ := hv.cells_at g hA
    exact hk g cur 32 hg (.inl rfl)
  · obtain ⟨B, d, h1, h2⟩ := hr i T hi
    refine ⟨B, d, h1, h2.keep fun g cur E hg ho => hk g cur E hg ?_⟩
    rcases ho with ⟨e, _⟩ | ⟨e, _⟩
    · exact .inr (.inl e)
    · exact .inr (.inr e)
theorem TO.below {w w' : World} {base B : Nat} {A : Option Addr} {n c : Nat} {Ts : List (List (List UInt8))} (h : TO w base A n c Ts) (hb : Below B w w') (hB : w.heap.size ≤ B) : TO w' base A n c Ts :=
  h.keep fun g _ _ hg _ => hb.block g (by have := (Array.getElem?_eq_some_iff.1 hg).1; omega)
theorem TO.own {w w' : World} {row : Option Nat} {base : Nat} {A : Option Addr} {n c : Nat} {Ts : List (List (List UInt8))} (h : TO w base A n c Ts) (hg : w.grownBy w' row) (hr : ∀ r, row = some r → ∃ o : Obj, w.heap[r]? = some o ∧ o.isCells = false) : TO w' base A n c Ts :=
  h.keep fun g cur E hgc _ => hg.block g (Array.getElem?_eq_some_iff.1 hgc).1 fun e => by
    obtain ⟨o, ho, hc⟩ := hr g e.symm
    rw [hgc] at ho
    injection ho with ho
    subst ho
    cases hc
/-- a stripe more, by append, as a step of a region -/
theorem step_appT {w : World} {ops : Array Oper} {o : Oper} {a : Act} {K : Act → World → Prop} {Q : Exit → Act → World → Prop} {Z : Prop} (hgd : o.guard = none) (s x : Operand)
    (ho : o.op = .call { callee := .builtin .append, args := #[s, x], argTypes := #[33, 33] }) {base : Nat}
    {A : Option Addr} {n c : Nat} {Ts : List (List (List UInt8))} (hs : a.eval s = .slice A n c) (hT : TO w base A n c Ts) {X : Option Addr} {d : Nat} (hx : a.eval x = .slice X 1 d)
    {B : Option Addr} {m e : Nat} {T : List (List UInt8)} (hX : RdV w X 1 [.slice B m e]) (hM : MO w base base B m e T) (hn : n ≤ 1000000) (hbase : base ≤ w.heap.size) (N : Nat) (hN : N = n + 1)
    (h : ∀ A' c' w', TO w' base A' N c' (Ts ++ [T]) → w.grownBy w' (A.map (·.block)) → (∀ j, A.map (·.block) = some j → base ≤ j ∧ ∃ cur : Array Value, w.heap[j]? = some (.cells cur 32 (0, 0))) → K (a.put o.dst (.slice A' N c')) w') :
    if Region.wanted o (yielded ops a.tmps) = true then Oper.wp Try.prog o a w K Q else Z := by
  have hw : Region.wanted o (yielded ops a.tmps) = true := by simp [Region.wanted, hgd]
  rw [if_pos hw]
  obtain ⟨vs, hv, hr⟩ := hT.out
  have hrow : ∀ j, A.map (·.block) = some j → base ≤ j ∧ ∃ cur : Array Value, w.heap[j]? = some (.cells cur 32 (0, 0)) := fun j hj => by
    rcases hv.row.2 with ⟨e1, _⟩ | ⟨g, cap, cur, e1, hb, hg, _⟩
    · injection e1 with e1; subst e1; cases hj
    · injection e1 with e1 _ _
      subst e1
      simp at hj
      subst hj
      exact ⟨hb, cur, hg⟩
  have hlm : T.length = m := hM.len
  refine wp_appV w s x 33 ho base 32 (.slice none 0 0) 24 Try.underlying33 info32 rfl hs hv hx hX (fun u hu => by simp at hu; subst hu; rfl) (by omega) (by omega) hbase N hN fun A' c' w' h1 h2 _ => h A' c' w' ?_ h2 hrow
  have hkeep : ∀ {B : Option Addr} {m d : Nat} {T : List (List UInt8)}, MO w base base B m d T → MO w' base base B m d T := fun {B m d T} hm => hm.keep fun g cur E hgc hE => h2.block g (Array.getElem?_eq_some_iff.1 hgc).1 fun e => by
    obtain ⟨_, cur', hg'⟩ := hrow g e.symm
    rw [hgc] at hg'
    injection hg' with hg'
    injection hg' with _ hg' _
    rcases hE with ⟨e', _⟩ | ⟨e', _⟩ <;> exact absurd (e'.symm.trans hg') (by decide)
  refine ⟨by rw [List.length_append, hT.len, hN]; rfl, _, h1, fun i q hi => ?_⟩
  have hl : vs.length = Ts.length := by rw [hv.len, hT.len]
  rw [List.getElem?_append] at hi
  rw [List.getElem?_append]
  split at hi
  · rename_i hlt
    obtain ⟨B', d', hv', ho'⟩ := hr i q hi
    rw [if_pos (by omega)]
    exact ⟨B', d', hv', hkeep ho'⟩
  · rename_i hlt
    have : i - Ts.length = 0 := by
      have := (List.getElem?_eq_some_iff.1 hi).1
      simpa using this
    rw [this] at hi
    simp at hi
    subst hi
    rw [if_neg (by omega), hl, this, hlm]
    exact ⟨B, e, rfl, hkeep hM⟩

theorem split_none (p : Option Addr) (B : Option Addr) (len cap : Nat) (x : Int) (w : World) (h : NoCode w p) : Calls Try.prog 18 #[.pointer p, .slice B len cap, .int .i64 x] w (NotM w 1) := by
  have h' : NoCode ((w.alloc (.cells #[.pointer p] 26)).alloc (.cells #[.int .i64 x] 3)) p := by
    rcases h with rfl | ⟨g, rfl, hc⟩
    · exact .inl rfl
    · have hg : g < w.heap.size := block_lt_of_cell hc
      exact .inr ⟨g, rfl, by rw [World.cell?_alloc_lt _ _ _ (by rw [size_alloc]; exact Nat.lt_succ_of_lt hg), World.cell?_alloc_lt _ _ _ hg]; exact hc⟩
  have H := Lib.hid h'
  clear h h'
  have hro : Fence.wide.round = none := rfl
  have hfn : ∀ f, Fence.wide.fn f := fun _ => trivial
  refine (callsIn_wide (n := 5)).1 ?_
  refine callsIn_of_wp_marks Try.func18 rfl trivial ?_ hro
  simp only [Try.ntmps18, List.size_toArray, List.length_cons, List.length_nil, Nat.reduceAdd, Nat.reduceSub, Array.replicate_succ, Array.replicate_zero, List.push_toArray, List.append_toArray, List.nil_append, List.cons_append]
  gi_wp2_with (gi_at_call 43; refine (callsOpen (r := none) (cmade_no _ _ H.out)).mono ?_; rintro e w' ⟨rfl, rfl⟩)
  exact ⟨_, results_tmp2 rfl _ _ _, rfl, ((Below.refl _ w).alloc (Nat.le_refl _) _).alloc (by simp) _⟩
theorem split_arg {g n k gf c : Nat} {A : Option Addr} (B : Option Addr) (len cap : Nat) (x : Int) (w : World) (h : CodeAt w g n k gf A c) (hx : x < 1 ∨ 65536 < x) : Calls Try.prog 18 #[.pointer (some ⟨g, 0, none⟩), .slice B len cap, .int .i64 x] w (NotM w 2) := by
  have H := Lib.hid ((h.alloc (.cells #[.pointer (some ⟨g, 0, none⟩)] 26)).alloc (.cells #[.int .i64 x] 3))
  clear h
  have hro : Fence.wide.round = none := rfl
  have hfn : ∀ f, Fence.wide.fn f := fun _ => trivial
  refine (callsIn_wide (n := 5)).1 ?_
  refine callsIn_of_wp_marks Try.func18 rfl trivial ?_ hro
  simp only [Try.ntmps18, List.size_toArray, List.length_cons, List.length_nil, Nat.reduceAdd, Nat.reduceSub, Array.replicate_succ, Array.replicate_zero, List.push_toArray, List.append_toArray, List.nil_append, List.cons_append]
  by_cases h1 : x < 1
  · gi_wp2_with (gi_at_call 43; refine (callsOpen (r := none) (cmade_yes _ H.out)).mono ?_; rintro e w' ⟨rfl, rfl⟩)
    exact ⟨_, results_tmp2 rfl _ _ _, rfl, ((Below.refl _ w).alloc (Nat.le_refl _) _).alloc (by simp) _⟩
  · have h2 := hx.resolve_left h1
    gi_wp2_with (gi_at_call 43; refine (callsOpen (r := none) (cmade_yes _ H.out)).mono ?_; rintro e w' ⟨rfl, rfl⟩)
    exact ⟨_, results_tmp2 rfl _ _ _, rfl, ((Below.refl _ w).alloc (Nat.le_refl _) _).alloc (by simp) _⟩

/-- a piece -/
def pcs (K : Nat) (l : List UInt8) (x : Nat) : List UInt8 := (l.drop (x * K)).take K
/-- the stripe that a piece makes -/
def stripe (k size : Nat) (l : List UInt8) (x : Nat) : List (List UInt8) := tabM k size (cutF size (pcs (k * size) l x))
def nst (len K : Nat) : Nat := (len + K - 1) / K
theorem nst_eq {len K c : Nat} (hK : 1 ≤ K) (h1 : len ≤ c * K) (h2 : ∀ x, x < c → x * K < len) : c = nst len K := by
  unfold nst
  symm
  have e : (c + 1) * K = c * K + K := Nat.succ_mul _ _
  refine Nat.div_eq_of_lt_le ?_ ?_
  · cases c with
    | zero => omega
    | succ d =>
      have := h2 d (by omega)
      have e2 : (d + 1) * K = d * K + K := Nat.succ_mul _ _
      omega
  · omega
theorem chunk_rd {w : World} {X : Option Addr} {len K : Nat} {l : List UInt8} (h : Rd w X len l) (x : Nat) : Rd w (cutA X (min (x * K + K) len) (x * K)) (min (x * K + K) len - x * K) (pcs K l x) := by
  by_cases hx : x * K < len
  · have hl := h.len
    have e : pcs K l x = (l.take (min (x * K + K) len)).drop (x * K) := by
      unfold pcs
      rw [List.drop_take]
      by_cases h2 : x * K + K ≤ len
      · rw [show min (x * K + K) len - x * K = K by omega]
      · rw [show min (x * K + K) len - x * K = len - x * K by omega, List.take_of_length_le (by rw [List.length_drop]; omega), List.take_of_length_le (by rw [List.length_drop]; omega)]
    rw [e]
    exact (h.take (Nat.min_le_right _ _)).drop (by omega) (Nat.le_refl _)
  · have hl := h.len
    have e : pcs K l x = [] := by unfold pcs; rw [List.drop_eq_nil_of_le (by omega), List.take_nil]
    rw [e, show min (x * K + K) len - x * K = 0 by omega]
    exact Rd.nil _ _

/-- what stands between two rounds -/
def SplI (w : World) (g k size len K : Nat) (B : Option Addr) (cap : Nat) (l : List UInt8) (pre : List Nat) (W : World) : Prop :=
  ((∃ A c, Boxed W (w.heap.size + 2) 33 (.slice A pre.length c) ∧ TO W w.heap.size A pre.length c (pre.map (stripe k size l))) ∧ Boxed W w.heap.size 26 (.pointer (some ⟨g, 0, none⟩)) ∧ Boxed W (w.heap.size + 1) 3 (.int .i64 (size : Int)) ∧ Boxed W (w.heap.size + 3) 31 (.slice B len cap) ∧ Boxed W (w.heap.size + 4) 3 (.int .i64 (K : Int))) ∧ Below w.heap.size w W
theorem Boxed.own {W W' : World} {row : Option Nat} {b : Nat} {t : TypeId} {v : Value} (h : Boxed W b t v) (hg : W.grownBy W' row) (hr : ∀ r, row = some r → ∃ o : Obj, W.heap[r]? = some o ∧ o.isCells = false) : Boxed W' b t v :=
  h.kept hg fun e => by
    obtain ⟨o, ho, hc⟩ := hr b e.symm
    rw [show W.heap[b]? = _ from h] at ho
    injection ho with ho
    subst ho
    cases hc
theorem splI_own (w : World) (g k size len K : Nat) (B : Option Addr) (cap : Nat) (l : List UInt8) (C : Nat) (hC : w.heap.size ≤ C) : OwnFrom C (SplI w g k size len K B cap l) :=
  OwnFrom.and (Own.from (fun s X Y row hs hg hr => by
    obtain ⟨⟨A, c, h1, h2⟩, h3, h4, h5, h6⟩ := hs
    exact ⟨⟨A, c, Boxed.own h1 hg hr, h2.own hg hr⟩, Boxed.own h3 hg hr, Boxed.own h4 hg hr, Boxed.own h5 hg hr, Boxed.own h6 hg hr⟩) _) (ownFrom_below (Nat.le_refl _) hC)

section
variable {W W2 w4 : World} {base : Nat} {v : Value} {A : Option Addr}
theorem box4 {b : Nat} {t : TypeId} {u : Value} (h : Boxed W b t u) (ht : t ≠ 32) (hB2 : Below W.heap.size W W2) (hg4 : (W2.alloc (.cells #[v] 32)).grownBy w4 (A.map (·.block)))
    (hrow4 : ∀ j, A.map (·.block) = some j → base ≤ j ∧ ∃ cur : Array Value, (W2.alloc (.cells #[v] 32)).heap[j]? = some (.cells cur 32 (0, 0))) : Boxed w4 b t u := by
  have h2 : Boxed W2 b t u := (hB2.block b h.lt).trans h
  refine (h2.alloc (.cells #[v] 32)).kept hg4 fun e => ?_
  obtain ⟨_, cur, hc⟩ := hrow4 b e.symm
  rw [show (W2.alloc (.cells #[v] 32)).heap[b]? = _ from h2.alloc _] at hc
  injection hc with hc
  injection hc with _ hc _
  exact ht hc
theorem keeps4 (p : Addr) (x : Value) (C : Nat) (hB2 : Below W.heap.size W W2) (hg4 : (W2.alloc (.cells #[v] 32)).grownBy w4 (A.map (·.block)))
    (hrow4 : ∀ j, A.map (·.block) = some j → base ≤ j ∧ ∃ cur : Array Value, (W2.alloc (.cells #[v] 32)).heap[j]? = some (.cells cur 32 (0, 0))) : KeepsFrom C W (w4.setCell p x) := by
  have h1 : KeepsOthers W W2 := ⟨hB2.size, fun k o hk _ => (hB2.block k (Array.getElem?_eq_some_iff.1 hk).1).trans hk⟩
  refine KeepsOthers.from ((((h1.trans (KeepsOthers.alloc _ _))).trans (KeepsOthers.of_grownBy hg4 fun j o ej hj => ?_)).trans (KeepsOthers.setCell _ _ _)) C
  obtain ⟨_, cur, hc⟩ := hrow4 j ej
  rw [hc] at hj
  injection hj with hj
  subst hj
  rfl
end

theorem spl_end {w W W2 w4 : World} {g k size len Z cap x C c' : Nat} {B A A' : Option Addr} {cA : Nat} {l : List UInt8} {pre : List Nat} {v : Value}
    (hI : SplI w g k size len Z B cap l pre W) (hbA : Boxed W (w.heap.size + 2) 33 (.slice A pre.length cA)) (hB2 : Below W.heap.size W W2)
    (hg4 : (W2.alloc (.cells #[v] 32)).grownBy w4 (A.map (·.block))) (hrow4 : ∀ j, A.map (·.block) = some j → w.heap.size ≤ j ∧ ∃ cur : Array Value, (W2.alloc (.cells #[v] 32)).heap[j]? = some (.cells cur 32 (0, 0)))
    (hT4 : TO w4 w.heap.size A' (pre.length + 1) c' (pre.map (stripe k size l) ++ [stripe k size l x])) :
    KeepsFrom C W (w4.setCell ⟨w.heap.size + 1 + 1, 0, none⟩ (.slice A' (pre.length + 1) c')) ∧ KpC (w.heap.size + 3) (.slice B len cap) (.int .i64 (Z : Int)) W (w4.setCell ⟨w.heap.size + 1 + 1, 0, none⟩ (.slice A' (pre.length + 1) c')) ∧ SplI w g k size len Z B cap l (pre ++ [x]) (w4.setCell ⟨w.heap.size + 1 + 1, 0, none⟩ (.slice A' (pre.length + 1) c')) := by
  obtain ⟨⟨_, h3, h4, h5, h6⟩, hBw⟩ := hI
  have k1 := box4 hbA (by decide) hB2 hg4 hrow4
  have k3 := box4 h3 (by decide) hB2 hg4 hrow4
  have k4 := box4 h4 (by decide) hB2 hg4 hrow4
  have k5 := box4 h5 (by decide) hB2 hg4 hrow4
  have k6 := box4 h6 (by decide) hB2 hg4 hrow4
  have o3 := k3.other (B' := w.heap.size + 1 + 1) (by omega) (.slice A' (pre.length + 1) c')
  have o4 := k4.other (B' := w.heap.size + 1 + 1) (by omega) (.slice A' (pre.length + 1) c')
  have o5 := k5.other (B' := w.heap.size + 1 + 1) (by omega) (.slice A' (pre.length + 1) c')
  have o6 := k6.other (B' := w.heap.size + 1 + 1) (by omega) (.slice A' (pre.length + 1) c')
  have o1 := k1.set (.slice A' (pre.length + 1) c')
  refine ⟨keeps4 _ _ C hB2 hg4 hrow4, fun _ => ⟨o5, o6⟩, ⟨⟨A', c', ?_, ?_⟩, o3, o4, o5, o6⟩, ?_⟩
  · rw [List.length_append]; exact o1
  · rw [List.length_append, List.map_append]
    refine hT4.keep fun g' cur E hgc hE => Below.heap_setCell _ _ _ _ ?_
    rintro rfl
    rw [show w4.heap[w.heap.size + 1 + 1]? = _ from k1] at hgc
    injection hgc with hgc
    injection hgc with _ hgc _
    rcases hE with e | e | e <;> exact absurd (hgc.trans e) (by decide)
  · have hb2 : Below w.heap.size w W2 := hBw.trans (hB2.mono hBw.size)
    have hb3 := (hb2.alloc hb2.size (.cells #[v] 32)).grown hg4 (by have := hb2.size; simp; omega) (fun j hj => (hrow4 j hj).1)
    exact hb3.setCell (by show w.heap.size ≤ w.heap.size + 1 + 1; omega) _

set_option maxHeartbeats 4000000 in
theorem split_yes {g n k gf c : Nat} {A : Option Addr} (B : Option Addr) (len cap size : Nat) (l : List UInt8) (w : World) (h : CodeAt w g n k gf A c) (hB : Rd w B len l) (hcap : len ≤ cap) (hlen : len ≤ 900000) (hs1 : 1 ≤ size) (hs2 : size ≤ 65536) :
    Calls Try.prog 18 #[.pointer (some ⟨g, 0, none⟩), .slice B len cap, .int .i64 (size : Int)] w fun e w' => ∃ X xc, e = .returned (.tuple #[.slice X (nst len (k * size)) xc, .int .i64 0]) ∧ TO w' w.heap.size X (nst len (k * size)) xc ((List.range (nst len (k * size))).map (stripe k size l)) ∧ Below w.heap.size w w' := by
  have H := Lib.hid h
  have HB := Lib.hid hB
  have hk1 := h.k1
  have hk2 : k ≤ 255 := Nat.le_trans h.kn h.n255
  have H2 := Lib.hid ((h.alloc (.cells #[.pointer (some ⟨g, 0, none⟩)] 26)).alloc (.cells #[.int .i64 (size : Int)] 3))
  obtain ⟨Z, hK⟩ : ∃ Z, k * size = Z := ⟨_, rfl⟩
  have hK1 : 1 ≤ Z := by rw [← hK]; exact Nat.mul_pos hk1 hs1
  have hK2 : Z ≤ 255 * 65536 := by rw [← hK]; exact Nat.mul_le_mul hk2 hs2
  have hwm : IntKind.i64.wrap ((k : Int) * (size : Int)) = (Z : Int) := by rw [← Int.natCast_mul, hK, IntWalk.i64_in _ (by omega)]
  have HK := Lib.hid hK
  have hg : Hid (g < w.heap.size) := h.lt
  clear h hB
  have hro : (openF none).round = none := rfl
  have hfn : ∀ f, (openF none).fn f := fun _ => trivial
  refine (callsIn_wide (n := 5)).1 (show CallsIn (openF none) 5 Try.prog 18 _ _ _ from ?_)
  refine callsIn_of_wp_marks Try.func18 rfl trivial ?_ hro
  simp only [Try.ntmps18, List.size_toArray, List.length_cons, List.length_nil, Nat.reduceAdd, Nat.reduceSub, Array.replicate_succ, Array.replicate_zero, List.push_toArray, List.append_toArray, List.nil_append, List.cons_append]
  gi_wp2_with (gi_at_call 43; refine (callsOpen (r := none) (cmade_yes _ H2.out)).mono ?_; rintro e w' ⟨rfl, rfl⟩)
  obtain ⟨wa, hwa⟩ : ∃ wa, ((w.alloc (.cells #[.pointer (some ⟨g, 0, none⟩)] 26)).alloc (.cells #[.int .i64 (size : Int)] 3)).alloc (.cells #[.slice none 0 0] 33) = wa := ⟨_, rfl⟩
  have e1 : ((w.alloc (.cells #[.pointer (some ⟨g, 0, none⟩)] 26)).alloc (.cells #[.int .i64 (size : Int)] 3)).heap.size = w.heap.size + 2 := by rw [size_alloc, size_alloc]
  have b1 : Boxed wa w.heap.size 26 (.pointer (some ⟨g, 0, none⟩)) := by rw [← hwa]; exact ((Boxed.new w _ _).alloc _).alloc _
  have b2 : Boxed wa (w.heap.size + 1) 3 (.int .i64 (size : Int)) := by
    rw [← hwa]
    have := Boxed.new (w.alloc (.cells #[.pointer (some ⟨g, 0, none⟩)] 26)) 3 (.int .i64 (size : Int))
    rw [size_alloc] at this
    exact this.alloc _
  have b3 : Boxed wa (w.heap.size + 2) 33 (.slice none 0 0) := by
    rw [← hwa]
    have := Boxed.new ((w.alloc (.cells #[.pointer (some ⟨g, 0, none⟩)] 26)).alloc (.cells #[.int .i64 (size : Int)] 3)) 33 (.slice none 0 0)
    rw [e1] at this
    exact this
  have hBa : Below w.heap.size w wa := by rw [← hwa]; exact ((((Below.refl _ w).alloc (Nat.le_refl _) _).alloc (by simp) _).alloc (by rw [e1]; omega) _)
  have hsz : wa.heap.size = w.heap.size + 3 := by rw [← hwa, size_alloc, e1]
  have HA := Lib.hid (And.intro b1 (And.intro b2 (And.intro b3 (And.intro hBa hsz))))
  have HCa := Lib.hid (H.out.below hBa (Nat.le_refl _))
  (try rw [hwa])
  clear b1 b2 b3 hBa hsz hwa e1
  have hS0 : wa.cell? ⟨w.heap.size, 0, none⟩ = some (.pointer (some ⟨g, 0, none⟩)) ∧ wa.cell? ⟨g, 1, none⟩ = some (.int .i64 (k : Int)) ∧ wa.cell? ⟨w.heap.size + 1, 0, none⟩ = some (.int .i64 (size : Int)) := ⟨HA.out.1.cell, HCa.out.c1, HA.out.2.1.cell⟩
  refine heldOpen (S := fun u : World => u.cell? ⟨w.heap.size, 0, none⟩ = some (.pointer (some ⟨g, 0, none⟩)) ∧ u.cell? ⟨g, 1, none⟩ = some (.int .i64 (k : Int)) ∧ u.cell? ⟨w.heap.size + 1, 0, none⟩ = some (.int .i64 (size : Int))) (by kernel_rfl) (by exact hS0) (fun hHeld => ?_)
  refine wpAnyH_take (i := 0) (oi := ⟨some 19, _, _, _, _, _⟩) (v := ?_) rfl (by kernel_rfl) (by kernel_rfl) (by kernel_rfl) (fun _ _ _ h => h) (Or.inl ⟨by rfl, ?_⟩) (by assumption) ?_
  rotate_left
  · intro w hSw
    (try dsimp only at hSw)
    go_simp
    all_goals (with_reducible rfl)
  try simp only [Act.put, List.setIfInBounds_toArray, List.set_cons_zero, List.set_cons_succ]
  refine wpAnyH_take (i := 1) (oi := ⟨some 20, _, _, _, _, _⟩) (v := ?_) rfl (by kernel_rfl) (by kernel_rfl) (by kernel_rfl) (fun _ _ _ h => h) (Or.inl ⟨by rfl, ?_⟩) (by assumption) ?_
  rotate_left
  · intro w hSw
    (try dsimp only at hSw)
    have hcc := hSw.1
    go_simp
    all_goals (with_reducible rfl)
  try simp only [Act.put, List.setIfInBounds_toArray, List.set_cons_zero, List.set_cons_succ]
  refine wpAnyH_take (i := 2) (oi := ⟨some 21, _, _, _, _, _⟩) (v := ?_) rfl (by kernel_rfl) (by kernel_rfl) (by kernel_rfl) (fun _ _ _ h => h) (Or.inl ⟨by rfl, ?_⟩) (by assumption) ?_
  rotate_left
  · intro w hSw
    (try dsimp only at hSw)
    go_simp
    all_goals (with_reducible rfl)
  try simp only [Act.put, List.setIfInBounds_toArray, List.set_cons_zero, List.set_cons_succ]
  refine wpAnyH_take (i := 3) (oi := ⟨some 22, _, _, _, _, _⟩) (v := ?_) rfl (by kernel_rfl) (by kernel_rfl) (by kernel_rfl) (fun _ _ _ h => h) (Or.inl ⟨by rfl, ?_⟩) (by assumption) ?_
  rotate_left
  · intro w hSw
    (try dsimp only at hSw)
    go_simp
    all_goals (with_reducible rfl)
  try simp only [Act.put, List.setIfInBounds_toArray, List.set_cons_zero, List.set_cons_succ]
  refine wpAnyH_take (i := 4) (oi := ⟨some 23, _, _, _, _, _⟩) (v := ?_) rfl (by kernel_rfl) (by kernel_rfl) (by kernel_rfl) (fun _ _ _ h => h) (Or.inl ⟨by rfl, ?_⟩) (by assumption) ?_
  rotate_left
  · intro w hSw
    (try dsimp only at hSw)
    have hcc := hSw.2.1
    go_simp
    all_goals (with_reducible rfl)
  try simp only [Act.put, List.setIfInBounds_toArray, List.set_cons_zero, List.set_cons_succ]
  refine wpAnyH_take (i := 5) (oi := ⟨some 24, _, _, _, _, _⟩) (v := ?_) rfl (by kernel_rfl) (by kernel_rfl) (by kernel_rfl) (fun _ _ _ h => h) (Or.inl ⟨by rfl, ?_⟩) (by assumption) ?_
  rotate_left
  · intro w hSw
    (try dsimp only at hSw)
    have hcc := hSw.2.2
    go_simp
    all_goals (with_reducible rfl)
  try simp only [Act.put, List.setIfInBounds_toArray, List.set_cons_zero, List.set_cons_succ]
  refine wpAnyH_take (i := 6) (oi := ⟨some 25, _, _, _, _, _⟩) (v := ?_) rfl (by kernel_rfl) (by kernel_rfl) (by kernel_rfl) (fun _ _ _ h => h) (Or.inl ⟨by rfl, ?_⟩) (by assumption) ?_
  rotate_left
  · intro w hSw
    (try dsimp only at hSw)
    go_simp
    all_goals (with_reducible rfl)
  try simp only [Act.put, List.setIfInBounds_toArray, List.set_cons_zero, List.set_cons_succ]
  refine wpAnyH_ready (rs := [7]) (by kernel_rfl) (by simp) (AllReadyH.cons (o := ⟨some 26, _, _, _, _, _⟩) rfl (fun K hK => ?_) AllReadyH.nil)
  go_simp
  refine (chunk_any B len cap Z _ hK1).mono ?_
  rintro e w2 ⟨rfl, rfl⟩
  refine hK.out _ _ (by exact ⟨(World.cell?_alloc_lt _ _ _ (by rw [size_alloc]; show w.heap.size < _; have := HA.out.2.2.2.2; show w.heap.size < wa.heap.size + 1; omega)).trans ((World.cell?_alloc_lt _ _ _ (by show w.heap.size < wa.heap.size; have := HA.out.2.2.2.2; omega)).trans hHeld.1), (World.cell?_alloc_lt _ _ _ (by rw [size_alloc]; show g < wa.heap.size + 1; have := HCa.out.lt; omega)).trans ((World.cell?_alloc_lt _ _ _ (by show g < wa.heap.size; exact HCa.out.lt)).trans hHeld.2.1), (World.cell?_alloc_lt _ _ _ (by rw [size_alloc]; show w.heap.size + 1 < wa.heap.size + 1; have := HA.out.2.2.2.2; omega)).trans ((World.cell?_alloc_lt _ _ _ (by show w.heap.size + 1 < wa.heap.size; have := HA.out.2.2.2.2; omega)).trans hHeld.2.2)⟩) (fun hHeld => ?_)
  clear hK K
  try simp only [Act.put, List.setIfInBounds_toArray, List.set_cons_zero, List.set_cons_succ]
  refine wpAnyH_done (by kernel_rfl) ?_ _
  refine noOut_norm ?_
  have b4 := Boxed.new wa.drew 31 (.slice B len cap)
  have b5 := Boxed.new (wa.drew.alloc (.cells #[.slice B len cap] 31)) 3 (.int .i64 (Z : Int))
  rw [size_alloc] at b5
  have b4 := b4.alloc (.cells #[.int .i64 (Z : Int)] 3)
  have hsz : wa.drew.heap.size = w.heap.size + 3 := HA.out.2.2.2.2
  rw [hsz] at b4 b5
  obtain ⟨wb, hwb⟩ : ∃ wb, (wa.drew.alloc (.cells #[.slice B len cap] 31)).alloc (.cells #[.int .i64 (Z : Int)] 3) = wb := ⟨_, rfl⟩
  have hBab : Below wa.heap.size wa wb := by rw [← hwb]; exact ((Below.refl _ wa).drew.alloc (Nat.le_refl _) _).alloc (by simp) _
  have HB4 : Hid (Boxed wb (w.heap.size + 3) 31 (.slice B len cap) ∧ Boxed wb (w.heap.size + 4) 3 (.int .i64 (Z : Int))) := by rw [← hwb]; exact ⟨b4, b5⟩
  have HBW : Hid (Below w.heap.size w wb) := HA.out.2.2.2.1.trans (hBab.mono HA.out.2.2.2.1.size)
  have HBX : Hid (Boxed wb w.heap.size 26 (.pointer (some ⟨g, 0, none⟩)) ∧ Boxed wb (w.heap.size + 1) 3 (.int .i64 (size : Int)) ∧ Boxed wb (w.heap.size + 2) 33 (.slice none 0 0)) := by
    have := HA.out.2.2.2.2
    exact ⟨(hBab.block _ (by omega)).trans HA.out.1, (hBab.block _ (by omega)).trans HA.out.2.1, (hBab.block _ (by omega)).trans HA.out.2.2.1⟩
  have hszb : wb.heap.size = w.heap.size + 5 := by rw [← hwb, size_alloc, size_alloc, hsz]
  have HSB := Lib.hid hszb
  have hwd : wa.drew.heap.size = wa.heap.size := rfl
  (try simp only [hwd, HA.out.2.2.2.2])
  (try rw [hwb])
  clear hwb hBab b4 b5 hS0 hHeld hsz hwd HCa HA hszb
  gi_wp2
  refine wpIn_rangeFunc_ownG hro (by omega) (gf := 78) (lb := #[.pointer (some ⟨w.heap.size + 3, 0, none⟩), .pointer (some ⟨w.heap.size + 3 + 1, 0, none⟩)]) rfl trivial (enters_of Try.func78 (by kernel_rfl) rfl)
    (chunk_stops (5 - 1) (w.heap.size + 3) B len cap Z hK1 (by omega) (by omega) hcap 1000000 (fun x hx => by have : x * 1 ≤ x * Z := Nat.mul_le_mul_left x hK1; omega) wb HB4.out.1 HB4.out.2) (fun h h' q => h' (h q)) (fun W l' o o' hl ho hc hw q => ⟨q.1.kept (grownBy_putObj' W l' o') (fun e => by injection e with e; rw [← e] at hl; have := HSB.out; omega), q.2.kept (grownBy_putObj' W l' o') (fun e => by injection e with e; rw [← e] at hl; have := HSB.out; omega)⟩) (Below.refl _ _) (fun _ => rfl)
    (SplI w g k size len Z B cap l) (fun _ _ _ => False) (splI_own w g k size len Z B cap l _ (by have := HSB.out; omega)) (fun _ _ _ _ _ hs _ _ => hs)
    ⟨⟨⟨none, 0, HBX.out.2.2, TO.nil _ _⟩, HBX.out.1, HBX.out.2.1, HB4.out.1, HB4.out.2⟩, HBW.out⟩
    (fun x => { tmps := #[.pointer (some ⟨g, 0, none⟩), .slice B len cap, .int .i64 (size : Int), .pointer (some ⟨w.heap.size, 0, none⟩), undef, .pointer (some ⟨w.heap.size + 1, 0, none⟩), .slice none 0 0, .int .i64 0, .pointer (some ⟨w.heap.size + 1 + 1, 0, none⟩), chunkV B len Z x, .pointer (some ⟨g, 0, none⟩), .bool true, .bool false, .int .i64 (size : Int), .bool (decide ((size : Int) < 1)), .bool (decide ((size : Int) < 1)), .int .i64 (size : Int), .bool (decide ((65536 : Int) < size)), .bool (decide ((size : Int) < 1) || decide ((65536 : Int) < size)), .slice B len cap, .pointer (some ⟨g, 0, none⟩), .pointer (some ⟨g, 0, none⟩), .pointer (some ⟨g, 1, none⟩), .int .i64 (k : Int), .int .i64 (size : Int), .int .i64 (Z : Int), .func (.func 78) #[] #[.pointer (some ⟨w.heap.size + 3, 0, none⟩), .pointer (some ⟨w.heap.size + 3 + 1, 0, none⟩)], chunkV B len Z x, undef, undef, undef, undef, undef, undef, undef, undef, undef, undef, undef], defers := [] }) ?assign ?body ?done ?stop
  case assign =>
    intro l' x W Kx hKx
    gi_wp2
    exact hKx
  case body =>
    intro l' pre x W hI hlt
    have HGL := hg
    have HI := Lib.hid hI
    obtain ⟨⟨⟨A1, c1, hb1, hT1⟩, hbx1, hbx2, _, _⟩, hBW1⟩ := hI
    have HBo := Lib.hid hb1
    have HT := Lib.hid hT1
    have HBw := Lib.hid hBW1
    have hgC := (hBW1.cell (p := ⟨g, 1, none⟩) H.out.lt).trans H.out.c1
    have hS0 : W.drew.cell? ⟨w.heap.size, 0, none⟩ = some (.pointer (some ⟨g, 0, none⟩)) ∧ W.drew.cell? ⟨g, 1, none⟩ = some (.int .i64 (k : Int)) ∧ W.drew.cell? ⟨w.heap.size + 1, 0, none⟩ = some (.int .i64 (size : Int)) := ⟨hbx1.cell, hgC, hbx2.cell⟩
    have hcb : W.drew.cell? ⟨w.heap.size + 1 + 1, 0, none⟩ = some (.slice A1 pre.length c1) := hb1.cell
    have HRx := Lib.hid ((chunk_rd (K := Z) HB.out x).below hBW1 (Nat.le_refl _))
    obtain ⟨cA, hcA⟩ : ∃ cA, cutA B (min (x * Z + Z) len) (x * Z) = cA := ⟨_, rfl⟩
    obtain ⟨cN, hcN⟩ : ∃ cN, min (x * Z + Z) len - x * Z = cN := ⟨_, rfl⟩
    rw [hcA, hcN] at HRx
    have hcv : chunkV B len Z x = .slice cA cN cN := by unfold chunkV; rw [hcA, hcN]
    rw [hcv]
    have hst : tabM k size (cutF size (pcs Z l x)) = stripe k size l x := by unfold stripe; rw [HK.out]
    have HST := Lib.hid hst
    have hpl : pre.length < 1000000 := hlt
    have hws : w.heap.size ≤ W.heap.size := hBW1.size
    have hbl : w.heap.size + 1 + 1 < W.heap.size := hb1.lt
    obtain ⟨pl, hpln⟩ : ∃ pl, pre.length = pl := ⟨_, rfl⟩
    have HPL := Lib.hid hpln
    rw [hpln] at hcb hpl
    clear hcA hcN hcv hst hb1 hT1 hBW1 hbx1 hbx2 hgC hlt hpln
    gi_wp2
    refine heldOpen (r := some l') (S := fun u : World => u.cell? ⟨w.heap.size, 0, none⟩ = some (.pointer (some ⟨g, 0, none⟩)) ∧ u.cell? ⟨g, 1, none⟩ = some (.int .i64 (k : Int)) ∧ u.cell? ⟨w.heap.size + 1, 0, none⟩ = some (.int .i64 (size : Int))) (by kernel_rfl) (by exact hS0) (fun hHeld => ?_)
    clear hS0
    refine wpAnyH_take (i := 1) (oi := ⟨some 29, _, _, _, _, _⟩) (v := ?_) rfl (by kernel_rfl) (by kernel_rfl) (by kernel_rfl) (fun _ _ _ h => h) (Or.inl ⟨by rfl, ?_⟩) (by assumption) ?_
    rotate_left
    · intro w hSw
      (try dsimp only at hSw)
      go_simp
      all_goals (with_reducible rfl)
    try simp only [Act.put, List.setIfInBounds_toArray, List.set_cons_zero, List.set_cons_succ]
    refine wpAnyH_take (i := 2) (oi := ⟨some 30, _, _, _, _, _⟩) (v := ?_) rfl (by kernel_rfl) (by kernel_rfl) (by kernel_rfl) (fun _ _ _ h => h) (Or.inl ⟨by rfl, ?_⟩) (by assumption) ?_
    rotate_left
    · intro w hSw
      (try dsimp only at hSw)
      have hcc := hSw.1
      go_simp
      all_goals (with_reducible rfl)
    try simp only [Act.put, List.setIfInBounds_toArray, List.set_cons_zero, List.set_cons_succ]
    refine wpAnyH_take (i := 3) (oi := ⟨some 31, _, _, _, _, _⟩) (v := ?_) rfl (by kernel_rfl) (by kernel_rfl) (by kernel_rfl) (fun _ _ _ h => h) (Or.inl ⟨by rfl, ?_⟩) (by assumption) ?_
    rotate_left
    · intro w hSw
      (try dsimp only at hSw)
      go_simp
      all_goals (with_reducible rfl)
    try simp only [Act.put, List.setIfInBounds_toArray, List.set_cons_zero, List.set_cons_succ]
    refine wpAnyH_take (i := 4) (oi := ⟨some 32, _, _, _, _, _⟩) (v := ?_) rfl (by kernel_rfl) (by kernel_rfl) (by kernel_rfl) (fun _ _ _ h => h) (Or.inl ⟨by rfl, ?_⟩) (by assumption) ?_
    rotate_left
    · intro w hSw
      (try dsimp only at hSw)
      go_simp
      all_goals (with_reducible rfl)
    try simp only [Act.put, List.setIfInBounds_toArray, List.set_cons_zero, List.set_cons_succ]
    refine wpAnyH_take (i := 5) (oi := ⟨some 33, _, _, _, _, _⟩) (v := ?_) rfl (by kernel_rfl) (by kernel_rfl) (by kernel_rfl) (fun _ _ _ h => h) (Or.inl ⟨by rfl, ?_⟩) (by assumption) ?_
    rotate_left
    · intro w hSw
      (try dsimp only at hSw)
      have hcc := hSw.2.1
      go_simp
      all_goals (with_reducible rfl)
    try simp only [Act.put, List.setIfInBounds_toArray, List.set_cons_zero, List.set_cons_succ]
    refine wpAnyH_take (i := 6) (oi := ⟨some 34, _, _, _, _, _⟩) (v := ?_) rfl (by kernel_rfl) (by kernel_rfl) (by kernel_rfl) (fun _ _ _ h => h) (Or.inl ⟨by rfl, ?_⟩) (by assumption) ?_
    rotate_left
    · intro w hSw
      (try dsimp only at hSw)
      have hcc := hSw.2.2
      go_simp
      all_goals (with_reducible rfl)
    try simp only [Act.put, List.setIfInBounds_toArray, List.set_cons_zero, List.set_cons_succ]
    refine wpAnyH_ready (rs := [0, 7]) (by kernel_rfl) (by simp) (AllReadyH.cons (o := ⟨some 28, _, _, _, _, _⟩) rfl (fun K hK => ?_) (AllReadyH.cons (o := ⟨some 35, _, _, _, _, _⟩) rfl (fun K hK => ?_) AllReadyH.nil))
    · go_simp
      refine hK.out _ _ (by exact hHeld) (fun hHeld => ?_)
      clear hK K
      try simp only [Act.put, List.setIfInBounds_toArray, List.set_cons_zero, List.set_cons_succ]
      refine wpAnyH_ready (rs := [7]) (by kernel_rfl) (by simp) (AllReadyH.cons (o := ⟨some 35, _, _, _, _, _⟩) rfl (fun K hK => ?_) AllReadyH.nil)
      go_simp
      refine (cut_any cA cN cN k size (pcs Z l x) _ (by exact HRx.out.drew) (Nat.le_refl _) (by omega) hs2).mono ?_
      rintro e w2 ⟨rfl, hM2, hB2⟩
      refine hK.out _ _ (by exact ⟨(hB2.cell (block_lt_of_cell hHeld.1)).trans hHeld.1, (hB2.cell (block_lt_of_cell hHeld.2.1)).trans hHeld.2.1, (hB2.cell (block_lt_of_cell hHeld.2.2)).trans hHeld.2.2⟩) (fun hHeld => ?_)
      clear hK K
      try simp only [Act.put, List.setIfInBounds_toArray, List.set_cons_zero, List.set_cons_succ]
      have HB2 : Hid (Below W.heap.size W w2) := (Below.refl _ W).drew.trans hB2
      have HM2 := Lib.hid hM2
      have hcb2 : w2.cell? ⟨w.heap.size + 1 + 1, 0, none⟩ = some (.slice A1 pl c1) := (hB2.cell (p := ⟨w.heap.size + 1 + 1, 0, none⟩) hbl).trans hcb
      have hdw : W.drew.heap.size = W.heap.size := rfl
      try simp only [hdw]
      clear hM2 hB2 hcb hdw
      refine wpAnyH_ready (rs := [8]) (by kernel_rfl) (by simp) (AllReadyH.cons (o := ⟨some 36, _, _, _, _, _⟩) rfl (fun K hK => ?_) AllReadyH.nil)
      go_simp
      refine hK.out _ _ (by exact ⟨(World.cell?_alloc_lt _ _ _ (block_lt_of_cell hHeld.1)).trans hHeld.1, (World.cell?_alloc_lt _ _ _ (block_lt_of_cell hHeld.2.1)).trans hHeld.2.1, (World.cell?_alloc_lt _ _ _ (block_lt_of_cell hHeld.2.2)).trans hHeld.2.2⟩) (fun hHeld => ?_)
      clear hK K
      try simp only [Act.put, List.setIfInBounds_toArray, List.set_cons_zero, List.set_cons_succ]
      have hcb3 : (w2.alloc (.cells #[.slice (some ⟨W.heap.size, 0, none⟩) k k] 32)).cell? ⟨w.heap.size + 1 + 1, 0, none⟩ = some (.slice A1 pl c1) := (World.cell?_alloc_lt _ _ _ (block_lt_of_cell hcb2)).trans hcb2
      clear hcb2
      refine wpAnyH_ready (rs := [9]) (by kernel_rfl) (by simp) (AllReadyH.cons (o := ⟨some 37, _, _, _, _, _⟩) rfl (fun K hK => ?_) AllReadyH.nil)
      have hT3 : TO (w2.alloc (.cells #[.slice (some ⟨W.heap.size, 0, none⟩) k k] 32)) w.heap.size A1 pl c1 (pre.map (stripe k size l)) := by
        have h0 := HT.out
        rw [HPL.out] at h0
        have h0 : TO w2 w.heap.size A1 pl c1 (pre.map (stripe k size l)) := h0.below HB2.out (Nat.le_refl _)
        exact h0.below ((Below.refl w2.heap.size w2).alloc (Nat.le_refl _) _) (Nat.le_refl _)
      have hM3 : MO (w2.alloc (.cells #[.slice (some ⟨W.heap.size, 0, none⟩) k k] 32)) w.heap.size w.heap.size (some ⟨W.heap.size, 0, none⟩) k k (stripe k size l x) := by
        rw [← HST.out]
        exact (HM2.out.lower hws hws).alloc _
      refine step_appT (base := w.heap.size) rfl (.tmp 28) (.tmp 36) rfl rfl hT3 rfl (RdV.one _ _ _ _) hM3 (by omega) (by have := HB2.out.size; rw [size_alloc]; omega) (pl + 1) rfl ?_
      intro A4 c4 w4 hT4 hg4 hrow4
      have HT4 := Lib.hid hT4
      have HG4 := Lib.hid hg4
      have HR4 := Lib.hid hrow4
      have HBo4 : Hid (Boxed w4 (w.heap.size + 2) 33 (.slice A1 pl c1)) := by have h0 := HBo.out; rw [HPL.out] at h0; exact box4 h0 (by decide) HB2.out hg4 hrow4
      have hcb4 : w4.cell? ⟨w.heap.size + 1 + 1, 0, none⟩ = some (.slice A1 pl c1) := HBo4.out.cell
      have hfz4 : w4.frozen? ⟨w.heap.size + 1 + 1, 0, none⟩ = false := HBo4.out.frozen
      have hx1 : w4.cell? ⟨w.heap.size, 0, none⟩ = some (.pointer (some ⟨g, 0, none⟩)) := (box4 HI.out.1.2.1 (by decide) HB2.out hg4 hrow4).cell
      have hx2 : w4.cell? ⟨w.heap.size + 1, 0, none⟩ = some (.int .i64 (size : Int)) := (box4 HI.out.1.2.2.1 (by decide) HB2.out hg4 hrow4).cell
      have HB4' : Hid (Below w.heap.size w w4) := ((HBw.out.trans (HB2.out.mono hws)).alloc (by have := HB2.out.size; omega) (.cells #[.slice (some ⟨W.heap.size, 0, none⟩) k k] 32)).grown hg4 (by have := HB2.out.size; rw [size_alloc]; omega) (fun j hj => (hrow4 j hj).1)
      have hx3 : w4.cell? ⟨g, 1, none⟩ = some (.int .i64 (k : Int)) := (HB4'.out.cell (p := ⟨g, 1, none⟩) H.out.lt).trans H.out.c1
      clear hT4 hg4 hrow4 hT3 hM3 hcb3
      refine hK.out _ _ (by exact ⟨hx1, hx3, hx2⟩) (fun hHeld => ?_)
      clear hK K hx1 hx2 hx3
      try simp only [Act.put, List.setIfInBounds_toArray, List.set_cons_zero, List.set_cons_succ]
      refine wpAnyH_ready (rs := [10]) (by kernel_rfl) (by simp) (AllReadyH.cons (o := ⟨none, _, _, _, _, _⟩) rfl (fun K hK => ?_) AllReadyH.nil)
      go_simp
      refine hK.out _ _ (by exact ⟨(World.cell?_setCell_other _ _ _ _ (by intro q; injection q with q _ _; omega)).trans hHeld.1, (World.cell?_setCell_other _ _ _ _ (by intro q; injection q with q _ _; have := HGL.out; omega)).trans hHeld.2.1, (World.cell?_setCell_other _ _ _ _ (by intro q; injection q with q _ _; omega)).trans hHeld.2.2⟩) (fun hHeld => ?_)
      clear hK K
      try simp only [Act.put, List.setIfInBounds_toArray, List.set_cons_zero, List.set_cons_succ]
      refine wpAnyH_done (by kernel_rfl) ?_ _
      have h0 := HBo.out
      rw [HPL.out] at h0
      have hE := spl_end (C := wb.heap.size) (x := x) (c' := c4) (A' := A4) HI.out HBo.out HB2.out HG4.out HR4.out (by rw [HPL.out]; exact HT4.out)
      rw [HPL.out] at hE
      exact hE
    · go_simp
      refine (cut_any cA cN cN k size (pcs Z l x) _ (by exact HRx.out.drew) (Nat.le_refl _) (by omega) hs2).mono ?_
      rintro e w2 ⟨rfl, hM2, hB2⟩
      refine hK.out _ _ (by exact ⟨(hB2.cell (block_lt_of_cell hHeld.1)).trans hHeld.1, (hB2.cell (block_lt_of_cell hHeld.2.1)).trans hHeld.2.1, (hB2.cell (block_lt_of_cell hHeld.2.2)).trans hHeld.2.2⟩) (fun hHeld => ?_)
      clear hK K
      try simp only [Act.put, List.setIfInBounds_toArray, List.set_cons_zero, List.set_cons_succ]
      have HB2 : Hid (Below W.heap.size W w2) := (Below.refl _ W).drew.trans hB2
      have HM2 := Lib.hid hM2
      have hcb2 : w2.cell? ⟨w.heap.size + 1 + 1, 0, none⟩ = some (.slice A1 pl c1) := (hB2.cell (p := ⟨w.heap.size + 1 + 1, 0, none⟩) hbl).trans hcb
      have hdw : W.drew.heap.size = W.heap.size := rfl
      try simp only [hdw]
      clear hM2 hB2 hcb hdw
      refine wpAnyH_ready (rs := [0, 8]) (by kernel_rfl) (by simp) (AllReadyH.cons (o := ⟨some 28, _, _, _, _, _⟩) rfl (fun K hK => ?_) (AllReadyH.cons (o := ⟨some 36, _, _, _, _, _⟩) rfl (fun K hK => ?_) AllReadyH.nil))
      · go_simp
        refine hK.out _ _ (by exact hHeld) (fun hHeld => ?_)
        clear hK K
        try simp only [Act.put, List.setIfInBounds_toArray, List.set_cons_zero, List.set_cons_succ]
        refine wpAnyH_ready (rs := [8]) (by kernel_rfl) (by simp) (AllReadyH.cons (o := ⟨some 36, _, _, _, _, _⟩) rfl (fun K hK => ?_) AllReadyH.nil)
        go_simp
        refine hK.out _ _ (by exact ⟨(World.cell?_alloc_lt _ _ _ (block_lt_of_cell hHeld.1)).trans hHeld.1, (World.cell?_alloc_lt _ _ _ (block_lt_of_cell hHeld.2.1)).trans hHeld.2.1, (World.cell?_alloc_lt _ _ _ (block_lt_of_cell hHeld.2.2)).trans hHeld.2.2⟩) (fun hHeld => ?_)
        clear hK K
        try simp only [Act.put, List.setIfInBounds_toArray, List.set_cons_zero, List.set_cons_succ]
        have hcb3 : (w2.alloc (.cells #[.slice (some ⟨W.heap.size, 0, none⟩) k k] 32)).cell? ⟨w.heap.size + 1 + 1, 0, none⟩ = some (.slice A1 pl c1) := (World.cell?_alloc_lt _ _ _ (block_lt_of_cell hcb2)).trans hcb2
        clear hcb2
        refine wpAnyH_ready (rs := [9]) (by kernel_rfl) (by simp) (AllReadyH.cons (o := ⟨some 37, _, _, _, _, _⟩) rfl (fun K hK => ?_) AllReadyH.nil)
        have hT3 : TO (w2.alloc (.cells #[.slice (some ⟨W.heap.size, 0, none⟩) k k] 32)) w.heap.size A1 pl c1 (pre.map (stripe k size l)) := by
          have h0 := HT.out
          rw [HPL.out] at h0
          have h0 : TO w2 w.heap.size A1 pl c1 (pre.map (stripe k size l)) := h0.below HB2.out (Nat.le_refl _)
          exact h0.below ((Below.refl w2.heap.size w2).alloc (Nat.le_refl _) _) (Nat.le_refl _)
        have hM3 : MO (w2.alloc (.cells #[.slice (some ⟨W.heap.size, 0, none⟩) k k] 32)) w.heap.size w.heap.size (some ⟨W.heap.size, 0, none⟩) k k (stripe k size l x) := by
          rw [← HST.out]
          exact (HM2.out.lower hws hws).alloc _
        refine step_appT (base := w.heap.size) rfl (.tmp 28) (.tmp 36) rfl rfl hT3 rfl (RdV.one _ _ _ _) hM3 (by omega) (by have := HB2.out.size; rw [size_alloc]; omega) (pl + 1) rfl ?_
        intro A4 c4 w4 hT4 hg4 hrow4
        have HT4 := Lib.hid hT4
        have HG4 := Lib.hid hg4
        have HR4 := Lib.hid hrow4
        have HBo4 : Hid (Boxed w4 (w.heap.size + 2) 33 (.slice A1 pl c1)) := by have h0 := HBo.out; rw [HPL.out] at h0; exact box4 h0 (by decide) HB2.out hg4 hrow4
        have hcb4 : w4.cell? ⟨w.heap.size + 1 + 1, 0, none⟩ = some (.slice A1 pl c1) := HBo4.out.cell
        have hfz4 : w4.frozen? ⟨w.heap.size + 1 + 1, 0, none⟩ = false := HBo4.out.frozen
        have hx1 : w4.cell? ⟨w.heap.size, 0, none⟩ = some (.pointer (some ⟨g, 0, none⟩)) := (box4 HI.out.1.2.1 (by decide) HB2.out hg4 hrow4).cell
        have hx2 : w4.cell? ⟨w.heap.size + 1, 0, none⟩ = some (.int .i64 (size : Int)) := (box4 HI.out.1.2.2.1 (by decide) HB2.out hg4 hrow4).cell
        have HB4' : Hid (Below w.heap.size w w4) := ((HBw.out.trans (HB2.out.mono hws)).alloc (by have := HB2.out.size; omega) (.cells #[.slice (some ⟨W.heap.size, 0, none⟩) k k] 32)).grown hg4 (by have := HB2.out.size; rw [size_alloc]; omega) (fun j hj => (hrow4 j hj).1)
        have hx3 : w4.cell? ⟨g, 1, none⟩ = some (.int .i64 (k : Int)) := (HB4'.out.cell (p := ⟨g, 1, none⟩) H.out.lt).trans H.out.c1
        clear hT4 hg4 hrow4 hT3 hM3 hcb3
        refine hK.out _ _ (by exact ⟨hx1, hx3, hx2⟩) (fun hHeld => ?_)
        clear hK K hx1 hx2 hx3
        try simp only [Act.put, List.setIfInBounds_toArray, List.set_cons_zero, List.set_cons_succ]
        refine wpAnyH_ready (rs := [10]) (by kernel_rfl) (by simp) (AllReadyH.cons (o := ⟨none, _, _, _, _, _⟩) rfl (fun K hK => ?_) AllReadyH.nil)
        go_simp
        refine hK.out _ _ (by exact ⟨(World.cell?_setCell_other _ _ _ _ (by intro q; injection q with q _ _; omega)).trans hHeld.1, (World.cell?_setCell_other _ _ _ _ (by intro q; injection q with q _ _; have := HGL.out; omega)).trans hHeld.2.1, (World.cell?_setCell_other _ _ _ _ (by intro q; injection q with q _ _; omega)).trans hHeld.2.2⟩) (fun hHeld => ?_)
        clear hK K
        try simp only [Act.put, List.setIfInBounds_toArray, List.set_cons_zero, List.set_cons_succ]
        refine wpAnyH_done (by kernel_rfl) ?_ _
        have h0 := HBo.out
        rw [HPL.out] at h0
        have hE := spl_end (C := wb.heap.size) (x := x) (c' := c4) (A' := A4) HI.out HBo.out HB2.out HG4.out HR4.out (by rw [HPL.out]; exact HT4.out)
        rw [HPL.out] at hE
        exact hE
      · go_simp
        refine hK.out _ _ (by exact ⟨(World.cell?_alloc_lt _ _ _ (block_lt_of_cell hHeld.1)).trans hHeld.1, (World.cell?_alloc_lt _ _ _ (block_lt_of_cell hHeld.2.1)).trans hHeld.2.1, (World.cell?_alloc_lt _ _ _ (block_lt_of_cell hHeld.2.2)).trans hHeld.2.2⟩) (fun hHeld => ?_)
        clear hK K
        try simp only [Act.put, List.setIfInBounds_toArray, List.set_cons_zero, List.set_cons_succ]
        have hcb3 : (w2.alloc (.cells #[.slice (some ⟨W.heap.size, 0, none⟩) k k] 32)).cell? ⟨w.heap.size + 1 + 1, 0, none⟩ = some (.slice A1 pl c1) := (World.cell?_alloc_lt _ _ _ (block_lt_of_cell hcb2)).trans hcb2
        clear hcb2
        refine wpAnyH_ready (rs := [0]) (by kernel_rfl) (by simp) (AllReadyH.cons (o := ⟨some 28, _, _, _, _, _⟩) rfl (fun K hK => ?_) AllReadyH.nil)
        go_simp
        refine hK.out _ _ (by exact hHeld) (fun hHeld => ?_)
        clear hK K
        try simp only [Act.put, List.setIfInBounds_toArray, List.set_cons_zero, List.set_cons_succ]
        refine wpAnyH_ready (rs := [9]) (by kernel_rfl) (by simp) (AllReadyH.cons (o := ⟨some 37, _, _, _, _, _⟩) rfl (fun K hK => ?_) AllReadyH.nil)
        have hT3 : TO (w2.alloc (.cells #[.slice (some ⟨W.heap.size, 0, none⟩) k k] 32)) w.heap.size A1 pl c1 (pre.map (stripe k size l)) := by
          have h0 := HT.out
          rw [HPL.out] at h0
          have h0 : TO w2 w.heap.size A1 pl c1 (pre.map (stripe k size l)) := h0.below HB2.out (Nat.le_refl _)
          exact h0.below ((Below.refl w2.heap.size w2).alloc (Nat.le_refl _) _) (Nat.le_refl _)
        have hM3 : MO (w2.alloc (.cells #[.slice (some ⟨W.heap.size, 0, none⟩) k k] 32)) w.heap.size w.heap.size (some ⟨W.heap.size, 0, none⟩) k k (stripe k size l x) := by
          rw [← HST.out]
          exact (HM2.out.lower hws hws).alloc _
        refine step_appT (base := w.heap.size) rfl (.tmp 28) (.tmp 36) rfl rfl hT3 rfl (RdV.one _ _ _ _) hM3 (by omega) (by have := HB2.out.size; rw [size_alloc]; omega) (pl + 1) rfl ?_
        intro A4 c4 w4 hT4 hg4 hrow4
        have HT4 := Lib.hid hT4
        have HG4 := Lib.hid hg4
        have HR4 := Lib.hid hrow4
        have HBo4 : Hid (Boxed w4 (w.heap.size + 2) 33 (.slice A1 pl c1)) := by have h0 := HBo.out; rw [HPL.out] at h0; exact box4 h0 (by decide) HB2.out hg4 hrow4
        have hcb4 : w4.cell? ⟨w.heap.size + 1 + 1, 0, none⟩ = some (.slice A1 pl c1) := HBo4.out.cell
        have hfz4 : w4.frozen? ⟨w.heap.size + 1 + 1, 0, none⟩ = false := HBo4.out.frozen
        have hx1 : w4.cell? ⟨w.heap.size, 0, none⟩ = some (.pointer (some ⟨g, 0, none⟩)) := (box4 HI.out.1.2.1 (by decide) HB2.out hg4 hrow4).cell
        have hx2 : w4.cell? ⟨w.heap.size + 1, 0, none⟩ = some (.int .i64 (size : Int)) := (box4 HI.out.1.2.2.1 (by decide) HB2.out hg4 hrow4).cell
        have HB4' : Hid (Below w.heap.size w w4) := ((HBw.out.trans (HB2.out.mono hws)).alloc (by have := HB2.out.size; omega) (.cells #[.slice (some ⟨W.heap.size, 0, none⟩) k k] 32)).grown hg4 (by have := HB2.out.size; rw [size_alloc]; omega) (fun j hj => (hrow4 j hj).1)
        have hx3 : w4.cell? ⟨g, 1, none⟩ = some (.int .i64 (k : Int)) := (HB4'.out.cell (p := ⟨g, 1, none⟩) H.out.lt).trans H.out.c1
        clear hT4 hg4 hrow4 hT3 hM3 hcb3
        refine hK.out _ _ (by exact ⟨hx1, hx3, hx2⟩) (fun hHeld => ?_)
        clear hK K hx1 hx2 hx3
        try simp only [Act.put, List.setIfInBounds_toArray, List.set_cons_zero, List.set_cons_succ]
        refine wpAnyH_ready (rs := [10]) (by kernel_rfl) (by simp) (AllReadyH.cons (o := ⟨none, _, _, _, _, _⟩) rfl (fun K hK => ?_) AllReadyH.nil)
        go_simp
        refine hK.out _ _ (by exact ⟨(World.cell?_setCell_other _ _ _ _ (by intro q; injection q with q _ _; omega)).trans hHeld.1, (World.cell?_setCell_other _ _ _ _ (by intro q; injection q with q _ _; have := HGL.out; omega)).trans hHeld.2.1, (World.cell?_setCell_other _ _ _ _ (by intro q; injection q with q _ _; omega)).trans hHeld.2.2⟩) (fun hHeld => ?_)
        clear hK K
        try simp only [Act.put, List.setIfInBounds_toArray, List.set_cons_zero, List.set_cons_succ]
        refine wpAnyH_done (by kernel_rfl) ?_ _
        have h0 := HBo.out
        rw [HPL.out] at h0
        have hE := spl_end (C := wb.heap.size) (x := x) (c' := c4) (A' := A4) HI.out HBo.out HB2.out HG4.out HR4.out (by rw [HPL.out]; exact HT4.out)
        rw [HPL.out] at hE
        exact hE
  case done =>
    rintro D ys W hD ⟨cn, rfl, hc1, hc2⟩ hI hKd
    obtain ⟨⟨⟨A1, c1, hb1, hT1⟩, _⟩, hBW1⟩ := hI
    have hcc := hb1.cell
    have hcc : W.cell? ⟨w.heap.size + 1 + 1, 0, none⟩ = some (.slice A1 (List.range cn).length c1) := hcc
    gi_wp2
    refine ⟨by simp, .inl ⟨_, _, rfl, run_takeDeferred hKd, ?_⟩⟩
    have e := nst_eq hK1 hc1 hc2
    rw [List.length_range] at hT1
    refine ⟨_, results_tmp2 rfl _ _ _, A1, c1, ?_, ?_, ?_⟩
    · rw [HK.out, ← e]; rfl
    · rw [HK.out, ← e]
      exact hT1.own (grownBy_putObj' W D _) (fun r er => by cases er; exact ⟨_, hKd, rfl⟩)
    · exact hBW1.trans (belowK_b (w := w) (Nat.le_refl _) W D _ _ (by have := HSB.out; omega) hKd rfl rfl)
  case stop =>
    rintro D c pre W _ _ h _
    exact h.elim
end Go.Proofs.Ytobbjeephmfdeaa
