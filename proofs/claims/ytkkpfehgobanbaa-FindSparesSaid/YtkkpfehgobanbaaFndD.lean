/- What a call upon a find keeps; the end of such a call. -/
import Derived.Test.YtkkpfehgobanbaaFndC
import Derived.Deep.DeepAppendRoom
namespace Go.Proofs.Ytkkpfehgobanbaa
open Go.RowKit Go.Coop
set_option maxRecDepth 100000
theorem owns_take {w : World} {B E : Nat} {A : Option Addr} {n c : Nat} {vs us : List Value} {N : Nat} (h : w.ownsRow B E 1 (.slice A N c) N (vs ++ us)) (hl : vs.length = n) (hA : A ≠ none) (hn : n ≤ N) : OwnV w B E A n c vs := by
  refine ⟨hl, by simpa using hl, ?_⟩
  rcases h.2 with ⟨e, _⟩ | ⟨g, cap, cur, e, h1, h2, h3, h4, h5, h6⟩
  · injection e with e _ _
    exact absurd e hA
  · injection e with e _ e3
    subst e e3
    refine .inr ⟨g, c, cur, rfl, h1, h2, by omega, h4, h5, ?_⟩
    rw [Nat.mul_one] at h6 ⊢
    have h7 := congrArg (List.take n) h6
    rw [List.take_take, Nat.min_eq_left hn] at h7
    rw [h7, ← hl, List.take_left]
/-- append(s, x...): what s reads as stays -/
theorem run_appO {P : Program} (w : World) (B : Nat) (t ty E : Nat) (z : Value) (bytes : Nat) (ht : P.underlying t = some (.slice E)) (hi : (P.info? E).map (fun i => (i.zero, i.size, i.bytes)) = some (some z, 1, bytes)) (hz1 : z.cells.size = 1)
    {A : Option Addr} {n c : Nat} {vs : List Value} (h : OwnV w B E A n c vs) {X : Option Addr} {m : Nat} {us : List Value} (d : Nat) (hr : RdV w X m us) (hm : 0 < m) (h1 : ∀ u ∈ us, u.oneCell' = true) (hsz : (n + m) * bytes ≤ 140737488355328) (hmax : n + m ≤ 140737488355328) (hbase : B ≤ w.heap.size) :
    ∃ A' c' w', (Builtin.append_ #[t, t] ty #[.slice A n c, .slice X m d]).run P w = .ok (.slice A' (n + m) c') w' ∧ OwnV w' B E A' (n + m) c' (vs ++ us) ∧ OwnV w' B E A n c vs ∧ Go.Coop.But (A.map (·.block)).toList w w' := by
  obtain ⟨i, hi, hz, hs1, hs2⟩ := info_parts hi
  obtain ⟨ad, rfl, _, hcells⟩ := hr.cells hm
  rcases h.row.2 with ⟨hv, h0⟩ | ⟨g, cap, cur, hv, hbg, hg, hnc, hcm, hlen, htk⟩
  · injection hv with hA h2 h3
    subst hA h2 h3
    have hvs : vs = [] := List.eq_nil_of_length_eq_zero h.len
    subst hvs
    obtain ⟨v', w', hrun, hown, hgr, _, _⟩ := run_append_own_at (P := P) w B t ty E i z 1 bytes ht hi hz hs1 hs2 hz1 (by decide) (.slice none 0 0) 0 [] h.row ad m d us (by rw [hr.len, Nat.mul_one]) hcells h1 (by simp only [maxLen]; omega) hsz hbase
    obtain ⟨A', c', rfl⟩ : ∃ A' c', v' = .slice A' (0 + m) c' := by
      rcases hown.2 with ⟨_, h0⟩ | ⟨g, cap, cur, rfl, _⟩
      · omega
      · exact ⟨_, _, rfl⟩
    refine ⟨A', c', w', hrun, ⟨by simp [hr.len], hown⟩, OwnV.nil _ _ _, ⟨hgr.os, hgr.tape, hgr.output, hgr.size, fun j hj _ => hgr.block j hj (by simp [Value.ownBlock])⟩⟩
  · injection hv with hA h2 h3
    subst hA h3
    by_cases hroom : n + m ≤ c
    · obtain ⟨w', hrun, hown, hgr⟩ := run_append_own_spare (P := P) w B t ty E i 1 ht hi hs1 g n c vs h.row ad m d us (by rw [hr.len, Nat.mul_one]) hcells h1 hroom
      refine ⟨_, c, w', hrun, ⟨by simp [hr.len, h.len], hown⟩, owns_take hown h.len (by simp) (by omega), ⟨hgr.os, hgr.tape, hgr.output, hgr.size, fun j hj hm => hgr.block j hj (by simp at hm ⊢; omega)⟩⟩
    · obtain ⟨v', w', hrun, hown, hgr⟩ := run_append_arg_grows (P := P) w t ty E i z 1 bytes ht hi hz hs1 hs2 hz1 (by decide) ⟨g, 0, none⟩ n c vs (by rw [h.len, Nat.mul_one]) (fun j u hj => by
        obtain ⟨ad', e, _, hc⟩ := h.rd.cells (by have := (List.getElem?_eq_some_iff.1 hj).1; have := h.len; omega)
        injection e with e
        subst e
        exact hc j u hj) ad m d us (by rw [hr.len, Nat.mul_one]) hcells (by omega) (by simp only [maxLen]; omega) hsz
      obtain ⟨A', c', rfl⟩ : ∃ A' c', v' = .slice A' (n + m) c' := by
        rcases hown.2 with ⟨_, h0⟩ | ⟨g, cap, cur, rfl, _⟩
        · omega
        · exact ⟨_, _, rfl⟩
      exact ⟨A', c', w', hrun, (show OwnV w' w.heap.size E A' (n + m) c' (vs ++ us) from ⟨by simp [hr.len, h.len], hown⟩).lower' hbase, h.kept hgr (.inr (by simp)), ⟨hgr.os, hgr.tape, hgr.output, hgr.size, fun j hj _ => hgr.block j hj (by simp)⟩⟩
theorem own_but5 {w w' : World} {b : Nat} {gs : List Nat} {A : Option Addr} {n c : Nat} {l : List UInt8} (h : Go.Coop.Own w b 5 A n c l) (hb : Go.Coop.But gs w w') (hn : ∀ i cur, w.heap[i]? = some (.cells cur 5 (0, 0)) → b ≤ i → i ∉ gs) : Go.Coop.Own w' b 5 A n c l :=
  h.at_block fun g hA => by
    obtain ⟨cur, hc, hle⟩ := h.cells_at g hA
    exact (hb.cells hc (hn g cur hc hle)).trans hc.symm
theorem mo_but {w w' : World} {bo br : Nat} {gs : List Nat} {A : Option Addr} {n c : Nat} {M : List (List UInt8)} (h : MO w bo br A n c M) (hb : Go.Coop.But gs w w') (h1 : ∀ i, A.map (·.block) = some i → i ∉ gs) (h2 : ∀ i cur, w.heap[i]? = some (.cells cur 5 (0, 0)) → br ≤ i → i ∉ gs) : MO w' bo br A n c M := by
  obtain ⟨vs, hv, hr⟩ := h.out
  refine ⟨h.len, vs, hv.but hb h1, fun i r hi => ?_⟩
  obtain ⟨B, d, e, ho⟩ := hr i r hi
  exact ⟨B, d, e, own_but5 ho hb h2⟩
/-- a row more, by append, as a step of a region: the list that it begins with stays -/
theorem step_appM {w : World} {ops : Array Oper} {o : Oper} {a : Act} {K : Act → World → Prop} {Q : Exit → Act → World → Prop} {Z : Prop} (hgd : o.guard = none) (s x : Operand)
    (ho : o.op = .call { callee := .builtin .append, args := #[s, x], argTypes := #[25, 25] }) {z : Nat}
    {A : Option Addr} {n c : Nat} {M : List (List UInt8)} (hs : a.eval s = .slice A n c) (hM : MO w z z A n c M) {X : Option Addr} {d : Nat} (hx : a.eval x = .slice X 1 d)
    {B : Option Addr} {e : Nat} {r : List UInt8} {rl : Nat} (hrl : r.length = rl) (hX : RdV w X 1 [.slice B rl e]) (hB : Go.Coop.Own w z 5 B rl e r) (hn : n ≤ 1000000) (hbase : z ≤ w.heap.size)
    (h : ∀ A' c' w', MO w' z z A' (n + 1) c' (M ++ [r]) → MO w' z z A n c M → Go.Coop.But (A.map (·.block)).toList w w' → (∀ i, A.map (·.block) = some i → z ≤ i ∧ ∃ cur, w.heap[i]? = some (.cells cur 35 (0, 0))) → K (a.put o.dst (.slice A' (n + 1) c')) w') :
    if Region.wanted o (yielded ops a.tmps) = true then Oper.wp Try.prog o a w K Q else Z := by
  have hw : Region.wanted o (yielded ops a.tmps) = true := by simp [Region.wanted, hgd]
  rw [if_pos hw]
  subst hrl
  obtain ⟨vs, hv, hr⟩ := hM.out
  obtain ⟨A', c', w', hrun, h1, h2, h3⟩ := run_appO (P := Try.prog) w z 25 o.type 35 (.slice none 0 0) 24 Try.underlying25 info31 rfl hv (m := 1) d hX (by decide) (fun u hu => by simp at hu; subst hu; rfl) (by omega) (by omega) hbase
  have ht : ∀ i, A.map (·.block) = some i → z ≤ i ∧ ∃ cur, w.heap[i]? = some (.cells cur 35 (0, 0)) := fun i hi => ⟨(hv.block i hi).1, hv.typ hi⟩
  have hk : ∀ i cur, w.heap[i]? = some (.cells cur 5 (0, 0)) → z ≤ i → i ∉ (A.map (·.block)).toList := fun i cur hc _ hm => by
    have hm : A.map (·.block) = some i := by simpa using hm
    obtain ⟨_, cu, hcu⟩ := ht i hm
    rw [hc] at hcu
    injection hcu with hcu
    injection hcu with _ hcu _
    exact absurd hcu (by decide)
  have hrow : ∀ (i : Nat) (r' : List UInt8), M[i]? = some r' → ∃ (B : Option Addr) (d : Nat), vs[i]? = some (Value.slice B r'.length d) ∧ Go.Coop.Own w' z 5 B r'.length d r' := fun i r' hi => by
    obtain ⟨B', d', e', ho'⟩ := hr i r' hi
    exact ⟨B', d', e', own_but5 ho' h3 hk⟩
  have hl : vs.length = M.length := by rw [hv.len, hM.len]
  have hK := h A' c' w' ⟨by rw [List.length_append, hM.len]; rfl, _, h1, fun i q hi => by
    rw [List.getElem?_append] at hi
    rw [List.getElem?_append]
    split at hi
    · rename_i hlt
      rw [if_pos (by omega)]
      exact hrow i q hi
    · rename_i hlt
      have h0 : i - M.length = 0 := by
        have := (List.getElem?_eq_some_iff.1 hi).1
        simpa using this
      rw [h0] at hi
      simp at hi
      subst hi
      rw [if_neg (by omega), hl, h0]
      exact ⟨B, e, rfl, own_but5 hB h3 hk⟩⟩ ⟨hM.len, vs, h2, hrow⟩ h3 ht
  unfold Oper.wp
  simp [execOp, ho, resolve, invoke, builtin, hs, hx, hrun, Result.andThen]
  exact hK
theorem size27 : (Try.prog.info? 27).map (·.size) = some 7 := by kernel_rfl
theorem loadv27 {w : World} {b : Nat} {v0 v1 v2 v3 v4 v5 v6 : Value} (h : w.heap[b]? = some (.cells #[v0, v1, v2, v3, v4, v5, v6] 27 (0, 0))) : (loadVar 27 ⟨b, 0, none⟩).run Try.prog w = .ok (.agg #[v0, v1, v2, v3, v4, v5, v6]) w :=
  run_loadVar_at w ⟨b, 0, none⟩ 27 [v0, v1, v2, v3, v4, v5, v6] _ (fun j v hj => by
    rw [addr_at, Nat.zero_add, cell_of_row w b j _ 27 (0, 0) h]
    simpa using hj) Try.underlying27 rfl size27
/-- a find in memory of its own, and an error -/
def TwoF (w : World) (P : Fq × Int) (e : Ending) (w' : World) : Prop := ∃ A c B d C k, e = .returned (.tuple #[.agg #[.int .i64 P.1.s, .int .i64 P.1.v, .int .i64 P.1.need, .int .i64 P.1.ph, .slice A P.1.ms.length c, .slice B P.1.ws.length d, .slice C P.1.bs.length k], .int .i64 P.2]) ∧ OwnV w' w.heap.size 3 A P.1.ms.length c (P.1.ms.map IV) ∧ OwnV w' w.heap.size 3 B P.1.ws.length d (P.1.ws.map IV) ∧ MO w' w.heap.size w.heap.size C P.1.bs.length k P.1.bs ∧ (∀ i, A.map (·.block) = some i → B.map (·.block) ≠ some i) ∧ Below w.heap.size w w'
/-- the box of a find and that of the result; the find's lists are its own -/
structure FO (w wr : World) (z b b2 : Nat) (s v need ph : Int) (A : Option Addr) (n c : Nat) (ms : List Int) (B : Option Addr) (m d : Nat) (ws : List Int) (C : Option Addr) (q k : Nat) (bs : List (List UInt8)) : Prop where
  row : wr.heap[b]? = some (.cells #[.int .i64 s, .int .i64 v, .int .i64 need, .int .i64 ph, .slice A n c, .slice B m d, .slice C q k] 27 (0, 0))
  res : wr.heap[b2]? = some (.cells #[.int .i64 0, .int .i64 0, .int .i64 0, .int .i64 0, .slice none 0 0, .slice none 0 0, .slice none 0 0] 27 (0, 0))
  oa : OwnV wr z 3 A n c (ms.map IV)
  ob : OwnV wr z 3 B m d (ws.map IV)
  oc : MO wr z z C q k bs
  dj : ∀ i, A.map (·.block) = some i → B.map (·.block) ≠ some i
  bel : Below w.heap.size w wr
  lb : w.heap.size ≤ b ∧ b < b2 ∧ b2 < z ∧ z ≤ wr.heap.size
theorem FO.below {w wr wz : World} {z b b2 : Nat} {s v need ph : Int} {A : Option Addr} {n c : Nat} {ms : List Int} {B : Option Addr} {m d : Nat} {ws : List Int} {C : Option Addr} {q k : Nat} {bs : List (List UInt8)} (h : FO w wr z b b2 s v need ph A n c ms B m d ws C q k bs) (hb : Below wr.heap.size wr wz) : FO w wz z b b2 s v need ph A n c ms B m d ws C q k bs :=
  ⟨(hb.block _ (lt_of_block h.row)).trans h.row, (hb.block _ (lt_of_block h.res)).trans h.res, h.oa.below hb (Nat.le_refl _), h.ob.below hb (Nat.le_refl _), h.oc.below hb (Nat.le_refl _), h.dj, h.bel.trans (hb.mono h.bel.size), ⟨h.lb.1, h.lb.2.1, h.lb.2.2.1, Nat.le_trans h.lb.2.2.2 hb.size⟩⟩
theorem FO.fr {w wr : World} {z b b2 : Nat} {s v need ph : Int} {A : Option Addr} {n c : Nat} {ms : List Int} {B : Option Addr} {m d : Nat} {ws : List Int} {C : Option Addr} {q k : Nat} {bs : List (List UInt8)} (h : FO w wr z b b2 s v need ph A n c ms B m d ws C q k bs) (hs : ∀ r ∈ bs, r.length ≤ 140737488355328) (hl : n ≤ 1000000 ∧ m ≤ 1000000 ∧ q ≤ 1000000) : FR wr A n ms B m ws C q bs := ⟨h.oa.rd, h.ob.rd, h.oc.mr, hs, hl⟩
theorem row27_not5 {w : World} {b : Nat} {cs : Array Value} (h : w.heap[b]? = some (.cells cs 27 (0, 0))) {i : Nat} {cur : Array Value} (hi : w.heap[i]? = some (.cells cur 5 (0, 0))) : i ∉ [b] := fun hm => by
  simp at hm
  subst hm
  rw [h] at hi
  injection hi with hi
  injection hi with _ hi _
  exact absurd hi (by decide)
/-- the box is written -/
theorem FO.re {w wr wz : World} {z b b2 : Nat} {s v need ph : Int} {A : Option Addr} {n c : Nat} {ms : List Int} {B : Option Addr} {m d : Nat} {ws : List Int} {C : Option Addr} {q k : Nat} {bs : List (List UInt8)} (h : FO w wr z b b2 s v need ph A n c ms B m d ws C q k bs) (hbt : Go.Coop.But [b] wr wz) {s' v' need' ph' : Int} {A' : Option Addr} {n' c' : Nat} {ms' : List Int} {B' : Option Addr} {m' d' : Nat} {ws' : List Int} {C' : Option Addr} {q' k' : Nat} {bs' : List (List UInt8)}
    (hrow : wz.heap[b]? = some (.cells #[.int .i64 s', .int .i64 v', .int .i64 need', .int .i64 ph', .slice A' n' c', .slice B' m' d', .slice C' q' k'] 27 (0, 0))) (oa : OwnV wr z 3 A' n' c' (ms'.map IV)) (ob : OwnV wr z 3 B' m' d' (ws'.map IV)) (oc : MO wr z z C' q' k' bs') (dj : ∀ i, A'.map (·.block) = some i → B'.map (·.block) ≠ some i) : FO w wz z b b2 s' v' need' ph' A' n' c' ms' B' m' d' ws' C' q' k' bs' := by
  have hz : b < z := by have := h.lb; omega
  have hn : ∀ {X : Option Addr} {n c E : Nat} {l : List Value}, OwnV wr z E X n c l → ∀ i, X.map (·.block) = some i → i ∉ [b] := fun ho i hi hm => by have := (ho.block i hi).1; simp at hm; omega
  refine ⟨hrow, hbt.cells h.res (by have := h.lb; simp; omega), oa.but hbt (hn oa), ob.but hbt (hn ob), ?_, dj, ?_, ⟨h.lb.1, h.lb.2.1, h.lb.2.2.1, Nat.le_trans h.lb.2.2.2 hbt.size⟩⟩
  · obtain ⟨vs, hv, _⟩ := oc.out
    exact mo_but oc hbt (hn hv) (fun i cur hi _ => row27_not5 h.row hi)
  · exact h.bel.trans (hbt.below (B := w.heap.size) h.bel.size (by intro i hi; simp at hi; have := h.lb; omega))
/-- a mark is written -/
theorem FO.mark {w wr wz : World} {z b b2 : Nat} {s v need ph : Int} {n c : Nat} {ms : List Int} {B : Option Addr} {m d : Nat} {ws : List Int} {C : Option Addr} {q k : Nat} {bs : List (List UInt8)} {g i : Nat} {x : Int} (h : FO w wr z b b2 s v need ph (some ⟨g, 0, none⟩) n c ms B m d ws C q k bs) (hw : wr.setCell ⟨g, i, none⟩ (.int .i64 x) = wz) : FO w wz z b b2 s v need ph (some ⟨g, 0, none⟩) n c (ms.set i x) B m d ws C q k bs := by
  have hbt : Go.Coop.But [g] wr wz := hw ▸ (Go.Coop.But.refl _ _).setCell (by simp) _
  have hg := (h.oa.block g rfl).1
  obtain ⟨cu, hcu⟩ := h.oa.typ (j := g) rfl
  have hne : ∀ {E : Nat} {i : Nat} {cur : Array Value}, wr.heap[i]? = some (.cells cur E (0, 0)) → E ≠ 3 → i ∉ [g] := fun hi hE hm => by
    simp at hm
    subst hm
    rw [hcu] at hi
    injection hi with hi
    injection hi with _ hi _
    exact hE hi.symm
  refine ⟨hbt.cells h.row (hne h.row (by decide)), hbt.cells h.res (hne h.res (by decide)), ?_, h.ob.but hbt (fun j hj hm => ?_), ?_, h.dj, ?_, ⟨h.lb.1, h.lb.2.1, h.lb.2.2.1, Nat.le_trans h.lb.2.2.2 hbt.size⟩⟩
  · have := h.oa.set rfl (k := i) (.int .i64 x)
    rw [hw] at this
    rw [List.map_set]
    exact this
  · simp at hm
    subst hm
    exact h.dj j rfl hj
  · obtain ⟨vs, hv, _⟩ := h.oc.out
    exact mo_but h.oc hbt (fun j hj => by obtain ⟨c2, h2⟩ := hv.typ hj; exact hne h2 (by decide)) (fun j cur hj _ => hne hj (by decide))
  · exact h.bel.trans (hbt.below (B := w.heap.size) h.bel.size (by intro j hj; simp at hj; have := h.lb; omega))
theorem FO.addr {w wr : World} {z b b2 : Nat} {s v need ph : Int} {A : Option Addr} {n c : Nat} {ms : List Int} {B : Option Addr} {m d : Nat} {ws : List Int} {C : Option Addr} {q k : Nat} {bs : List (List UInt8)} (h : FO w wr z b b2 s v need ph A n c ms B m d ws C q k bs) (hn : 0 < n) : ∃ g, A = some ⟨g, 0, none⟩ ∧ (∀ j, wr.frozen? ⟨g, j, none⟩ = false) ∧ ∀ j x, ms[j]? = some x → wr.cell? ⟨g, j, none⟩ = some (.int .i64 x) := by
  obtain ⟨g, rfl, _, _, hf⟩ := h.oa.addr hn
  obtain ⟨ad, e, _, hc⟩ := h.oa.rd.cells hn
  injection e with e
  subst e
  refine ⟨g, rfl, hf, fun j x hj => ?_⟩
  have := hc j (IV x) (by rw [List.getElem?_map, hj]; rfl)
  rw [addr_at, Nat.zero_add] at this
  exact this
/-- what is told through the box of the result -/
theorem two_end {w wr : World} {z b2 : Nat} {s v need ph : Int} {A : Option Addr} {n c : Nat} {ms : List Int} {B : Option Addr} {m d : Nat} {ws : List Int} {C : Option Addr} {q k : Nat} {bs : List (List UInt8)} (hres : wr.heap[b2]? = some (.cells #[.int .i64 0, .int .i64 0, .int .i64 0, .int .i64 0, .slice none 0 0, .slice none 0 0, .slice none 0 0] 27 (0, 0))) (oa : OwnV wr z 3 A n c (ms.map IV)) (ob : OwnV wr z 3 B m d (ws.map IV)) (oc : MO wr z z C q k bs) (dj : ∀ i, A.map (·.block) = some i → B.map (·.block) ≠ some i) (bel : Below w.heap.size w wr) (h1 : w.heap.size ≤ b2) (h2 : b2 < z) (E : Int) :
    (set7 wr b2 (.int .i64 s) (.int .i64 v) (.int .i64 need) (.int .i64 ph) (.slice A n c) (.slice B m d) (.slice C q k)).heap[b2]? = some (.cells #[.int .i64 s, .int .i64 v, .int .i64 need, .int .i64 ph, .slice A n c, .slice B m d, .slice C q k] 27 (0, 0)) ∧
    TwoF w (⟨s, v, need, ph, ms, ws, bs⟩, E) (.returned (.tuple #[.agg #[.int .i64 s, .int .i64 v, .int .i64 need, .int .i64 ph, .slice A n c, .slice B m d, .slice C q k], .int .i64 E])) (set7 wr b2 (.int .i64 s) (.int .i64 v) (.int .i64 need) (.int .i64 ph) (.slice A n c) (.slice B m d) (.slice C q k)) := by
  have hln : ms.length = n := by simpa using oa.len
  have hlm : ws.length = m := by simpa using ob.len
  have hlq : bs.length = q := oc.len
  have hbt := but7 wr b2 (.int .i64 s) (.int .i64 v) (.int .i64 need) (.int .i64 ph) (.slice A n c) (.slice B m d) (.slice C q k)
  have hn : ∀ {X : Option Addr} {n c E : Nat} {l : List Value}, OwnV wr z E X n c l → ∀ i, X.map (·.block) = some i → i ∉ [b2] := fun ho i hi hm => by have := (ho.block i hi).1; simp at hm; omega
  have hzw : w.heap.size ≤ z := by omega
  refine ⟨row7 hres, A, c, B, d, C, k, ?_, ?_, ?_, ?_, dj, ?_⟩
  · simp only [hln, hlm, hlq]
  · simp only [hln]; exact (oa.but hbt (hn oa)).lower' hzw
  · simp only [hlm]; exact (ob.but hbt (hn ob)).lower' hzw
  · simp only [hlq]
    obtain ⟨vs, hv, _⟩ := oc.out
    exact (mo_but oc hbt (hn hv) (fun i cur hi _ => row27_not5 hres hi)).lower hzw hzw
  · exact bel.trans (hbt.below (B := w.heap.size) bel.size (by intro i hi; simp at hi; omega))
end Go.Proofs.Ytkkpfehgobanbaa
