/- The reference's disks: a list of cells, by value: how they lie in memory; an append of elements of two cells. -/
import Derived.Test.YtlhhijhmjkgnaaaLawK
import Derived.Laws.ResultCell
namespace Go.Coop
open Go.RowKit
set_option maxRecDepth 100000
structure Own2 (w : World) (base E : Nat) (A : Option Addr) (n c : Nat) (vs : List Value) : Prop where
  row : w.ownsRow base E 2 (.slice A n c) n vs
section
variable {w w' : World} {A : Option Addr} {n : Nat} {vs : List Value}
theorem Own2.rd {base E c : Nat} (h : Own2 w base E A n c vs) : RdV w A (n * 2) vs :=
  ⟨h.row.1, fun hn => by
    rcases h.row.2 with ⟨hv, h0⟩ | ⟨g, cap, cur, hv, hb, hg, _⟩
    · omega
    · injection hv with hA _ _
      subst hA
      exact ⟨_, rfl, (Array.getElem?_eq_some_iff.1 hg).1, fun j c hj => h.row.cells (g := g) rfl j _ hj⟩⟩
theorem Own2.nil (w : World) (base E : Nat) : Own2 w base E none 0 0 [] := ⟨World.ownsRow_nil w base E 2⟩
theorem Own2.block {base E c : Nat} (h : Own2 w base E A n c vs) : ∀ k, A.map (·.block) = some k → base ≤ k ∧ k < w.heap.size := by
  intro k hk
  refine h.row.lt k ?_
  cases A with
  | none => cases hk
  | some a => simpa [Value.ownBlock] using hk
theorem Own2.kept {base E c : Nat} {row : Option Nat} (h : Own2 w base E A n c vs) (hg : w.grownBy w' row) (hne : A.map (·.block) = none ∨ A.map (·.block) ≠ row) : Own2 w' base E A n c vs :=
  ⟨h.row.kept hg (by cases A with
    | none => exact .inl rfl
    | some a => rcases hne with e | e
                · cases e
                · exact .inr (by simpa [Value.ownBlock] using e))⟩
theorem Own2.below {base E c B : Nat} (h : Own2 w base E A n c vs) (hb : Below B w w') (hB : w.heap.size ≤ B) : Own2 w' base E A n c vs :=
  h.kept (row := none) ⟨hb.os, hb.tape, hb.output, hb.size, fun k hk _ => hb.block k (by omega)⟩ (by cases A <;> simp)
theorem Own2.head {base E c : Nat} (h : Own2 w base E A n c vs) (hn : 0 < n) : ∃ g sp, A = some ⟨g, 0, none⟩ ∧ base ≤ g ∧ g < w.heap.size ∧ w.heap[g]? = some (.cells (vs ++ sp).toArray E (0, 0)) ∧ n ≤ c ∧ c ≤ maxLen ∧ vs.length + sp.length = c * 2 := by
  rcases h.row.2 with ⟨hv, h0⟩ | ⟨g, cap, cur, hv, hb, hg, h1, h2, h3, h4⟩
  · omega
  · injection hv with hA _ hc
    subst hA hc
    have e : cur.toList = vs ++ cur.toList.drop (n * 2) := by rw [← h4, List.take_append_drop]
    refine ⟨g, cur.toList.drop (n * 2), rfl, hb, (Array.getElem?_eq_some_iff.1 hg).1, ?_, h1, h2, ?_⟩
    · rw [← e]
      simpa using hg
    · have := congrArg List.length e
      rw [List.length_append, Array.length_toList, h3] at this
      omega
end
section
variable {P : Program} (w : World)
theorem run_app2 (base : Nat) (t ty E : TypeId) (z : Value) (bytes : Nat) (ht : P.underlying t = some (.slice E)) (hi : (P.info? E).map (fun i => (i.zero, i.size, i.bytes)) = some (some z, 2, bytes)) (hz1 : z.cells.size = 2)
    {A : Option Addr} {n c : Nat} {vs : List Value} (hown : Own2 w base E A n c vs) {B : Option Addr} {m : Nat} {us : List Value} (d : Nat) (hr : RdV w B (m * 2) us) (hm : 0 < m) (h1 : ∀ u ∈ us, u.oneCell' = true) (hsz : (n + m) * bytes ≤ 140737488355328) (hmax : n + m ≤ 140737488355328) (hbase : base ≤ w.heap.size) (N : Nat) (hN : N = n + m) :
    ∃ A' c' w', (Builtin.append_ #[t, t] ty #[.slice A n c, .slice B m d]).run P w = .ok (.slice A' N c') w' ∧ Own2 w' base E A' N c' (vs ++ us) ∧ w.grownBy w' (A.map (·.block)) ∧
      (A'.map (·.block) = A.map (·.block) ∨ A'.map (·.block) = some w.heap.size) := by
  subst hN
  obtain ⟨i, hi, hz, hs1, hs2⟩ := info_parts hi
  have ob : ∀ (X : Option Addr) (p q : Nat), (Value.slice X p q).ownBlock = X.map (·.block) := by intro X p q; cases X <;> rfl
  obtain ⟨ad, rfl, _, hcells⟩ := hr.cells (by omega)
  obtain ⟨v', w', hrun, h2', h3, _, h5⟩ := run_append_own_at (P := P) w base t ty E i z 2 bytes ht hi hz hs1 hs2 hz1 (by omega) (.slice A n c) n vs hown.row ad m d us hr.len hcells h1 (by simp only [maxLen]; omega) hsz hbase
  obtain ⟨A', c', rfl⟩ : ∃ A' c', v' = .slice A' (n + m) c' := by
    rcases h2'.2 with ⟨rfl, h0⟩ | ⟨g, cap, cur, rfl, _⟩
    · exact ⟨none, 0, by rw [h0]⟩
    · exact ⟨_, _, rfl⟩
  refine ⟨A', c', w', hrun, ⟨h2'⟩, ?_, ?_⟩
  · rwa [ob] at h3
  · rwa [ob, ob] at h5
theorem wp_app2 {o : Oper} {a : Act} {K : Act → World → Prop} {Q : Exit → Act → World → Prop} (s x : Operand) (t : TypeId)
    (ho : o.op = .call { callee := .builtin .append, args := #[s, x], argTypes := #[t, t] })
    (base : Nat) (E : TypeId) (z : Value) (bytes : Nat) (ht : P.underlying t = some (.slice E)) (hi : (P.info? E).map (fun i => (i.zero, i.size, i.bytes)) = some (some z, 2, bytes)) (hz1 : z.cells.size = 2)
    {A : Option Addr} {n c : Nat} {vs : List Value} (hs : a.eval s = .slice A n c) (hown : Own2 w base E A n c vs) {B : Option Addr} {m d : Nat} {us : List Value} (hx : a.eval x = .slice B m d) (hr : RdV w B (m * 2) us) (hm : 0 < m) (h1 : ∀ u ∈ us, u.oneCell' = true)
    (hsz : (n + m) * bytes ≤ 140737488355328) (hmax : n + m ≤ 140737488355328) (hbase : base ≤ w.heap.size) (N : Nat) (hN : N = n + m)
    (h : ∀ A' c' w', Own2 w' base E A' N c' (vs ++ us) → w.grownBy w' (A.map (·.block)) → (A'.map (·.block) = A.map (·.block) ∨ A'.map (·.block) = some w.heap.size) → K (a.put o.dst (.slice A' N c')) w') : o.wp P a w K Q := by
  obtain ⟨A', c', w', hrun, h2, h3, h4⟩ := run_app2 (P := P) w base t o.type E z bytes ht hi hz1 hown d hr hm h1 hsz hmax hbase N hN
  unfold Oper.wp execOp
  simp only [ho, resolve, invoke, builtin, Sem.run_bind, Sem.run_pure, Result.andThen_ok, List.map_toArray, List.map_cons, List.map_nil, hs, hx, hrun]
  exact h A' c' w' h2 h3 h4
theorem wpList_app2 {ops : Array Oper} {rest : List Oper} {o : Oper} {a : Act} {Q : Exit → Act → World → Prop} (hgd : o.guard = none) (s x : Operand) (t : TypeId)
    (ho : o.op = .call { callee := .builtin .append, args := #[s, x], argTypes := #[t, t] })
    (base : Nat) (E : TypeId) (z : Value) (bytes : Nat) (ht : P.underlying t = some (.slice E)) (hi : (P.info? E).map (fun i => (i.zero, i.size, i.bytes)) = some (some z, 2, bytes)) (hz1 : z.cells.size = 2)
    {A : Option Addr} {n c : Nat} {vs : List Value} (hs : a.eval s = .slice A n c) (hown : Own2 w base E A n c vs) {B : Option Addr} {m d : Nat} {us : List Value} (hx : a.eval x = .slice B m d) (hr : RdV w B (m * 2) us) (hm : 0 < m) (h1 : ∀ u ∈ us, u.oneCell' = true)
    (hsz : (n + m) * bytes ≤ 140737488355328) (hmax : n + m ≤ 140737488355328) (hbase : base ≤ w.heap.size) (N : Nat) (hN : N = n + m)
    (h : ∀ A' c' w', Own2 w' base E A' N c' (vs ++ us) → w.grownBy w' (A.map (·.block)) → (A'.map (·.block) = A.map (·.block) ∨ A'.map (·.block) = some w.heap.size) → wpList P ops Q rest (a.put o.dst (.slice A' N c')) w') : wpList P ops Q (o :: rest) a w :=
  wpList_plain hgd fun _ hK => wp_app2 w s x t ho base E z bytes ht hi hz1 hs hown hx hr hm h1 hsz hmax hbase N hN fun A' c' w' h2 h3 h4 => hK _ _ (h A' c' w' h2 h3 h4)
end
end Go.Coop
namespace Go.Proofs.Ytlhhijhmjkgnaaa
open Go.RowKit Go.Coop
set_option maxRecDepth 100000
/-- a cell: where its medium and its cache lie -/
structure Cel where
  am : Option Addr
  cm : Nat
  ac : Option Addr
  lc : Nat
  cc : Nat
def Cel.vs (c : Cel) : List Value := [.slice c.am 64 c.cm, .slice c.ac c.lc c.cc]
/-- bytes that lie in a row of bytes of their own -/
def Rd5 (w : World) (A : Option Addr) (l : List UInt8) : Prop := Rd w A 64 l ∧ ∃ g cur, A = some ⟨g, 0, none⟩ ∧ w.heap[g]? = some (.cells cur 5 (0, 0))
theorem Rd5.below {w w' : World} {A : Option Addr} {l : List UInt8} {B : Nat} (h : Rd5 w A l) (hb : Below B w w') (hB : w.heap.size ≤ B) : Rd5 w' A l := by
  obtain ⟨h1, g, cur, h2, h3⟩ := h
  exact ⟨h1.below hb hB, g, cur, h2, (hb.block _ (Nat.lt_of_lt_of_le (Array.getElem?_eq_some_iff.1 h3).1 hB)).trans h3⟩
theorem Rd5.drew {w : World} {A : Option Addr} {l : List UInt8} (h : Rd5 w A l) : Rd5 w.drew A l := ⟨h.1.drew, h.2⟩
theorem Rd5.alloc {w : World} {A : Option Addr} {l : List UInt8} (h : Rd5 w A l) (o : Obj) : Rd5 (w.alloc o) A l := h.below ((Below.refl w.heap.size w).alloc (Nat.le_refl _) o) (Nat.le_refl _)
theorem Rd5.but {w w' : World} {gs : List Nat} {A : Option Addr} {l : List UInt8} (h : Rd5 w A l) (hb : But gs w w') (hn : ∀ k, k ∈ gs → ∀ cur, w.heap[k]? ≠ some (.cells cur 5 (0, 0))) : Rd5 w' A l := by
  obtain ⟨h1, g, cur, rfl, h3⟩ := h
  have hg : g ∉ gs := fun hk => hn g hk cur h3
  exact ⟨rd_but h1 hb hg, g, cur, rfl, hb.cells h3 hg⟩
theorem rd5_own {w : World} {base : Nat} {A : Option Addr} {c : Nat} {l : List UInt8} (h : Own w base 5 A 64 c l) : Rd5 w A l := by
  refine ⟨h.rd, ?_⟩
  rcases h.row.2 with ⟨hv, h0⟩ | ⟨g, cap, cur, hv, hb, hg, _⟩
  · omega
  · injection hv with a _ _
    subst a
    exact ⟨g, cur, rfl, hg⟩
def CacheRd (w : World) (c : Cel) (o : Option (List UInt8)) : Prop := match o with
  | none => c.lc = 0
  | some l => c.lc = 64 ∧ Rd5 w c.ac l
theorem CacheRd.below {w w' : World} {c : Cel} {o : Option (List UInt8)} (h : CacheRd w c o) (hb : Below w.heap.size w w') : CacheRd w' c o := by
  cases o with
  | none => exact h
  | some l => exact ⟨h.1, h.2.below hb (Nat.le_refl _)⟩
def cvs (cs : List Cel) : List Value := cs.flatMap Cel.vs
theorem cvs_len (cs : List Cel) : (cvs cs).length = cs.length * 2 := by
  induction cs with
  | nil => rfl
  | cons c cs ih => simp [cvs, Cel.vs] at ih ⊢; omega
theorem cvs_one (cs : List Cel) : ∀ u ∈ cvs cs, u.oneCell' = true := by
  intro u hu
  obtain ⟨c, _, hc⟩ := List.mem_flatMap.1 hu
  simp [Cel.vs] at hc
  rcases hc with rfl | rfl <;> rfl
theorem cvs_split {cs : List Cel} {i : Nat} {c : Cel} (h : cs[i]? = some c) : cvs cs = cvs (cs.take i) ++ c.vs ++ cvs (cs.drop (i + 1)) := by
  have hi : i < cs.length := (List.getElem?_eq_some_iff.1 h).1
  have e : cs = cs.take i ++ [c] ++ cs.drop (i + 1) := by
    have := List.take_append_drop i cs
    rw [List.drop_eq_getElem_cons hi] at this
    have h2 := (List.getElem?_eq_some_iff.1 h).2
    rw [h2] at this
    simpa using this.symm
  have := congrArg cvs e
  simpa [cvs, List.flatMap_append, List.flatMap_cons] using this
theorem cvs_set {cs : List Cel} {i : Nat} (hi : i < cs.length) (c : Cel) : cvs (cs.set i c) = cvs (cs.take i) ++ c.vs ++ cvs (cs.drop (i + 1)) := by
  have h : (cs.set i c)[i]? = some c := List.getElem?_set_self hi
  rw [cvs_split h]
  congr 2
  · rw [List.take_set_of_le (Nat.le_refl _)]
  · rw [List.drop_set_of_lt (by omega)]
theorem cvs_take_len {cs : List Cel} {i : Nat} (hi : i < cs.length) : (cvs (cs.take i)).length = i * 2 := by rw [cvs_len, List.length_take]; omega
theorem cvs_get {cs : List Cel} {i : Nat} {c : Cel} (h : cs[i]? = some c) : (cvs cs)[i * 2]? = some (.slice c.am 64 c.cm) ∧ (cvs cs)[i * 2 + 1]? = some (.slice c.ac c.lc c.cc) := by
  have hi : i < cs.length := (List.getElem?_eq_some_iff.1 h).1
  have hl := cvs_take_len hi
  rw [cvs_split h, List.append_assoc]
  refine ⟨?_, ?_⟩
  · rw [List.getElem?_append_right (by omega), hl, Nat.sub_self]
    rfl
  · rw [List.getElem?_append_right (by omega), hl, Nat.add_sub_cancel_left]
    rfl
/-- the list of a reference's disk -/
structure RDk (w : World) (A : Option Addr) (n : Nat) (med : Nat → List UInt8) (cache : Nat → Option (List UInt8)) : Prop where
  out : ∃ cs : List Cel, cs.length = n ∧ RdV w A (n * 2) (cvs cs) ∧ ∀ i c, cs[i]? = some c → Rd5 w c.am (med i) ∧ CacheRd w c (cache i)
  lies : ∃ g cur, A = some ⟨g, 0, none⟩ ∧ w.heap[g]? = some (.cells cur 80 (0, 0))
theorem CacheRd.but {w w' : World} {gs : List Nat} {c : Cel} {o : Option (List UInt8)} (h : CacheRd w c o) (hb : But gs w w') (hn : ∀ k, k ∈ gs → ∀ cur, w.heap[k]? ≠ some (.cells cur 5 (0, 0))) : CacheRd w' c o := by
  cases o with
  | none => exact h
  | some l => exact ⟨h.1, h.2.but hb hn⟩
theorem RDk.but {w w' : World} {gs : List Nat} {A : Option Addr} {n : Nat} {med : Nat → List UInt8} {cache : Nat → Option (List UInt8)} (h : RDk w A n med cache) (hb : But gs w w') (hn : ∀ k, k ∈ gs → ∀ cur, w.heap[k]? ≠ some (.cells cur 5 (0, 0)) ∧ w.heap[k]? ≠ some (.cells cur 80 (0, 0))) : RDk w' A n med cache := by
  obtain ⟨cs, h1, h2, h3⟩ := h.out
  obtain ⟨g, cur, rfl, hg⟩ := h.lies
  have hne : g ∉ gs := fun hk => (hn g hk cur).2 hg
  exact ⟨⟨cs, h1, rdv_but h2 hb hne, fun i c hc => ⟨(h3 i c hc).1.but hb fun k hk cur => (hn k hk cur).1, (h3 i c hc).2.but hb fun k hk cur => (hn k hk cur).1⟩⟩, g, cur, rfl, hb.cells hg hne⟩
theorem RDk.below {w w' : World} {A : Option Addr} {n : Nat} {med : Nat → List UInt8} {cache : Nat → Option (List UInt8)} (h : RDk w A n med cache) (hb : Below w.heap.size w w') : RDk w' A n med cache := h.but (gs := []) (But.of_below hb) (by simp)
theorem RDk.get {w : World} {A : Option Addr} {n : Nat} {med : Nat → List UInt8} {cache : Nat → Option (List UInt8)} (h : RDk w A n med cache) {i : Nat} (hi : i < n) : ∃ ad c, A = some ad ∧ ad.block < w.heap.size ∧ w.cell? (ad.add (i * 2)) = some (.slice c.am 64 c.cm) ∧ w.cell? (ad.add (i * 2 + 1)) = some (.slice c.ac c.lc c.cc) ∧ Rd5 w c.am (med i) ∧ CacheRd w c (cache i) := by
  obtain ⟨cs, h1, h2, h3⟩ := h.out
  obtain ⟨ad, rfl, hlt, hc⟩ := h2.cells (by omega)
  have hi2 : i < cs.length := by omega
  have hg : cs[i]? = some cs[i] := List.getElem?_eq_getElem hi2
  obtain ⟨g1, g2⟩ := cvs_get hg
  exact ⟨ad, cs[i], rfl, hlt, hc _ _ g1, hc _ _ g2, h3 i _ hg⟩
theorem info80 : (Try.prog.info? 80).map (fun i => (i.zero, i.size, i.bytes)) = some (some (.agg #[.slice none 0 0, .slice none 0 0]), 2, 48) := by kernel_rfl
theorem size80 : (Try.prog.info? 80).map (·.size) = some 2 := by kernel_rfl
/-- an element of a row of one's own is written -/
theorem Own2.store {w : World} {base n c : Nat} {A : Option Addr} {cs : List Cel} (h : Own2 w base 80 A n c (cvs cs)) (hn : cs.length = n) {i : Nat} (hi : i < n) (k : Cel) :
    ∃ g vs', A = some ⟨g, 0, none⟩ ∧ base ≤ g ∧ g < w.heap.size ∧ (Instr.storeAt 80 (.pointer (some ⟨g, i * 2, none⟩)) (.agg #[.slice k.am 64 k.cm, .slice k.ac k.lc k.cc])).run Try.prog w = .ok () (w.setRow g vs') ∧ Own2 (w.setRow g vs') base 80 A n c (cvs (cs.set i k)) := by
  obtain ⟨g, sp, rfl, hb, hlt, hg, h1, h2, h3⟩ := h.head (by omega)
  have hi2 : i < cs.length := by omega
  have hget : cs[i]? = some cs[i] := List.getElem?_eq_getElem hi2
  rw [cvs_split hget, List.append_assoc] at hg
  have hst := run_storeAt_in (P := Try.prog) w g (i * 2) 80 80 (cvs (cs.take i)) (cs[i]).vs (cvs (cs.drop (i + 1)) ++ sp) k.vs hg (cvs_take_len hi2) rfl size80 (by intro v hv; simp [Cel.vs] at hv; rcases hv with rfl | rfl <;> rfl)
  have e : cvs (cs.take i) ++ k.vs ++ (cvs (cs.drop (i + 1)) ++ sp) = cvs (cs.set i k) ++ sp := by rw [cvs_set hi2, List.append_assoc, List.append_assoc, List.append_assoc]
  rw [e] at hst
  refine ⟨g, (cvs (cs.set i k) ++ sp).toArray, rfl, hb, hlt, hst, ⟨?_, .inr ⟨g, c, (cvs (cs.set i k) ++ sp).toArray, rfl, hb, setRow_heap w g _ _ 80 _ hg, h1, h2, ?_, ?_⟩⟩⟩
  · rw [cvs_len, List.length_set, hn]
  · rw [cvs_len] at h3
    simp [cvs_len]
    omega
  · have : (cvs (cs.set i k)).length = n * 2 := by rw [cvs_len, List.length_set, hn]
    simp [← this]
end Go.Proofs.Ytlhhijhmjkgnaaa
