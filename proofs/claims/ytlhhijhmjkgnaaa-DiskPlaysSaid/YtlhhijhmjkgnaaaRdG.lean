/- The reference's New. -/
import Derived.Test.YtlhhijhmjkgnaaaRdF
namespace Go.Proofs.Ytlhhijhmjkgnaaa
open Go.RowKit Go.Coop
set_option maxRecDepth 100000
theorem step_app2 {P : Program} (w : World) {ops : Array Oper} {o : Oper} {a : Act} {K : Act → World → Prop} {Q : Exit → Act → World → Prop} {Z : Prop} (hgd : o.guard = none) (s x : Operand) (t : TypeId)
    (ho : o.op = .call { callee := .builtin .append, args := #[s, x], argTypes := #[t, t] })
    (base : Nat) (E : TypeId) (z : Value) (bytes : Nat) (ht : P.underlying t = some (.slice E)) (hi : (P.info? E).map (fun i => (i.zero, i.size, i.bytes)) = some (some z, 2, bytes)) (hz1 : z.cells.size = 2)
    {A : Option Addr} {n c : Nat} {vs : List Value} (hs : a.eval s = .slice A n c) (hown : Own2 w base E A n c vs) {B : Option Addr} {m d : Nat} {us : List Value} (hx : a.eval x = .slice B m d) (hr : RdV w B (m * 2) us) (hm : 0 < m) (h1 : ∀ u ∈ us, u.oneCell' = true)
    (hsz : (n + m) * bytes ≤ 140737488355328) (hmax : n + m ≤ 140737488355328) (hbase : base ≤ w.heap.size) (N : Nat) (hN : N = n + m)
    (h : ∀ A' c' w', Own2 w' base E A' N c' (vs ++ us) → w.grownBy w' (A.map (·.block)) → (A'.map (·.block) = A.map (·.block) ∨ A'.map (·.block) = some w.heap.size) → K (a.put o.dst (.slice A' N c')) w') :
    if Region.wanted o (yielded ops a.tmps) = true then Oper.wp P o a w K Q else Z := by
  have hw : Region.wanted o (yielded ops a.tmps) = true := by simp [Region.wanted, hgd]
  rw [if_pos hw]
  exact wp_app2 w s x t ho base E z bytes ht hi hz1 hs hown hx hr hm h1 hsz hmax hbase N hN h
theorem rnew_no {x : Int} (h : x < 1 ∨ 65536 < x) (w : World) : Calls Try.prog 22 #[.int .i64 x] w fun e w' => e = .returned (.tuple #[.agg #[.slice none 0 0, .int .i64 0, .bool false], .int .i64 2]) ∧ Below w.heap.size w w' := by
  by_cases h0 : x < 1
  · go_enter Try.func22, Try.ntmps22
    go_wp2
    refine bodyPost_ret (v := .tuple #[.agg #[.slice none 0 0, .int .i64 0, .bool false], .int .i64 2]) ?_ rfl ⟨rfl, (Below.refl _ _).alloc (Nat.le_refl _) _⟩
    rw [results_cell_tmp rfl]
    simp [asAddr, Result.andThen, load42 (heap_alloc_new w (.cells #[.slice none 0 0, .int .i64 0, .bool false] 42)) rfl]
  · have h1 : 65536 < x := by omega
    go_enter Try.func22, Try.ntmps22
    go_wp2
    refine bodyPost_ret (v := .tuple #[.agg #[.slice none 0 0, .int .i64 0, .bool false], .int .i64 2]) ?_ rfl ⟨rfl, (Below.refl _ _).alloc (Nat.le_refl _) _⟩
    rw [results_cell_tmp rfl]
    simp [asAddr, Result.andThen, load42 (heap_alloc_new w (.cells #[.slice none 0 0, .int .i64 0, .bool false] 42)) rfl]
theorem pair_rd (w : World) (o : Obj) (a b : Value) : RdV ((w.alloc o).alloc (.cells #[a, b] 80)).drew (some ⟨w.heap.size + 1, 0, none⟩) (1 * 2) [a, b] := by
  have := (RdV.new (w.alloc o) [a, b] 80 (0, 0)).drew
  rw [World.size_alloc] at this
  exact this
theorem Below.two' (w : World) (o o' : Obj) : Below w.heap.size w ((w.drew.alloc o).alloc o') := ((Below.refl w.heap.size w).drew.alloc (Nat.le_refl _) o).alloc (by simp) o'
def NRel (w0 : World) (b2 b4 j : Nat) (wr : World) : Prop := ∃ A c cs, wr.heap[b4]? = some (.cells #[.slice A j c, .int .i64 (-1), .bool false] 42 (0, 0)) ∧ Box wr b2 ∧ Own2 wr (w0.heap.size + 2) 80 A j c (cvs cs) ∧ cs.length = j ∧ (∀ (i : Nat) (k : Cel), cs[i]? = some k → (∃ g, k.am = some ⟨g, 0, none⟩ ∧ A.map (·.block) ≠ some g ∧ g < wr.heap.size) ∧ Rd5 wr k.am noughts ∧ k.lc = 0) ∧ Below w0.heap.size w0 wr
/-- the block of a slice -/
def blk (A : Option Addr) : List Nat := A.toList.map (·.block)
theorem grown_but {w0 wr w1 : World} {j : Nat} {A : Option Addr} {c : Nat} {cs : List Cel} {o o' : Obj} (h3 : Own2 wr (w0.heap.size + 2) 80 A j c (cvs cs)) (hg : ((wr.drew.alloc o).alloc o').grownBy w1 (A.map (·.block))) : But (blk A) wr w1 ∧ ∀ k, k ∈ blk A → w0.heap.size + 2 ≤ k ∧ A.map (·.block) = some k := by
  refine ⟨(((But.refl _ wr).drew.alloc o).alloc o').grown hg (fun k hk => ?_), fun k hk => ?_⟩
  · cases A with
    | none => cases hk
    | some a => simpa [blk] using hk.symm
  · cases A with
    | none => simp [blk] at hk
    | some a =>
      have e : (some a : Option Addr).map (·.block) = some k := by simp [blk] at hk; simp [hk]
      exact ⟨(h3.block k e).1, e⟩
theorem nrel_cells {w0 wr w1 : World} {b2 b4 j : Nat} {A : Option Addr} {c : Nat} {cs : List Cel} (hb : b2 = w0.heap.size ∧ b4 = w0.heap.size + 1) (h1 : wr.heap[b4]? = some (.cells #[.slice A j c, .int .i64 (-1), .bool false] 42 (0, 0))) (h3 : Own2 wr (w0.heap.size + 2) 80 A j c (cvs cs)) {o o' : Obj}
    (hg : ((wr.drew.alloc o).alloc o').grownBy w1 (A.map (·.block))) : w1.heap[b4]? = some (.cells #[.slice A j c, .int .i64 (-1), .bool false] 42 (0, 0)) ∧ w1.cell? ⟨b4, 0, none⟩ = some (.slice A j c) ∧ w1.frozen? ⟨b4, 0, none⟩ = false := by
  obtain ⟨hbt, hlo⟩ := grown_but h3 hg
  have h := hbt.cells h1 (fun hk => by have := (hlo _ hk).1; omega)
  exact ⟨h, cell_of_row w1 b4 0 _ 42 (0, 0) h, frozen_of_row w1 b4 0 _ 42 h⟩
theorem rd5_box {w w' : World} {b : Nat} (h : Box w b) (hb : But [b] w w') {A : Option Addr} {l : List UInt8} (hr : Rd5 w A l) : Rd5 w' A l := by
  refine hr.but hb fun k hk cur => ?_
  obtain ⟨X, p, q, z, t, hh⟩ := h
  simp at hk
  subst hk
  rw [hh]
  intro e
  injection e with e
  injection e with _ e _
  cases e
/-- what a round leaves: a cell more -/
theorem nrel_step {w0 wr w1 : World} {b2 b4 j : Nat} {A : Option Addr} {c : Nat} {cs : List Cel} (hb : b2 = w0.heap.size ∧ b4 = w0.heap.size + 1) (h1 : wr.heap[b4]? = some (.cells #[.slice A j c, .int .i64 (-1), .bool false] 42 (0, 0))) (h2 : Box wr b2) (h3 : Own2 wr (w0.heap.size + 2) 80 A j c (cvs cs)) (h4 : cs.length = j) (h5 : ∀ (i : Nat) (k : Cel), cs[i]? = some k → (∃ g, k.am = some ⟨g, 0, none⟩ ∧ A.map (·.block) ≠ some g ∧ g < wr.heap.size) ∧ Rd5 wr k.am noughts ∧ k.lc = 0) (h6 : Below w0.heap.size w0 wr)
    {A' : Option Addr} {c' : Nat} (ho : Own2 w1 (w0.heap.size + 2) 80 A' (j + 1) c' (cvs cs ++ [.slice (some ⟨wr.heap.size, 0, none⟩) 64 64, .slice none 0 0]))
    (hg : ((wr.drew.alloc (.cells (bvs noughts).toArray 5)).alloc (.cells #[.slice (some ⟨wr.heap.size, 0, none⟩) 64 64, .slice none 0 0] 80)).grownBy w1 (A.map (·.block))) (hA' : A'.map (·.block) = A.map (·.block) ∨ A'.map (·.block) = some (wr.heap.size + 2)) : NRel w0 b2 b4 (j + 1) (w1.setCell ⟨b4, 0, none⟩ (.slice A' (j + 1) c')) := by
  obtain ⟨e1, _, _⟩ := nrel_cells hb h1 h3 hg
  obtain ⟨hbt, hlo⟩ := grown_but h3 hg
  obtain ⟨rfl, rfl⟩ := hb
  have hlt4 : w0.heap.size + 1 < wr.heap.size := (Array.getElem?_eq_some_iff.1 h1).1
  have hbs : But [w0.heap.size + 1] w1 (w1.setCell ⟨w0.heap.size + 1, 0, none⟩ (.slice A' (j + 1) c')) := (But.refl _ _).setCell (by simp) _
  have hB1 : Below w0.heap.size w0 w1 := h6.trans (hbt.below h6.size (fun k hk => by have := (hlo k hk).1; omega))
  have hrow := heap_setCell_same w1 (w0.heap.size + 1) 0 _ 42 (.slice A' (j + 1) c') e1
  have hold : ∀ {X : Option Addr} {g : Nat}, X = some ⟨g, 0, none⟩ → A.map (·.block) ≠ some g → Rd5 wr X noughts → Rd5 (w1.setCell ⟨w0.heap.size + 1, 0, none⟩ (.slice A' (j + 1) c')) X noughts := by
    intro X g hX hne hr
    subst hX
    obtain ⟨hr, g', cur, eg, hg'⟩ := hr
    injection eg with eg
    injection eg with eg _ _
    subst eg
    have hni := fun hk => hne (hlo _ hk).2
    exact rd5_box ⟨_, _, _, _, _, e1⟩ hbs ⟨rd_but hr hbt hni, g, cur, rfl, hbt.cells hg' hni⟩
  refine ⟨A', c', cs ++ [⟨some ⟨wr.heap.size, 0, none⟩, 64, none, 0, 0⟩], hrow, ?_, ?_, by simp [h4], ?_, hB1.trans (hbs.below hB1.size (by simp))⟩
  · obtain ⟨X, p, q, z, t, hh⟩ := h2
    exact ⟨X, p, q, z, t, hbs.cells (hbt.cells hh (fun hk => by have := (hlo _ hk).1; omega)) (by simp)⟩
  · have e : cvs (cs ++ [⟨some ⟨wr.heap.size, 0, none⟩, 64, none, 0, 0⟩]) = cvs cs ++ [.slice (some ⟨wr.heap.size, 0, none⟩) 64 64, .slice none 0 0] := by simp [cvs, Cel.vs]
    rw [e]
    refine ho.kept (row := some (w0.heap.size + 1)) ⟨hbs.os, hbs.tape, hbs.output, hbs.size, fun k hk hne => hbs.block k hk (by simpa using fun e => hne (by rw [e]))⟩ ?_
    right
    intro e
    have := (ho.block _ e).1
    omega
  · intro i k hk
    rw [List.getElem?_append] at hk
    split at hk
    · obtain ⟨⟨g, g1, g2, g3⟩, g4, g5⟩ := h5 i k hk
      refine ⟨⟨g, g1, ?_, ?_⟩, hold g1 g2 g4, g5⟩
      · rcases hA' with e | e
        · rw [e]; exact g2
        · rw [e]; intro e; injection e with e; omega
      · have := hbt.size
        have := hbs.size
        omega
    · rename_i hni
      have hi : i - cs.length = 0 := by
        have := (List.getElem?_eq_some_iff.1 hk).1
        simp at this
        omega
      rw [hi] at hk
      injection hk with hk
      subst hk
      have hs2 : wr.heap.size + 2 ≤ w1.heap.size := by have := hg.size; simpa using this
      have hs3 := hbs.size
      have hne : A.map (·.block) ≠ some wr.heap.size := fun e => by have := (h3.block _ e).2; omega
      refine ⟨⟨wr.heap.size, rfl, ?_, by omega⟩, ?_, rfl⟩
      · rcases hA' with e | e
        · rw [e]; exact hne
        · rw [e]; intro e; injection e with e; omega
      · have hr : Rd5 (((wr.drew.alloc (.cells (bvs noughts).toArray 5)).alloc (.cells #[.slice (some ⟨wr.heap.size, 0, none⟩) 64 64, .slice none 0 0] 80))) (some ⟨wr.heap.size, 0, none⟩) noughts := Rd5.alloc ⟨rd_new wr.drew noughts (by simp [noughts]) 5, _, _, rfl, heap_alloc_new wr.drew _⟩ _
        have hbt2 : But (blk A) ((wr.drew.alloc (.cells (bvs noughts).toArray 5)).alloc (.cells #[.slice (some ⟨wr.heap.size, 0, none⟩) 64 64, .slice none 0 0] 80)) w1 := (But.refl _ _).grown hg (fun k hk => by
          cases A with
          | none => cases hk
          | some a => simpa [blk] using hk.symm)
        obtain ⟨hr, g', cur, eg, hg'⟩ := hr
        injection eg with eg
        injection eg with eg _ _
        subst eg
        have hni := fun hk => hne (hlo _ hk).2
        exact rd5_box ⟨_, _, _, _, _, e1⟩ hbs ⟨rd_but hr hbt2 hni, _, cur, rfl, hbt2.cells hg' hni⟩
set_option maxHeartbeats 2000000 in
theorem rnew_yes (n : Nat) (h1 : 1 ≤ n) (h2 : n ≤ 65536) (w : World) : Calls Try.prog 22 #[.int .i64 (n : Int)] w (RNew n (fun _ => noughts) (fun _ => none) (-1) false 0 w) := by
  have hmk : ∀ w : World, (Instr.makeSlice 29 (.int .i64 64) (.int .i64 64)).run Try.prog w = .ok (.slice (some ⟨w.heap.size, 0, none⟩) 64 64) (w.alloc (.cells (bvs noughts).toArray 5)) := fun w => make29 64 (by omega) w
  go_enter Try.func22, Try.ntmps22
  go_wp2_with fail
  obtain ⟨w3, hw3⟩ : ∃ w3, ((w.alloc (.cells #[.slice none 0 0, .int .i64 0, .bool false] 42)).alloc (.cells #[.slice none 0 0, .int .i64 (-1), .bool false] 42)) = w3 := ⟨_, rfl⟩
  obtain ⟨h3, h6, hw⟩ := boxes (w := w) (X := #[.slice none 0 0, .int .i64 0, .bool false]) (T := 42) (Y := #[.slice none 0 0, .int .i64 (-1), .bool false]) (U := 42) (Below.refl _ _)
  rw [hw3] at h3 h6 hw ⊢
  obtain ⟨b2, hb2⟩ : ∃ b2, w.heap.size = b2 := ⟨_, rfl⟩
  obtain ⟨b4, hb4⟩ : ∃ b4, b2 + 1 = b4 := ⟨_, rfl⟩
  have H0 : Hid (NRel w w.heap.size (w.heap.size + 1) 0 w3) := ⟨none, 0, [], h6, ⟨_, _, _, _, _, h3⟩, Own2.nil _ _ _, rfl, fun _ _ h => by simp at h, hw⟩
  rw [hb2] at H0 ⊢
  rw [hb4] at H0 ⊢
  have HE12 : Hid (b2 = w.heap.size ∧ b4 = w.heap.size + 1) := ⟨hb2.symm, by omega⟩
  clear hw3 h3 h6 hw hb2 hb4
  go_loopw [5] (fun i wr => ∃ j : Nat, j ≤ n ∧ i = .int .i64 j ∧ Hid (NRel w b2 b4 j wr)) (fun i _ => n - (Go.RowKit.intOf i).toNat)
  case atStart => exact ⟨0, by omega, rfl, H0.out⟩
  case round =>
    obtain ⟨j, hj, rfl, HR⟩ := hrel
    clear H0
    by_cases hlt : j < n
    · obtain ⟨A, c, cs, g1, g2, g3, g4, g5, g6⟩ := HR.out
      have HG := Lib.hid (And.intro g1 (And.intro g2 (And.intro g3 (And.intro g4 (And.intro g5 g6)))))
      have c40 := cell_of_row wr b4 0 _ 42 (0, 0) g1
      have r40 := frozen_of_row wr b4 0 _ 42 g1
      simp at c40
      have hl4 : b4 < wr.heap.size := (Array.getElem?_eq_some_iff.1 g1).1
      clear g1 g2 g3 g4 g5 g6 HR
      go_wp2_with fail
      refine wp_region_held_drew (S := fun _ => True) (by kernel_rfl) (by trivial) (fun hHeld => ?_)
      refine wpAnyH_take (i := 0) (oi := ⟨some 19, _, _, _, _, _⟩) (v := ?_) rfl (by kernel_rfl) (by kernel_rfl) (by kernel_rfl) (fun _ _ _ h => h) (Or.inl ⟨by rfl, ?_⟩) (by assumption) ?_
      rotate_left
      · intro w hSw
        (try dsimp only at hSw)
        go_simp
        all_goals (with_reducible rfl)
      try simp only [Act.put, List.setIfInBounds_toArray, List.set_cons_zero, List.set_cons_succ]
      refine wpAnyH_ready (rs := [1, 2]) (by kernel_rfl) (by simp) (AllReadyH.cons (o := ⟨some 20, _, _, _, _, _⟩) rfl (fun K hK => ?_) (AllReadyH.cons (o := ⟨some 21, _, _, _, _, _⟩) rfl (fun K hK => ?_) AllReadyH.nil))
      · go_simp
        refine hK.out _ _ trivial (fun hHeld => ?_)
        clear hK K
        try simp only [Act.put, List.setIfInBounds_toArray, List.set_cons_zero, List.set_cons_succ]
        refine wpAnyH_ready (rs := [2]) (by kernel_rfl) (by simp) (AllReadyH.cons (o := ⟨some 21, _, _, _, _, _⟩) rfl (fun K hK => ?_) AllReadyH.nil)
        go_simp
        refine hK.out _ _ trivial (fun hHeld => ?_)
        clear hK K
        try simp only [Act.put, List.setIfInBounds_toArray, List.set_cons_zero, List.set_cons_succ]
        refine wpAnyH_take (i := 3) (oi := ⟨some 22, _, _, _, _, _⟩) (v := ?_) rfl (by kernel_rfl) (by kernel_rfl) (by kernel_rfl) (fun _ _ _ h => h) (Or.inl ⟨by rfl, ?_⟩) (by assumption) ?_
        rotate_left
        · intro w hSw
          (try dsimp only at hSw)
          go_simp
          all_goals (with_reducible rfl)
        try simp only [Act.put, List.setIfInBounds_toArray, List.set_cons_zero, List.set_cons_succ]
        refine wpAnyH_ready (rs := [4]) (by kernel_rfl) (by simp) (AllReadyH.cons (o := ⟨some 23, _, _, _, _, _⟩) rfl (fun K hK => ?_) AllReadyH.nil)
        go_simp
        refine hK.out _ _ trivial (fun hHeld => ?_)
        clear hK K
        try simp only [Act.put, List.setIfInBounds_toArray, List.set_cons_zero, List.set_cons_succ]
        refine wpAnyH_ready (rs := [5]) (by kernel_rfl) (by simp) (AllReadyH.cons (o := ⟨some 24, _, _, _, _, _⟩) rfl (fun K hK => ?_) AllReadyH.nil)
        refine step_app2 _ rfl (.tmp 20) (.tmp 23) 40 rfl (w.heap.size + 2) 80 _ 48 Try.underlying40 info80 rfl rfl (HG.out.2.2.1.below (Below.two' wr _ _) (Nat.le_refl _)) rfl (m := 1) (pair_rd wr _ _ _) (by omega) (by intro u hu; simp at hu; rcases hu with rfl | rfl <;> rfl) (by omega) (by omega) (by have := HG.out.2.2.2.2.2.size; show _ ≤ ((wr.alloc _).alloc _).heap.size; simp; omega) (j + 1) (by omega) ?_
        intro A' c' w1 hown hg hga
        have HW := Lib.hid (nrel_step HE12.out HG.out.1 HG.out.2.1 HG.out.2.2.1 HG.out.2.2.2.1 HG.out.2.2.2.2.1 HG.out.2.2.2.2.2 hown hg (by simpa using hga))
        obtain ⟨_, k40, z40⟩ := nrel_cells HE12.out HG.out.1 HG.out.2.2.1 hg
        clear hown hg hga
        refine hK.out _ _ trivial (fun hHeld => ?_)
        clear hK K
        try simp only [Act.put, List.setIfInBounds_toArray, List.set_cons_zero, List.set_cons_succ]
        refine wpAnyH_take (i := 6) (oi := ⟨some 25, _, _, _, _, _⟩) (v := ?_) rfl (by kernel_rfl) (by kernel_rfl) (by kernel_rfl) (fun _ _ _ h => h) (Or.inl ⟨by rfl, ?_⟩) (by assumption) ?_
        rotate_left
        · intro w hSw
          (try dsimp only at hSw)
          go_simp
          all_goals (with_reducible rfl)
        try simp only [Act.put, List.setIfInBounds_toArray, List.set_cons_zero, List.set_cons_succ]
        refine wpAnyH_ready (rs := [7]) (by kernel_rfl) (by simp) (AllReadyH.cons (o := ⟨none, _, _, _, _, _⟩) rfl (fun K hK => ?_) AllReadyH.nil)
        go_simp
        refine hK.out _ _ trivial (fun hHeld => ?_)
        clear hK K
        try simp only [Act.put, List.setIfInBounds_toArray, List.set_cons_zero, List.set_cons_succ]
        refine wpAnyH_done (by kernel_rfl) ?_ _
        go_wp2
        go_roundw
        case rel => exact ⟨j + 1, by omega, by go_num, HW.out⟩
        case measure => simp [Go.RowKit.intOf]; omega
      · go_simp
        refine hK.out _ _ trivial (fun hHeld => ?_)
        clear hK K
        try simp only [Act.put, List.setIfInBounds_toArray, List.set_cons_zero, List.set_cons_succ]
        refine wpAnyH_take (i := 3) (oi := ⟨some 22, _, _, _, _, _⟩) (v := ?_) rfl (by kernel_rfl) (by kernel_rfl) (by kernel_rfl) (fun _ _ _ h => h) (Or.inl ⟨by rfl, ?_⟩) (by assumption) ?_
        rotate_left
        · intro w hSw
          (try dsimp only at hSw)
          go_simp
          all_goals (with_reducible rfl)
        try simp only [Act.put, List.setIfInBounds_toArray, List.set_cons_zero, List.set_cons_succ]
        refine wpAnyH_ready (rs := [1, 4]) (by kernel_rfl) (by simp) (AllReadyH.cons (o := ⟨some 20, _, _, _, _, _⟩) rfl (fun K hK => ?_) (AllReadyH.cons (o := ⟨some 23, _, _, _, _, _⟩) rfl (fun K hK => ?_) AllReadyH.nil))
        · go_simp
          refine hK.out _ _ trivial (fun hHeld => ?_)
          clear hK K
          try simp only [Act.put, List.setIfInBounds_toArray, List.set_cons_zero, List.set_cons_succ]
          refine wpAnyH_ready (rs := [4]) (by kernel_rfl) (by simp) (AllReadyH.cons (o := ⟨some 23, _, _, _, _, _⟩) rfl (fun K hK => ?_) AllReadyH.nil)
          go_simp
          refine hK.out _ _ trivial (fun hHeld => ?_)
          clear hK K
          try simp only [Act.put, List.setIfInBounds_toArray, List.set_cons_zero, List.set_cons_succ]
          refine wpAnyH_ready (rs := [5]) (by kernel_rfl) (by simp) (AllReadyH.cons (o := ⟨some 24, _, _, _, _, _⟩) rfl (fun K hK => ?_) AllReadyH.nil)
          refine step_app2 _ rfl (.tmp 20) (.tmp 23) 40 rfl (w.heap.size + 2) 80 _ 48 Try.underlying40 info80 rfl rfl (HG.out.2.2.1.below (Below.two' wr _ _) (Nat.le_refl _)) rfl (m := 1) (pair_rd wr _ _ _) (by omega) (by intro u hu; simp at hu; rcases hu with rfl | rfl <;> rfl) (by omega) (by omega) (by have := HG.out.2.2.2.2.2.size; show _ ≤ ((wr.alloc _).alloc _).heap.size; simp; omega) (j + 1) (by omega) ?_
          intro A' c' w1 hown hg hga
          have HW := Lib.hid (nrel_step HE12.out HG.out.1 HG.out.2.1 HG.out.2.2.1 HG.out.2.2.2.1 HG.out.2.2.2.2.1 HG.out.2.2.2.2.2 hown hg (by simpa using hga))
          obtain ⟨_, k40, z40⟩ := nrel_cells HE12.out HG.out.1 HG.out.2.2.1 hg
          clear hown hg hga
          refine hK.out _ _ trivial (fun hHeld => ?_)
          clear hK K
          try simp only [Act.put, List.setIfInBounds_toArray, List.set_cons_zero, List.set_cons_succ]
          refine wpAnyH_take (i := 6) (oi := ⟨some 25, _, _, _, _, _⟩) (v := ?_) rfl (by kernel_rfl) (by kernel_rfl) (by kernel_rfl) (fun _ _ _ h => h) (Or.inl ⟨by rfl, ?_⟩) (by assumption) ?_
          rotate_left
          · intro w hSw
            (try dsimp only at hSw)
            go_simp
            all_goals (with_reducible rfl)
          try simp only [Act.put, List.setIfInBounds_toArray, List.set_cons_zero, List.set_cons_succ]
          refine wpAnyH_ready (rs := [7]) (by kernel_rfl) (by simp) (AllReadyH.cons (o := ⟨none, _, _, _, _, _⟩) rfl (fun K hK => ?_) AllReadyH.nil)
          go_simp
          refine hK.out _ _ trivial (fun hHeld => ?_)
          clear hK K
          try simp only [Act.put, List.setIfInBounds_toArray, List.set_cons_zero, List.set_cons_succ]
          refine wpAnyH_done (by kernel_rfl) ?_ _
          go_wp2
          go_roundw
          case rel => exact ⟨j + 1, by omega, by go_num, HW.out⟩
          case measure => simp [Go.RowKit.intOf]; omega
        · go_simp
          refine hK.out _ _ trivial (fun hHeld => ?_)
          clear hK K
          try simp only [Act.put, List.setIfInBounds_toArray, List.set_cons_zero, List.set_cons_succ]
          refine wpAnyH_ready (rs := [1]) (by kernel_rfl) (by simp) (AllReadyH.cons (o := ⟨some 20, _, _, _, _, _⟩) rfl (fun K hK => ?_) AllReadyH.nil)
          go_simp
          refine hK.out _ _ trivial (fun hHeld => ?_)
          clear hK K
          try simp only [Act.put, List.setIfInBounds_toArray, List.set_cons_zero, List.set_cons_succ]
          refine wpAnyH_ready (rs := [5]) (by kernel_rfl) (by simp) (AllReadyH.cons (o := ⟨some 24, _, _, _, _, _⟩) rfl (fun K hK => ?_) AllReadyH.nil)
          refine step_app2 _ rfl (.tmp 20) (.tmp 23) 40 rfl (w.heap.size + 2) 80 _ 48 Try.underlying40 info80 rfl rfl (HG.out.2.2.1.below (Below.two' wr _ _) (Nat.le_refl _)) rfl (m := 1) (pair_rd wr _ _ _) (by omega) (by intro u hu; simp at hu; rcases hu with rfl | rfl <;> rfl) (by omega) (by omega) (by have := HG.out.2.2.2.2.2.size; show _ ≤ ((wr.alloc _).alloc _).heap.size; simp; omega) (j + 1) (by omega) ?_
          intro A' c' w1 hown hg hga
          have HW := Lib.hid (nrel_step HE12.out HG.out.1 HG.out.2.1 HG.out.2.2.1 HG.out.2.2.2.1 HG.out.2.2.2.2.1 HG.out.2.2.2.2.2 hown hg (by simpa using hga))
          obtain ⟨_, k40, z40⟩ := nrel_cells HE12.out HG.out.1 HG.out.2.2.1 hg
          clear hown hg hga
          refine hK.out _ _ trivial (fun hHeld => ?_)
          clear hK K
          try simp only [Act.put, List.setIfInBounds_toArray, List.set_cons_zero, List.set_cons_succ]
          refine wpAnyH_take (i := 6) (oi := ⟨some 25, _, _, _, _, _⟩) (v := ?_) rfl (by kernel_rfl) (by kernel_rfl) (by kernel_rfl) (fun _ _ _ h => h) (Or.inl ⟨by rfl, ?_⟩) (by assumption) ?_
          rotate_left
          · intro w hSw
            (try dsimp only at hSw)
            go_simp
            all_goals (with_reducible rfl)
          try simp only [Act.put, List.setIfInBounds_toArray, List.set_cons_zero, List.set_cons_succ]
          refine wpAnyH_ready (rs := [7]) (by kernel_rfl) (by simp) (AllReadyH.cons (o := ⟨none, _, _, _, _, _⟩) rfl (fun K hK => ?_) AllReadyH.nil)
          go_simp
          refine hK.out _ _ trivial (fun hHeld => ?_)
          clear hK K
          try simp only [Act.put, List.setIfInBounds_toArray, List.set_cons_zero, List.set_cons_succ]
          refine wpAnyH_done (by kernel_rfl) ?_ _
          go_wp2
          go_roundw
          case rel => exact ⟨j + 1, by omega, by go_num, HW.out⟩
          case measure => simp [Go.RowKit.intOf]; omega
    · obtain rfl : j = n := by omega
      obtain ⟨A, c, cs, g1, g2, g3, g4, g5, g6⟩ := HR.out
      obtain ⟨X, p, q, z, t, hh⟩ := g2
      have hD : RDk wr A j (fun _ => noughts) (fun _ => none) := by
        obtain ⟨gz, sp, ez, _, _, hgz, _⟩ := g3.head (by omega)
        exact ⟨⟨cs, g4, g3.rd, fun i k hk => ⟨(g5 i k hk).2.1, (g5 i k hk).2.2⟩⟩, gz, _, ez, hgz⟩
      have c40 := cell_of_row wr b4 0 _ 42 (0, 0) g1
      have c41 := cell_of_row wr b4 1 _ 42 (0, 0) g1
      have c42 := cell_of_row wr b4 2 _ 42 (0, 0) g1
      have c60 := cell_of_row wr b2 0 _ 42 (0, 0) hh
      have c61 := cell_of_row wr b2 1 _ 42 (0, 0) hh
      have c62 := cell_of_row wr b2 2 _ 42 (0, 0) hh
      have r60 := frozen_of_row wr b2 0 _ 42 hh
      have r61 := frozen_of_row wr b2 1 _ 42 hh
      have r62 := frozen_of_row wr b2 2 _ 42 hh
      simp at c40 c41 c42 c60 c61 c62
      have HQ := Lib.hid (And.intro hh (And.intro hD g6))
      clear hh g1 g3 g4 g5 g6 hD HR
      go_wp2
      have hbt : But [b2] wr (((wr.setCell ⟨b2, 0, none⟩ (.slice A j c)).setCell ⟨b2, 1, none⟩ (.int .i64 (-1))).setCell ⟨b2, 2, none⟩ (.bool false)) := (((But.refl [b2] wr).setCell (by simp) _).setCell (by simp) _).setCell (by simp) _
      have hE6 := row3 (v0 := .slice A j c) (v1 := .int .i64 (-1)) (v2 := .bool false) HQ.out.1
      have hE := (HQ.out.2.2).trans (((((But.refl [b2] wr).setCell (p := ⟨b2, 0, none⟩) (by simp) (.slice A j c)).setCell (p := ⟨b2, 1, none⟩) (by simp) (.int .i64 (-1))).setCell (p := ⟨b2, 2, none⟩) (by simp) (.bool false)).below (HQ.out.2.2).size (by have := HE12.out; simp; omega))
      refine bodyPost_ret (v := .tuple #[.agg #[.slice A j c, .int .i64 (-1), .bool false], .int .i64 0]) ?_ rfl ?_
      · rw [results_cell_tmp rfl]
        simp [asAddr, Result.andThen, load42 hE6 rfl]
      · exact ⟨A, c, rfl, RDk.box ⟨_, _, _, _, _, HQ.out.1⟩ hbt HQ.out.2.1 (by omega), hE⟩
end Go.Proofs.Ytlhhijhmjkgnaaa
