/- The reference: bytes of one's own; another cell; an operation. -/
import Derived.Test.YtlhhijhmjkgnaaaRdA
namespace Go.Proofs.Ytlhhijhmjkgnaaa
open Go.RowKit Go.Coop
set_option maxRecDepth 100000
theorem rown_any (A : Option Addr) (n c : Nat) (l : List UInt8) (w : World) (ha : Rd w A n l) (hn : n ≤ 1000000) : Calls Try.prog 44 #[.slice A n c] w fun e w' => ∃ A' c', e = .returned (.slice A' n c') ∧ Own w' w.heap.size 5 A' n c' l ∧ Below w.heap.size w w' := by
  go_enter Try.func44, Try.ntmps44
  go_wp2_with (at_builtin; refine wpList_app _ rfl (.tmp 4) (.tmp 5) 29 rfl w.heap.size 5 Try.underlying29 info5 rfl (Own.nil _ _ _) rfl ha (by omega) (by omega) n (by omega) ?_; intro A' c' w1 hown hg _)
  have HO := Lib.hid (And.intro hown hg)
  clear hown hg
  go_wp2
  go_ret
  exact ⟨A', c', rfl, HO.out.1, (Below.refl _ _).grown HO.out.2 (Nat.le_refl _) (by intro k hk; cases hk)⟩
theorem load42 {w : World} {g : Nat} {cs : Array Value} (hg : w.heap[g]? = some (.cells cs 42 (0, 0))) (hs : cs.size = 3) : (loadVar 42 ⟨g, 0, none⟩).run Try.prog w = .ok (.agg cs) w :=
  run_loadVar_row w g 42 42 cs _ _ hg Try.underlying42 rfl (by rw [hs]; kernel_rfl)
theorem heap_second (w : World) (o o' : Obj) : ((w.alloc o).alloc o').heap[w.heap.size + 1]? = some o' := by
  have := heap_alloc_new (w.alloc o) o'
  rwa [World.size_alloc] at this
theorem below_two (w : World) (o o' : Obj) : Below w.heap.size w ((w.alloc o).alloc o') := ((Below.refl _ _).alloc (Nat.le_refl _) o).alloc (by simp) o'
theorem rop_fails (A : Option Addr) (n c : Nat) (dn : Bool) (w : World) : Calls Try.prog 42 #[.agg #[.slice A n c, .int .i64 0, .bool dn]] w fun e w' => e = .returned (.tuple #[.agg #[.slice A n c, .int .i64 (-1), .bool true], .bool false]) ∧ Below w.heap.size w w' := by
  go_enter Try.func42, Try.ntmps42
  go_wp2
  refine bodyPost_ret (v := .tuple #[.agg #[.slice A n c, .int .i64 (-1), .bool true], .bool false]) ?_ rfl ⟨rfl, below_two _ _ _⟩
  rw [results_cell_tmp rfl]
  simp [asAddr, Result.andThen, load42 (heap_second w (.cells #[.slice A n c, .int .i64 (-1), .bool true] 42) (.cells #[.slice A n c, .int .i64 (-1), .bool true] 42)) rfl]
theorem rop_goes (A : Option Addr) (n c : Nat) (lf : Int) (dn : Bool) (w : World) (h : lf ≠ 0) (hb : -9223372036854775808 ≤ lf ∧ lf ≤ 9223372036854775807) {lf' : Int} (he : lf' = if 0 < lf then lf - 1 else lf) : Calls Try.prog 42 #[.agg #[.slice A n c, .int .i64 lf, .bool dn]] w fun e w' => e = .returned (.tuple #[.agg #[.slice A n c, .int .i64 lf', .bool dn], .bool true]) ∧ Below w.heap.size w w' := by
  subst he
  by_cases h0 : 0 < lf
  · rw [if_pos h0]
    go_enter Try.func42, Try.ntmps42
    go_wp2
    refine bodyPost_ret (v := .tuple #[.agg #[.slice A n c, .int .i64 (lf - 1), .bool dn], .bool true]) ?_ rfl ⟨rfl, below_two _ _ _⟩
    rw [results_cell_tmp rfl]
    simp [asAddr, Result.andThen, load42 (heap_second w (.cells #[.slice A n c, .int .i64 (lf - 1), .bool dn] 42) (.cells #[.slice A n c, .int .i64 (lf - 1), .bool dn] 42)) rfl]
  · rw [if_neg h0]
    go_enter Try.func42, Try.ntmps42
    go_wp2
    refine bodyPost_ret (v := .tuple #[.agg #[.slice A n c, .int .i64 lf, .bool dn], .bool true]) ?_ rfl ⟨rfl, below_two _ _ _⟩
    rw [results_cell_tmp rfl]
    simp [asAddr, Result.andThen, load42 (heap_second w (.cells #[.slice A n c, .int .i64 lf, .bool dn] 42) (.cells #[.slice A n c, .int .i64 lf, .bool dn] 42)) rfl]
/-- three cells of a block are written -/
theorem row3 {w : World} {b : Nat} {T : TypeId} {x0 x1 x2 v0 v1 v2 : Value} (h : w.heap[b]? = some (.cells #[x0, x1, x2] T (0, 0))) : (((w.setCell ⟨b, 0, none⟩ v0).setCell ⟨b, 1, none⟩ v1).setCell ⟨b, 2, none⟩ v2).heap[b]? = some (.cells #[v0, v1, v2] T (0, 0)) := by
  have h1 := heap_setCell_same w b 0 _ T v0 h
  have h2 := heap_setCell_same _ b 1 _ T v1 h1
  exact heap_setCell_same _ b 2 _ T v2 h2
theorem with_mid (w : World) {A : Option Addr} {n c : Nat} {lf : Int} {dn : Bool} {ka kc : Option Addr} {kb kd ke : Nat} {cs : List Cel} {w1 : World} {A' : Option Addr} {c' : Nat} (hown : Own2 w1 (w.heap.size + 1 + 1 + 1) 80 A' n c' ([] ++ cvs cs))
    (hg : (((w.alloc (.cells #[.slice A n c, .int .i64 lf, .bool dn] 42)).alloc (.cells #[.slice ka 64 kb, .slice kc kd ke] 80)).alloc (.cells #[.slice none 0 0, .int .i64 0, .bool false] 42)).grownBy w1 ((none : Option Addr).map (·.block))) (hl : cs.length = n) {i : Nat} (hi : i < n) :
    ∃ g vs', A' = some ⟨g, 0, none⟩ ∧ (Instr.storeAt 80 (.pointer (some ⟨g, i * 2, none⟩)) (.agg #[.slice ka 64 kb, .slice kc kd ke])).run Try.prog w1 = .ok () (w1.setRow g vs') ∧ w1.cell? ⟨w.heap.size + 1, 0, none⟩ = some (.slice ka 64 kb) ∧ w1.cell? ⟨w.heap.size + 1, 1, none⟩ = some (.slice kc kd ke) ∧
      ∃ w2, w1.setRow g vs' = w2 ∧ w2.heap[w.heap.size]? = some (.cells #[.slice A n c, .int .i64 lf, .bool dn] 42 (0, 0)) ∧ w2.heap[w.heap.size + 1 + 1]? = some (.cells #[.slice none 0 0, .int .i64 0, .bool false] 42 (0, 0)) ∧ Own2 w2 (w.heap.size + 1 + 1 + 1) 80 A' n c' (cvs (cs.set i ⟨ka, kb, kc, kd, ke⟩)) ∧ Below w.heap.size w w2 := by
  have hown : Own2 w1 (w.heap.size + 1 + 1 + 1) 80 A' n c' (cvs cs) := hown
  obtain ⟨g, vs', rfl, hb, hlt, hst, hown2⟩ := Own2.store hown hl hi ⟨ka, kb, kc, kd, ke⟩
  have hb0 : Below w.heap.size w (((w.alloc (.cells #[.slice A n c, .int .i64 lf, .bool dn] 42)).alloc (.cells #[.slice ka 64 kb, .slice kc kd ke] 80)).alloc (.cells #[.slice none 0 0, .int .i64 0, .bool false] 42)) := (below_two w _ _).alloc (by simp; omega) _
  have hh3 : (((w.alloc (.cells #[.slice A n c, .int .i64 lf, .bool dn] 42)).alloc (.cells #[.slice ka 64 kb, .slice kc kd ke] 80)).alloc (.cells #[.slice none 0 0, .int .i64 0, .bool false] 42)).heap[w.heap.size]? = some (.cells #[.slice A n c, .int .i64 lf, .bool dn] 42 (0, 0)) := by
    rw [Below.heap_alloc _ _ _ (by simp; omega), Below.heap_alloc _ _ _ (by simp)]
    exact heap_alloc_new w _
  have hh5 : (((w.alloc (.cells #[.slice A n c, .int .i64 lf, .bool dn] 42)).alloc (.cells #[.slice ka 64 kb, .slice kc kd ke] 80)).alloc (.cells #[.slice none 0 0, .int .i64 0, .bool false] 42)).heap[w.heap.size + 1]? = some (.cells #[.slice ka 64 kb, .slice kc kd ke] 80 (0, 0)) := by
    rw [Below.heap_alloc _ _ _ (by simp)]
    exact heap_second w _ _
  have hh6 : (((w.alloc (.cells #[.slice A n c, .int .i64 lf, .bool dn] 42)).alloc (.cells #[.slice ka 64 kb, .slice kc kd ke] 80)).alloc (.cells #[.slice none 0 0, .int .i64 0, .bool false] 42)).heap[w.heap.size + 1 + 1]? = some (.cells #[.slice none 0 0, .int .i64 0, .bool false] 42 (0, 0)) := by
    have := heap_second (w.alloc (.cells #[.slice A n c, .int .i64 lf, .bool dn] 42)) (.cells #[.slice ka 64 kb, .slice kc kd ke] 80) (.cells #[.slice none 0 0, .int .i64 0, .bool false] 42)
    rwa [World.size_alloc] at this
  have hbt := But.grown (But.refl [] _) hg (by intro k hk; cases hk)
  have g3 := hbt.cells hh3 (by simp)
  have g5 := hbt.cells hh5 (by simp)
  have g6 := hbt.cells hh6 (by simp)
  have hbw : Below w.heap.size w (w1.setRow g vs') := (hb0.trans (hbt.none.mono (by simp; omega))).trans (((But.refl [g] w1).setRow (by simp) vs').below (by have := hbt.size; simp at this; omega) (by simp; omega))
  exact ⟨g, vs', rfl, hst, cell_of_row _ _ 0 _ 80 (0, 0) g5, cell_of_row _ _ 1 _ 80 (0, 0) g5, _, rfl, by rw [setRow_other _ _ _ _ (by omega)]; exact g3, by rw [setRow_other _ _ _ _ (by omega)]; exact g6, hown2, hbw⟩
/-- another cell -/
def WithIs (w : World) (n : Nat) (med : Nat → List UInt8) (cache : Nat → Option (List UInt8)) (lf : Int) (dn : Bool) (e : Ending) (w' : World) : Prop :=
  ∃ A' c', e = .returned (.agg #[.slice A' n c', .int .i64 lf, .bool dn]) ∧ RDk w' A' n med cache ∧ Below w.heap.size w w'
theorem with_any {A : Option Addr} {n c : Nat} {med : Nat → List UInt8} {cache : Nat → Option (List UInt8)} (w : World) (h : RDk w A n med cache) (hn : n ≤ 1000000) {i : Nat} (hi : i < n) (k : Cel) {lm : List UInt8} {oc : Option (List UInt8)} (hm : Rd5 w k.am lm) (hc : CacheRd w k oc) (lf : Int) (dn : Bool) :
    Calls Try.prog 43 #[.agg #[.slice A n c, .int .i64 lf, .bool dn], .int .i64 (i : Int), .agg #[.slice k.am 64 k.cm, .slice k.ac k.lc k.cc]] w (WithIs w n (upd med i lm) (upd cache i oc) lf dn) := by
  obtain ⟨cs, h1, h2, h3⟩ := h.out
  obtain ⟨ka, kb, kc, kd, ke⟩ := k
  have HH := Lib.hid (And.intro h1 (And.intro h2 (And.intro h3 (And.intro hm hc))))
  clear h h1 h2 h3 hm hc
  go_enter Try.func43, Try.ntmps43
  go_wp2_with (first
    | (at_builtin; refine wpList_app2 _ rfl (.tmp 8) (.tmp 10) 40 rfl (w.heap.size + 1 + 1 + 1) 80 _ 48 Try.underlying40 info80 rfl rfl (Own2.nil _ _ _) rfl (((HH.out.2.1.alloc _).alloc _).alloc _) (by omega) (cvs_one cs) (by omega) (by omega) (by simp) n (by omega) ?_; intro A' c' w1 hown hg _; obtain ⟨g, vs', rfl, hst, c50, c51, w2, hw2, f3, f6, hown2, hb2⟩ := with_mid w hown hg HH.out.1 hi; rw [hw2] at hst; clear hown hg hw2; have HF := Lib.hid (And.intro f3 (And.intro f6 (And.intro hown2 hb2))); have c30 := cell_of_row _ _ 0 _ 42 (0, 0) f3; have c31 := cell_of_row _ _ 1 _ 42 (0, 0) f3; have c32 := cell_of_row _ _ 2 _ 42 (0, 0) f3; have r3 := frozen_of_row _ _ 0 _ 42 f3; have c60 := cell_of_row _ _ 0 _ 42 (0, 0) f6; have c61 := cell_of_row _ _ 1 _ 42 (0, 0) f6; have c62 := cell_of_row _ _ 2 _ 42 (0, 0) f6; have r60 := frozen_of_row _ _ 0 _ 42 f6; have r61 := frozen_of_row _ _ 1 _ 42 f6; have r62 := frozen_of_row _ _ 2 _ 42 f6; clear hown2 hb2 f3 f6; simp at c30 c31 c32 c60 c61 c62)
    | (refine wpList_store rfl 80 _ _ rfl _ _ rfl rfl _ hst ?_))
  have hr := row3 (v0 := .slice (some ⟨g, 0, none⟩) n c') (v1 := .int .i64 lf) (v2 := .bool dn) ((heap_setCell_other w2 ⟨w.heap.size, 0, none⟩ (w.heap.size + 1 + 1) (.slice (some ⟨g, 0, none⟩) n c') (by simp; omega)).trans HF.out.2.1)
  have hb2 : But [w.heap.size, w.heap.size + 1 + 1] w2 ((((w2.setCell ⟨w.heap.size, 0, none⟩ (.slice (some ⟨g, 0, none⟩) n c')).setCell ⟨w.heap.size + 1 + 1, 0, none⟩ (.slice (some ⟨g, 0, none⟩) n c')).setCell ⟨w.heap.size + 1 + 1, 1, none⟩ (.int .i64 lf)).setCell ⟨w.heap.size + 1 + 1, 2, none⟩ (.bool dn)) :=
    ((((But.refl _ _).setCell (by simp) _).setCell (by simp) _).setCell (by simp) _).setCell (by simp) _
  refine bodyPost_ret (v := .agg #[.slice (some ⟨g, 0, none⟩) n c', .int .i64 lf, .bool dn]) (results_cell_row rfl _ _ (w.heap.size + 1 + 1) 42 _ (0, 0) _ rfl hr Try.underlying42 rfl (by kernel_rfl)) rfl ?_
  have hbA : Below w.heap.size w w2 := HF.out.2.2.2
  have hbB := hbA.trans (hb2.below hbA.size (by simp; omega))
  obtain ⟨gz, sp, ez, _, _, hgz, _⟩ := HF.out.2.2.1.head (by omega)
  injection ez with ez
  injection ez with ez _ _
  subst ez
  have hgb0 := (HF.out.2.2.1.block g rfl).1
  refine ⟨_, _, rfl, ⟨⟨cs.set i ⟨ka, kb, kc, kd, ke⟩, by rw [List.length_set, HH.out.1], ?_, ?_⟩, g, _, rfl, hb2.cells hgz (by simp; omega)⟩, hbB⟩
  · have hgb := (HF.out.2.2.1.block g rfl).1
    exact rdv_but HF.out.2.2.1.rd hb2 (by simp; omega)
  · intro j q hq
    rw [List.getElem?_set] at hq
    by_cases e : i = j
    · subst e
      rw [if_pos rfl] at hq
      split at hq
      · injection hq with hq
        subst hq
        rw [upd_same, upd_same]
        exact ⟨HH.out.2.2.2.1.below hbB (Nat.le_refl _), HH.out.2.2.2.2.below hbB⟩
      · cases hq
    · rw [if_neg e] at hq
      rw [upd_other _ _ (fun x => e x.symm), upd_other _ _ (fun x => e x.symm)]
      exact ⟨(HH.out.2.2.1 j q hq).1.below hbB (Nat.le_refl _), (HH.out.2.2.1 j q hq).2.below hbB⟩
end Go.Proofs.Ytlhhijhmjkgnaaa
