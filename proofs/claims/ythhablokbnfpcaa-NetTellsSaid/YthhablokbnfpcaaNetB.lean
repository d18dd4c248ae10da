/- lay: a datagram behind all others. -/
import Derived.Test.YthhablokbnfpcaaNetA
import Derived.RegionTactic
import Derived.BigRegion
import Derived.StillTailTactics
namespace Go.Proofs.Ythhablokbnfpcaa
open Go.RowKit Go.Coop Go.Maps
set_option maxRecDepth 100000

section
variable {w w' w1 : World} {B g c cap : Nat} {A : Option Addr} {S : NS} {D : DataW Value}
/-- the row has been written anew -/
theorem NetRaw.row_ (h : NetRaw w B g A cap c S D) {A' : Option Addr} {c' : Nat} {l : List Dt} (hr : OwnK w1 B 80 3 A' l.length c' (dvs l)) {gs : List Nat} (hb : But gs w w1) (hgs : ∀ k, k ∈ gs → A.map (·.block) = some k) (hA : A'.map (·.block) = A.map (·.block) ∨ ∃ k, w.heap.size ≤ k ∧ A'.map (·.block) = some k) :
    NetRaw (w1.setCell ⟨g, 3, none⟩ (.slice A' l.length c')) B g A' c' c { S with heap := l } D ∧ But (Nb g A c) w (w1.setCell ⟨g, 3, none⟩ (.slice A' l.length c')) := by
  have hgg : g ∉ gs := fun hk => h.Ag (hgs _ hk)
  have hcg : c ∉ gs := fun hk => h.Ac (hgs _ hk)
  have hblk := hb.cells h.blk hgg
  have hset : But [g] w1 (w1.setCell ⟨g, 3, none⟩ (.slice A' l.length c')) := (But.refl _ _).setCell (by simp) _
  have hg' : ∀ j, A'.map (·.block) = some j → j ∉ [g] := by
    intro j hj hm
    simp at hm
    subst hm
    rcases hA with e | ⟨k, hk, e⟩
    · rw [e] at hj; exact h.Ag hj
    · rw [e] at hj
      injection hj with hj
      have := h.g_lt
      omega
  refine ⟨⟨h.hg, h.hc, ?_, hr.but hset hg', owns_but (owns_but h.map hb hcg) hset (by simp; exact h.gc.symm)⟩, ?_⟩
  · have := heap_setCell_same w1 g 3 _ 59 (.slice A' l.length c') hblk
    exact this
  · refine (hb.mono fun k hk => mem_nb.2 (.inr (.inr (hgs k hk)))).trans ((hset.mono fun k hk => ?_))
    simp at hk
    subst hk
    simp [Nb]
/-- the map has been written anew -/
theorem NetRaw.map_ (h : NetRaw w B g A cap c S D) {D' : DataW Value} (hm : w1.ownsMap Try.prog 3 (plainElem Try.prog 3) c S.ends D') (hb : But [c] w w1) : NetRaw w1 B g A cap c S D' :=
  ⟨h.hg, h.hc, hb.cells h.blk (by simp; exact h.gc), h.row.but hb (fun j hj hm => h.Ac (by simp at hm; subst hm; exact hj)), hm⟩
theorem pe3 {k : Int} (h1 : -9223372036854775808 ≤ k) (h2 : k ≤ 9223372036854775807) : plainElem Try.prog 3 (.int .i64 k) = some ((.lit (.int .i64 k) : DataW Value), []) := plainElem_int Try.underlying3 (i64_wf h1 h2)
theorem grown_but {c : Nat} (h : w.grownBy w' (some c)) : But [c] w w' := ⟨h.os, h.tape, h.output, h.size, fun k hk hn => h.block k hk (by simp at hn ⊢; omega)⟩
end
theorem wpStill_lookup {P : Program} {ops : Array Oper} {rest : List Oper} {o : Oper} {a : Act} {w : World} {Q : Act → Prop} (hgd : o.guard = none) (t : TypeId) (x y : Operand) (ok : Bool) (ho : o.op = .lookup t x y ok) (mv kv : Value) (hx : a.eval x = mv) (hy : a.eval y = kv) (v : Value) (hrun : (Instr.lookup t mv kv ok).run P w = .ok v w)
    (h : wpStill P ops w Q rest (a.put o.dst v)) : wpStill P ops w Q (o :: rest) a := by
  refine wpStill_step fun K hK => ?_
  simp only [Region.wanted, hgd, if_true]
  unfold Oper.still execOp
  simp only [ho, hx, hy, Sem.run_bind, hrun, Result.andThen_ok]
  exact ⟨rfl, hK _ h⟩
theorem own_look {w : World} {c n : Nat} {D : DataW Value} {f : Int → Nat} (hm : w.ownsMap Try.prog 3 (plainElem Try.prog 3) c n D) {ends : Nat} (hw : WaitIs D ends f) {k : Int} (h1 : -9223372036854775808 ≤ k) (h2 : k ≤ 9223372036854775807) : (Instr.lookup 57 (.map (some c)) (.int .i64 k) false).run Try.prog w = .ok (.int .i64 (f k : Int)) w := by
  obtain ⟨x, hrun, hat, _⟩ := hm.lookup_int (Maps.int_keyed Try.underlying3) Try.underlying57 Try.underlying3 (Try.zeroValue3 w) (key3 h1 h2)
  rw [hw.at_] at hat
  injection hat with hat
  injection hat with _ hat
  rw [hrun, ← hat]
theorem lay_mid {w2 w3 : World} {B g c cap N : Nat} {A A' : Option Addr} {c' : Nat} {S : NS} {d : Dt} (h : NetAt w2 B g A cap c S) (hown : OwnK w3 B 80 3 A' (S.heap.length + 1) c' (dvs S.heap ++ d.vs)) (hgr : w2.grownBy w3 (A.map (·.block))) (hA : A'.map (·.block) = A.map (·.block) ∨ A'.map (·.block) = some w2.heap.size)
    (hbx : w2.heap[N]? = some (.cells #[.int .i64 (d.fr : Int), .int .i64 (d.to : Int), SV d.b] 80 (0, 0))) (hN : A.map (·.block) ≠ some N) :
    w3.cell? ⟨g, 3, none⟩ = some (.slice A S.heap.length cap) ∧ w3.frozen? ⟨g, 3, none⟩ = false ∧ ∃ w4, w3.setCell ⟨g, 3, none⟩ (.slice A' (S.heap.length + 1) c') = w4 ∧ w4.heap[N]? = some (.cells #[.int .i64 (d.fr : Int), .int .i64 (d.to : Int), SV d.b] 80 (0, 0)) ∧
      But (Nb g A c) w2 w4 ∧ ∃ D, NetRaw w4 B g A' c' c (S.laid d) D ∧ WaitIs D S.ends S.wait := by
  obtain ⟨D, hr, hw⟩ := h.raw
  have hb : But (A.map (·.block)).toList w2 w3 := ⟨hgr.os, hgr.tape, hgr.output, hgr.size, fun k hk hn => hgr.block k hk (by
    intro e
    exact hn (by simp [← e]))⟩
  have hgs : ∀ k, k ∈ (A.map (·.block)).toList → A.map (·.block) = some k := by simp
  have hown' : OwnK w3 B 80 3 A' (S.heap ++ [d]).length c' (dvs (S.heap ++ [d])) := by
    rw [dvs_append, List.length_append]
    simpa [dvs] using hown
  obtain ⟨h1, h2⟩ := hr.row_ hown' hb hgs (hA.imp id fun e => ⟨_, Nat.le_refl _, e⟩)
  rw [List.length_append, List.length_singleton] at h1 h2
  have hblk3 := hb.cells hr.blk (fun hk => hr.Ag (hgs _ hk))
  refine ⟨cell_of_row _ g 3 _ 59 (0, 0) hblk3, frozen_of_row w3 g 3 _ 59 hblk3, _, rfl, ?_, h2, D, h1, hw⟩
  refine (But.cells (gs := Nb g A c) h2 hbx ?_)
  rw [mem_nb]
  rintro (e | e | e)
  · subst e
    have := hbx.symm.trans hr.blk
    injection this with e
    injection e with _ e _
    cases e
  · subst e
    obtain ⟨es, clock, hm, _⟩ := hr.map
    have := hbx.symm.trans hm
    injection this with e
    cases e
  · exact hN e
theorem lay_end {w5 w6 : World} {B g c : Nat} {A' : Option Addr} {c' : Nat} {S : NS} {D : DataW Value} {d : Dt} (hok : S.Ok) (hd : d.fr < S.ends ∧ d.to < S.ends ∧ d.b.length ≤ 131072) (hf : S.full d.to = false) (h5 : NetRaw w5 B g A' c' c (S.laid d) D) (hw : WaitIs D S.ends S.wait)
    (hown : w6.ownsMap Try.prog 3 (plainElem Try.prog 3) c (S.ends + 1) (D.put (.int .i64 (d.to : Int)) (.lit (.int .i64 ((S.wait d.to : Int) + 1))))) (hgr : w5.grownBy w6 (some c)) : NetAt w6 B g A' c' c (S.laid d) := by
  have hw' : WaitIs (D.put (.int .i64 (d.to : Int)) (.lit (.int .i64 ((S.wait d.to : Int) + 1)))) S.ends (S.laid d).wait := by
    have := hw.put (g := (S.laid d).wait) (h5.map.isMap) (k := (d.to : Int)) (by omega) (by omega) (x := S.wait d.to + 1) (by rw [NS.wait_laid, if_pos rfl]) (fun j hj => by rw [NS.wait_laid, if_neg (fun e => hj e.symm)]; rfl)
    exact this
  exact ⟨NS.laid_ok hok hd hf, _, h5.map_ (owns_exact hown (owns_size hown hw')) (grown_but hgr), hw'⟩
/-- what a call upon a net leaves -/
def NetDid (w : World) (B g : Nat) (A : Option Addr) (c : Nat) (S' : NS) (r : Value) (e : Ending) (w' : World) : Prop :=
  e = .returned r ∧ But (Nb g A c) w w' ∧ ∃ A' cap', NetAt w' B g A' cap' c S' ∧ (A'.map (·.block) = A.map (·.block) ∨ ∃ k, w.heap.size ≤ k ∧ A'.map (·.block) = some k)
section
variable (w : World) {B g c cap : Nat} {A : Option Addr} {S : NS}
theorem lay_full (h : NetAt w B g A cap c S) (d : Dt) (hd : d.to < S.ends) (hf : S.full d.to = true) : Calls Try.prog 40 #[.pointer (some ⟨g, 0, none⟩), .agg #[.int .i64 (d.fr : Int), .int .i64 (d.to : Int), SV d.b]] w fun e w' => e = .returned (.int .i64 5) ∧ Below w.heap.size w w' := by
  obtain ⟨w1, hw1⟩ : ∃ w1, w.alloc (.cells #[.int .i64 (d.fr : Int), .int .i64 (d.to : Int), SV d.b] 80) = w1 := ⟨_, rfl⟩
  have hbx : w1.heap[w.heap.size]? = some (.cells #[.int .i64 (d.fr : Int), .int .i64 (d.to : Int), SV d.b] 80 (0, 0)) := hw1 ▸ heap_alloc_new w _
  have h1 : NetAt w1 B g A cap c S := hw1 ▸ h.alloc _
  have hb1 := cell_of_row _ _ 1 _ 80 (0, 0) hbx
  have c4 := h1.c4
  have c3 := h1.c3
  have c2 := h1.c2
  have h300 := h.ok.n2
  have hl : ∀ q, (Instr.lookup 57 (.map (some c)) (.int .i64 (d.to : Int)) false).run Try.prog (w1.drewN q) = .ok (.int .i64 (S.wait d.to : Int)) (w1.drewN q) := fun q => (h1.drewN q).look_run (by omega) (by omega)
  have HW : Hid (Below w.heap.size w w1) := hw1 ▸ (Below.refl _ w).alloc (Nat.le_refl _) _
  simp at hb1
  by_cases hm : (S.most : Int) ≤ (S.wait d.to : Int)
  · have hd1 : decide (S.most ≤ S.wait (d.to : Int)) = true := by simp; omega
    clear h h1 hbx hf h300 hm
    go_enter Try.func40, Try.ntmps40
    go_wp2
    go_quiet (fail)
    go_wp2
    go_ret
    exact ⟨rfl, HW.out.trans ⟨rfl, rfl, rfl, Nat.le_refl _, fun _ _ => rfl⟩⟩
  · have hm' : ¬ (S.most ≤ S.wait d.to) := by omega
    have hn : (10000 : Int) ≤ (S.heap.length : Int) := by simp [NS.full, hm'] at hf; omega
    have hd1 : decide (S.most ≤ S.wait (d.to : Int)) = false := by simp; omega
    have hd2 : decide ((10000 : Int) ≤ (S.heap.length : Int)) = true := by simp; omega
    clear h h1 hbx hf h300 hm' hm hn
    go_enter Try.func40, Try.ntmps40
    go_wp2
    go_quiet (fail)
    go_wp2
    go_ret
    exact ⟨rfl, HW.out.trans ⟨rfl, rfl, rfl, Nat.le_refl _, fun _ _ => rfl⟩⟩
theorem lay_goes (h : NetAt w B g A cap c S) (hBw : B ≤ w.heap.size) (d : Dt) (hd : d.fr < S.ends ∧ d.to < S.ends ∧ d.b.length ≤ 131072) (hf : S.full d.to = false) : Calls Try.prog 40 #[.pointer (some ⟨g, 0, none⟩), .agg #[.int .i64 (d.fr : Int), .int .i64 (d.to : Int), SV d.b]] w (NetDid w B g A c (S.laid d) (.int .i64 0)) := by
  obtain ⟨w1, hw1⟩ : ∃ w1, w.alloc (.cells #[.int .i64 (d.fr : Int), .int .i64 (d.to : Int), SV d.b] 80) = w1 := ⟨_, rfl⟩
  have hbx : w1.heap[w.heap.size]? = some (.cells #[.int .i64 (d.fr : Int), .int .i64 (d.to : Int), SV d.b] 80 (0, 0)) := hw1 ▸ heap_alloc_new w _
  have h1 : NetAt w1 B g A cap c S := hw1 ▸ h.alloc _
  have hb0 := cell_of_row _ _ 0 _ 80 (0, 0) hbx
  have hb1 := cell_of_row _ _ 1 _ 80 (0, 0) hbx
  have hb2 := cell_of_row _ _ 2 _ 80 (0, 0) hbx
  have c4 := h1.c4
  have c3 := h1.c3
  have c2 := h1.c2
  have f3 := h1.fr 3
  have h300 := h.ok.n2
  have hl : ∀ q, (Instr.lookup 57 (.map (some c)) (.int .i64 (d.to : Int)) false).run Try.prog (w1.drewN q) = .ok (.int .i64 (S.wait d.to : Int)) (w1.drewN q) := fun q => (h1.drewN q).look_run (by omega) (by omega)
  have HW : Hid (Below w.heap.size w w1) := hw1 ▸ (Below.refl _ w).alloc (Nat.le_refl _) _
  simp at hb0 hb1 hb2
  have hd1 : decide (S.most ≤ S.wait (d.to : Int)) = false := by simp [NS.full] at hf ⊢; omega
  have hd2 : decide ((10000 : Int) ≤ (S.heap.length : Int)) = false := by simp [NS.full] at hf ⊢; omega
  have H1 := Lib.hid h1
  have HN := Lib.hid (And.intro hd hf)
  have HBX1 := Lib.hid hbx
  have h0 := Lib.hid h
  clear h h1 hbx hf h300 hd
  go_enter Try.func40, Try.ntmps40
  go_wp2
  go_quiet (fail)
  go_wp2
  obtain ⟨w2, hw2⟩ : ∃ w2, w1.drewN nq = w2 := ⟨_, rfl⟩
  have h2 : NetAt w2 B g A cap c S := hw2 ▸ H1.out.drewN nq
  have c3' := h2.c3
  have f3' := h2.fr 3
  have e0 : w2.cell? ⟨w.heap.size, 0, none⟩ = some (.int .i64 (d.fr : Int)) := by rw [← hw2]; exact hb0
  have e1 : w2.cell? ⟨w.heap.size, 1, none⟩ = some (.int .i64 (d.to : Int)) := by rw [← hw2]; exact hb1
  have e2 : w2.cell? ⟨w.heap.size, 2, none⟩ = some (SV d.b) := by rw [← hw2]; exact hb2
  have HX : Hid (A.map (·.block) ≠ some w.heap.size) := by
    intro e
    have := (h0.out.row.block _ e).2
    omega
  have HX2 : Hid ((w2.alloc (.cells #[.int .i64 (d.fr : Int), .int .i64 (d.to : Int), SV d.b] 80)).heap[w.heap.size]? = some (.cells #[.int .i64 (d.fr : Int), .int .i64 (d.to : Int), SV d.b] 80 (0, 0))) := by
    have hb2' : w2.heap[w.heap.size]? = some (.cells #[.int .i64 (d.fr : Int), .int .i64 (d.to : Int), SV d.b] 80 (0, 0)) := by rw [← hw2]; exact HBX1.out
    exact (But.cells (gs := []) ((But.refl [] w2).alloc _) hb2' (by simp))
  have HW2 : Hid (Below w.heap.size w w2) := by rw [← hw2]; exact HW.out.trans ⟨rfl, rfl, rfl, Nat.le_refl _, fun _ _ => rfl⟩
  have H2 := Lib.hid h2
  clear h2 H1 c2 c3 c4 f3 hb0 hb1 hb2 hl hd1 hd2 HW
  rw [hw2]
  clear hw2 hw1
  have hrd := RdV.new w2 d.vs 80 (0, 0)
  have HB1 : Hid (But [] w (w2.alloc (.cells #[.int .i64 (d.fr : Int), .int .i64 (d.to : Int), SV d.b] 80))) := (But.of_below HW2.out).alloc _
  have HO := Lib.hid (H2.out.alloc (.cells #[.int .i64 (d.fr : Int), .int .i64 (d.to : Int), SV d.b] 80))
  have hlen : S.heap.length ≤ 10000 := HO.out.ok.len
  have hbx2 : (w2.alloc (.cells #[.int .i64 (d.fr : Int), .int .i64 (d.to : Int), SV d.b] 80)).heap[w.heap.size]? = some (.cells #[.int .i64 (d.fr : Int), .int .i64 (d.to : Int), SV d.b] 80 (0, 0)) := HX2.out
  have hAN : A.map (·.block) ≠ some w.heap.size := HX.out
  have HBX := Lib.hid (And.intro hbx2 hAN)
  clear hbx2 hAN
  have c3a := HO.out.c3
  go_region_law (refine step_appK _ rfl (.tmp 29) (.tmp 31) 56 rfl B 80 3 _ 32 Try.underlying56 info80 rfl (by omega) (A := A) (n := S.heap.length) (c := cap) (vs := dvs S.heap) (B := some ⟨w2.heap.size, 0, none⟩) (m := 1) (d := 1) (us := d.vs) rfl HO.out.drew.row rfl hrd.drew (by omega) (vs_one d) (by omega) (by omega) (by have := HW2.out.size; simp; omega) (S.heap.length + 1) rfl ?_; intro A' c' w3 hown hgr hA; obtain ⟨c33, f33, w4, hw4, hb4, hB4, D, hR4, hWt⟩ := lay_mid HO.out.drew hown hgr hA HBX.out.1 HBX.out.2; have HQ := Lib.hid (And.intro hB4 (And.intro hR4 hWt)); clear hown hgr hB4 hR4 hWt)
  all_goals
    go_wp2
    have hwr : IntKind.i64.wrap ((S.wait (d.to : Int) : Int) + 1) = (S.wait (d.to : Int) : Int) + 1 := IntWalk.i64_in _ (by have := NS.wait_le S (d.to : Int); omega)
    have HA' := Lib.hid hA
    obtain ⟨w5, hw5⟩ : ∃ w5, w4.drew = w5 := ⟨_, rfl⟩
    have h5 : NetRaw w5 B g A' c' c (S.laid d) D := by
      have := HQ.out.2.1.but (gs := []) (w' := w5) (But.of_below (by rw [← hw5]; exact ⟨rfl, rfl, rfl, Nat.le_refl _, fun _ _ => rfl⟩)) (by simp)
      exact this
    have c54 : w5.cell? ⟨g, 4, none⟩ = some (.map (some c)) := cell_of_row _ g 4 _ 59 (0, 0) h5.blk
    have e51 : w5.cell? ⟨w.heap.size, 1, none⟩ = some (.int .i64 (d.to : Int)) := by
      have := cell_of_row _ _ 1 _ 80 (0, 0) hb4
      rw [← hw5]
      exact this
    have hl5 : (Instr.lookup 57 (.map (some c)) (.int .i64 (d.to : Int)) false).run Try.prog w5 = .ok (.int .i64 (S.wait d.to : Int)) w5 := own_look h5.map HQ.out.2.2 (by omega) (by have := HN.out.1.2.1; have := HO.out.ok.n2; omega)
    have HB5 : Hid (But (Nb g A c) w w5) := (HB1.out.drew.mono (by simp)).trans (HQ.out.1.trans (hw5 ▸ But.of_below ⟨rfl, rfl, rfl, Nat.le_refl _, fun _ _ => rfl⟩))
    have H5 := Lib.hid h5
    clear h5 hA c33 f33 c3' f3' e0 e1 e2 hrd hb4
    refine wp_region_still_tail 8 (by kernel_rfl) (by kernel_rfl) ?_
    simp only [List.take_succ_cons, List.take_zero, List.drop_succ_cons, List.drop_zero]
    show wpStill Try.prog _ w4.drew (fun a' => wpList Try.prog _ _ _ a' w4.drew) _ _
    rw [hw5]
    clear hw5 hw4
    iterate 6 still_step
    refine wpStill_lookup rfl 57 _ _ _ rfl _ _ rfl rfl _ hl5 ?_
    iterate 1 still_step
    refine wpStill_nil ?_
    have HK := Lib.hid (And.intro (key3 (k := (d.to : Int)) (by omega) (by have := HN.out.1.2.1; have := HO.out.ok.n2; omega)) (pe3 (k := (S.wait (d.to : Int) : Int) + 1) (by omega) (by have := NS.wait_le S (d.to : Int); omega)))
    refine wpList_mapUpdate_in _ rfl _ _ _ 57 rfl 3 3 (Maps.int_keyed Try.underlying3) Try.underlying57 (plainElem Try.prog 3) c S.ends D rfl H5.out.map (by have := HO.out.ok.n2; unfold maxLen; omega) _ _ _ rfl rfl HK.out.1 _ [] HK.out.2 ?_
    intro w6 hown6 hg6
    have HW6 := Lib.hid (And.intro hown6 hg6.grown)
    clear hown6 hg6 hl5 c54 e51 hwr
    go_wp2
    go_ret
    refine ⟨rfl, (HB5.out.trans ((grown_but HW6.out.2).mono (by simp [Nb]))), A', c', lay_end HO.out.ok HN.out.1 HN.out.2 H5.out HQ.out.2.2 HW6.out.1 HW6.out.2, ?_⟩
    rcases HA'.out with e | e
    · exact .inl e
    · refine .inr ⟨_, ?_, e⟩
      have := HB1.out.size
      exact this
end
end Go.Proofs.Ythhablokbnfpcaa
