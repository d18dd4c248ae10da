/- The disk and the document's, call by call: what the one tells, the other tells. -/
import Derived.Test.YtlhhijhmjkgnaaaRdH
namespace Go.Proofs.Ytlhhijhmjkgnaaa
open Go.RowKit Go.Coop
set_option maxRecDepth 100000
def lf (S : DS) : Int := if S.armed = true then (S.left : Int) else -1
def RV (S : DS) (A : Option Addr) (c : Nat) : Value := .agg #[.slice A S.n c, .int .i64 (lf S), .bool S.down]
def RD (w : World) (A : Option Addr) (S : DS) : Prop := RDk w A S.n S.med S.cache
/-- what the document's call leaves -/
def RefD (S : DS) (r : Int) (w : World) (e : Ending) (w' : World) : Prop := ∃ A c, e = .returned (.tuple #[.agg #[.slice A S.n c, .int .i64 (lf S), .bool S.down], .int .i64 r]) ∧ RD w' A S ∧ Below w.heap.size w w'
theorem RSame.ref {S : DS} {A : Option Addr} {c : Nat} {r : Int} {w : World} {e : Ending} {w' : World} (hr : RD w A S) (h : RSame A S.n c (lf S) S.down r w e w') : RefD S r w e w' := ⟨A, c, h.1, RDk.below hr h.2, h.2⟩
theorem lf_fails {S : DS} (h : S.fails = true) : lf S = 0 := by
  unfold DS.fails at h
  simp at h
  simp [lf, h.1, h.2]
theorem lf_goes {S : DS} (h : S.fails = false) : lf S ≠ 0 := by
  unfold DS.fails at h
  unfold lf
  split
  · rename_i ha
    rw [ha] at h
    simp at h
    omega
  · omega
theorem lf_bound {S : DS} (h : S.Ok) : -9223372036854775808 ≤ lf S ∧ lf S ≤ 9223372036854775807 := by
  have := h.left
  unfold lf
  split <;> omega
theorem lf_took {S : DS} (h : S.fails = false) : lf S.took = if 0 < lf S then lf S - 1 else lf S := by
  have h0 := lf_goes h
  unfold lf DS.took at *
  cases ha : S.armed
  · simp
  · rw [ha] at h0
    simp at h0 ⊢
    split <;> omega
theorem write_both {S : DS} (hok : S.Ok) (i : Int) (n : Nat) (l : List UInt8) : ∃ (S' : DS) (r : Int), S'.n = S.n ∧
    (∀ w g m c A cap, DiskAt w g m c S → Rd w A n l → Calls Try.prog 13 #[.pointer (some ⟨g, 0, none⟩), .int .i64 i, .slice A n cap] w (Did g m c S' (.int .i64 r) w)) ∧
    (∀ w A cc B cap, RD w A S → Rd w B n l → Calls Try.prog 23 #[.agg #[.slice A S.n cc, .int .i64 (lf S), .bool S.down], .int .i64 i, .slice B n cap] w (RefD S' r w)) := by
  have hn1 := hok.n1
  have hn2 := hok.n2
  cases hd : S.down
  · by_cases hs : i < 0 ∨ (S.n : Int) ≤ i
    · refine ⟨S, 50, rfl, fun w g m c A cap h hr => (write_sector _ h hd hs _).mono fun e w' h' => did_same h h', fun w A cc B cap h hr => ?_⟩
      refine (rwrite_sector w hs _).mono fun e w' h' => RSame.ref (c := cc) h ?_
      rw [hd]
      exact h'
    · obtain ⟨k, rfl⟩ := Int.eq_ofNat_of_zero_le (show 0 ≤ i by omega)
      have hk : k < S.n := by omega
      by_cases hn : n = 64
      · subst hn
        cases hf : S.fails
        · refine ⟨S.took.put k l, 0, rfl, fun w g m c A cap h hr => dd_write_goes _ h hd hf hk hr cap, fun w A cc B cap h hr => ?_⟩
          refine (rwrite_goes w h (by omega) hk cap hr (lf_goes hf) (lf_bound hok) rfl).mono fun e w' h' => ?_
          obtain ⟨A', c', he, hD, hB⟩ := h'
          refine ⟨A', c', ?_, hD, hB⟩
          rw [he, ← lf_took hf]
          show _ = Ending.returned (.tuple #[.agg #[.slice A' S.n c', .int .i64 (lf S.took), .bool S.down], .int .i64 0])
          rw [hd]
        · refine ⟨S.failed, 15, rfl, fun w g m c A cap h hr => dd_write_fails _ h hd hf hk A cap, fun w A cc B cap h hr => ?_⟩
          rw [lf_fails hf]
          refine (rwrite_fails w hk B cap).mono fun e w' h' => ?_
          exact ⟨A, cc, h'.1, RDk.below h h'.2, h'.2⟩
      · refine ⟨S, 2, rfl, fun w g m c A cap h hr => (write_arg _ h hd hk A n cap hn).mono fun e w' h' => did_same h h', fun w A cc B cap h hr => ?_⟩
        refine (rwrite_arg w hk B n cap hn).mono fun e w' h' => RSame.ref (c := cc) h ?_
        rw [hd]
        exact h'
  · refine ⟨S, 15, rfl, fun w g m c A cap h hr => (write_down _ h hd i _).mono fun e w' h' => did_same h h', fun w A cc B cap h hr => ?_⟩
    refine (rwrite_down w i _).mono fun e w' h' => RSame.ref (c := cc) h ?_
    rw [hd]
    exact h'
theorem flush_both {S : DS} (hok : S.Ok) : ∃ (S' : DS) (r : Int), S'.n = S.n ∧
    (∀ w g m c, DiskAt w g m c S → Calls Try.prog 20 #[.pointer (some ⟨g, 0, none⟩)] w (Did g m c S' (.int .i64 r) w)) ∧
    (∀ w A cc, RD w A S → Calls Try.prog 24 #[.agg #[.slice A S.n cc, .int .i64 (lf S), .bool S.down]] w (RefD S' r w)) := by
  have hn1 := hok.n1
  have hn2 := hok.n2
  cases hd : S.down
  · cases hf : S.fails
    · refine ⟨S.took.flushed, 0, rfl, fun w g m c h => dd_flush_goes _ h hd hf, fun w A cc h => ?_⟩
      refine (rflush_goes w h (by omega) (by omega) (lf_goes hf) (lf_bound hok) rfl).mono fun e w' h' => ?_
      obtain ⟨A', c', he, hD, hB⟩ := h'
      refine ⟨A', c', ?_, RDk.congr hD (fun i hi => ?_) (fun i hi => rfl), hB⟩
      · rw [he, ← lf_took hf]
        show _ = Ending.returned (.tuple #[.agg #[.slice A' S.n c', .int .i64 (lf S.took), .bool S.down], .int .i64 0])
        rw [hd]
      · unfold fmed
        rw [if_pos (show i < S.n from hi)]
        rfl
    · refine ⟨S.failed, 15, rfl, fun w g m c h => dd_flush_fails _ h hd hf, fun w A cc h => ?_⟩
      rw [lf_fails hf]
      refine (rflush_fails w).mono fun e w' h' => ?_
      exact ⟨A, cc, h'.1, RDk.below h h'.2, h'.2⟩
  · refine ⟨S, 15, rfl, fun w g m c h => (flush_down _ h hd).mono fun e w' h' => did_same h h', fun w A cc h => ?_⟩
    refine (rflush_down w).mono fun e w' h' => RSame.ref (c := cc) h ?_
    rw [hd]
    exact h'
theorem spoil_both {S : DS} (hok : S.Ok) (i a : Int) (t : UInt8) : ∃ (S' : DS) (r : Int), S'.n = S.n ∧
    (∀ w g m c, DiskAt w g m c S → Calls Try.prog 15 #[.pointer (some ⟨g, 0, none⟩), .int .i64 i, .int .i64 a, .int .u8 (t.toNat : Int)] w (Did g m c S' (.int .i64 r) w)) ∧
    (∀ w A cc, RD w A S → Calls Try.prog 26 #[.agg #[.slice A S.n cc, .int .i64 (lf S), .bool S.down], .int .i64 i, .int .i64 a, .int .u8 (t.toNat : Int)] w (RefD S' r w)) := by
  have hn1 := hok.n1
  have hn2 := hok.n2
  by_cases hs : i < 0 ∨ (S.n : Int) ≤ i
  · exact ⟨S, 50, rfl, fun w g m c h => (spoil_sector _ h hs _ _).mono fun e w' h' => did_same h h', fun w A cc h => (rspoil_sector w hs _ _).mono fun e w' h' => RSame.ref h h'⟩
  · obtain ⟨k, rfl⟩ := Int.eq_ofNat_of_zero_le (show 0 ≤ i by omega)
    have hk : k < S.n := by omega
    by_cases ha : a < 0 ∨ 64 ≤ a
    · exact ⟨S, 2, rfl, fun w g m c h => (spoil_arg _ h hk ha _).mono fun e w' h' => did_same h h', fun w A cc h => (rspoil_arg w hk ha _).mono fun e w' h' => RSame.ref h h'⟩
    · obtain ⟨q, rfl⟩ := Int.eq_ofNat_of_zero_le (show 0 ≤ a by omega)
      have hq : q < 64 := by omega
      exact ⟨S.spoilt k (turn (S.med k) q t), 0, rfl, fun w g m c h => (spoil_yes _ h hk hq t).mono fun e w' ⟨he, hD, hB⟩ => ⟨he, c, hD, hB.mono (by simp), .inl rfl⟩, fun w A cc h => rspoil_yes w h (by omega) hk hq t⟩
theorem arm_both {S : DS} (k : Int) (hk : k ≤ 9223372036854775807) : ∃ (S' : DS), S'.n = S.n ∧
    (∀ w g m c, DiskAt w g m c S → Calls Try.prog 19 #[.pointer (some ⟨g, 0, none⟩), .int .i64 k] w (Did g m c S' (.tuple #[]) w)) ∧
    (∀ w A cc, RD w A S → Calls Try.prog 27 #[.agg #[.slice A S.n cc, .int .i64 (lf S), .bool S.down], .int .i64 k] w (fun e w' => ∃ A' c', e = .returned (.agg #[.slice A' S'.n c', .int .i64 (lf S'), .bool S'.down]) ∧ RD w' A' S' ∧ Below w.heap.size w w')) := by
  refine ⟨S.armOf k, by unfold DS.armOf DS.armedBy; split <;> rfl, fun w g m c h => dd_arm _ h k hk, fun w A cc h => ?_⟩
  cases hd : S.down
  · refine (rarm_up w k).mono fun e w' h' => ⟨A, cc, ?_, ?_, h'.2⟩
    · have e1 : S.armOf k = S.armedBy k.toNat := by unfold DS.armOf; rw [hd]; rfl
      rw [e1, h'.1]
      show _ = Ending.returned (.agg #[.slice A S.n cc, .int .i64 (if true = true then ((k.toNat : Nat) : Int) else -1), .bool S.down])
      rw [hd, if_pos rfl]
      rw [show max k 0 = ((k.toNat : Nat) : Int) by omega]
    · have e1 : S.armOf k = S.armedBy k.toNat := by unfold DS.armOf; rw [hd]; rfl
      rw [e1]
      exact RDk.below h h'.2
  · have e1 : S.armOf k = S := by unfold DS.armOf; rw [hd]; rfl
    refine (rarm_down w k).mono fun e w' h' => ⟨A, cc, ?_, ?_, h'.2⟩
    · rw [e1, h'.1, hd]
    · rw [e1]
      exact RDk.below h h'.2
theorem crash_both {S : DS} (hok : S.Ok) (ks : List Bool) : ∃ (S' : DS), S'.n = S.n ∧
    (∀ w g m c A n cap, DiskAt w g m c S → RdV w A n (bools ks) → n ≤ 9223372036854775807 → Calls Try.prog 18 #[.pointer (some ⟨g, 0, none⟩), .slice A n cap] w (Did g m c S' (.tuple #[]) w)) ∧
    (∀ w A cc B n cap, RD w A S → RdV w B n (bools ks) → n ≤ 9223372036854775807 → Calls Try.prog 28 #[.agg #[.slice A S.n cc, .int .i64 (lf S), .bool S.down], .slice B n cap] w (fun e w' => ∃ A' c', e = .returned (.agg #[.slice A' S'.n c', .int .i64 (lf S'), .bool S'.down]) ∧ RD w' A' S' ∧ Below w.heap.size w w')) := by
  have hn1 := hok.n1
  have hn2 := hok.n2
  refine ⟨S.crashed ks, rfl, fun w g m c A n cap h hr hn => dd_crash _ h A n cap ks hr hn, fun w A cc B n cap h hr hn => ?_⟩
  refine (rcrash_any w h (by omega) (by omega) hr hn).mono fun e w' h' => ?_
  obtain ⟨A', c', he, hD, hB⟩ := h'
  refine ⟨A', c', he, RDk.congr hD (fun i hi => ?_) (fun i hi => rfl), hB⟩
  unfold cmed
  rw [if_pos (show i < S.n from hi)]
  rfl
theorem rread_sector (w : World) {A : Option Addr} {n c : Nat} {lf : Int} {i : Int} (hi : i < 0 ∨ (n : Int) ≤ i) : Calls Try.prog 25 #[.agg #[.slice A n c, .int .i64 lf, .bool false], .int .i64 i] w fun e w' => e = .returned (.tuple #[.slice none 0 0, .int .i64 50]) ∧ Below w.heap.size w w' := by
  by_cases h0 : i < 0
  · go_enter Try.func25, Try.ntmps25
    go_wp2
    go_ret2
    exact ⟨rfl, (Below.refl _ _).alloc (Nat.le_refl _) _⟩
  · have h1 : (n : Int) ≤ i := by omega
    go_enter Try.func25, Try.ntmps25
    go_wp2
    go_ret2
    exact ⟨rfl, (Below.refl _ _).alloc (Nat.le_refl _) _⟩
def Tells (n : Nat) (l : List UInt8) (r : Int) (w : World) (e : Ending) (w' : World) : Prop := ∃ X d, e = .returned (.tuple #[.slice X n d, .int .i64 r]) ∧ Rd w' X n l ∧ Below w.heap.size w w'
theorem read_both {S : DS} (i : Int) : ∃ (n : Nat) (l : List UInt8) (r : Int),
    (∀ w g m c, DiskAt w g m c S → Calls Try.prog 16 #[.pointer (some ⟨g, 0, none⟩), .int .i64 i] w (Tells n l r w)) ∧
    (∀ w A cc, RD w A S → Calls Try.prog 25 #[.agg #[.slice A S.n cc, .int .i64 (lf S), .bool S.down], .int .i64 i] w (Tells n l r w)) := by
  cases hd : S.down
  · by_cases hs : i < 0 ∨ (S.n : Int) ≤ i
    · exact ⟨0, [], 50, fun w g m c h => (read_sector _ h hd hs).mono fun e w' ⟨he, hw⟩ => ⟨none, 0, he, Rd.nil _ _, hw ▸ Below.refl _ _⟩, fun w A cc h => (rread_sector w hs).mono fun e w' ⟨he, hw⟩ => ⟨none, 0, he, Rd.nil _ _, hw⟩⟩
    · obtain ⟨k, rfl⟩ := Int.eq_ofNat_of_zero_le (show 0 ≤ i by omega)
      have hk : k < S.n := by omega
      exact ⟨64, S.at_ k, 0, fun w g m c h => (read_yes _ h hd hk).mono fun e w' ⟨he, hw⟩ => ⟨_, _, he, hw ▸ rd_new _ _ (h.ok.at_ k) 77, hw ▸ (Below.refl _ _).alloc (Nat.le_refl _) _⟩, fun w A cc h => rread_yes w h hk⟩
  · exact ⟨0, [], 15, fun w g m c h => (read_down _ h hd i).mono fun e w' ⟨he, hw⟩ => ⟨none, 0, he, Rd.nil _ _, hw ▸ Below.refl _ _⟩, fun w A cc h => (rread_down w i).mono fun e w' ⟨he, hw⟩ => ⟨none, 0, he, Rd.nil _ _, hw⟩⟩
/-- where the law's loop stands -/
structure PR (w0 : World) (g m b7 : Nat) (wr : World) (c : Nat) (A : Option Addr) (cc : Nat) (S T : DS) : Prop where
  one : One wr w0.heap.size g m c S
  row : wr.heap[b7]? = some (.cells #[.slice A T.n cc, .int .i64 (lf T), .bool T.down] 42 (0, 0))
  rd : RD wr A T
  bel : Below w0.heap.size w0 wr
theorem PR.below {w0 wr w' : World} {g m b7 c : Nat} {A : Option Addr} {cc : Nat} {S T : DS} (h : PR w0 g m b7 wr c A cc S T) (hb : Below wr.heap.size wr w') : PR w0 g m b7 w' c A cc S T :=
  ⟨h.one.below hb, (hb.block _ (Array.getElem?_eq_some_iff.1 h.row).1).trans h.row, RDk.below h.rd hb, h.bel.trans (hb.mono h.bel.size)⟩
theorem disk_kinds {w : World} {g m c : Nat} {S : DS} (h : DiskAt w g m c S) : ∀ k, k ∈ [g, m, c] → ∀ cur, w.heap[k]? ≠ some (.cells cur 5 (0, 0)) ∧ w.heap[k]? ≠ some (.cells cur 80 (0, 0)) := by
  intro k hk cur
  simp at hk
  have e1 := h.blk
  have e2 := h.med
  obtain ⟨D, ⟨es, clock, hm, _⟩, _⟩ := h.cache
  rcases hk with rfl | rfl | rfl
  · rw [e1]
    constructor <;> (intro e; injection e with e; injection e with _ e _; cases e)
  · rw [e2]
    constructor <;> (intro e; injection e with e; injection e with _ e _; cases e)
  · rw [hm]
    constructor <;> (intro e; injection e with e; cases e)
/-- the disk has done it -/
theorem PR.did {w0 wr w' : World} {g m b7 c : Nat} {A : Option Addr} {cc : Nat} {S T S' : DS} {r : Value} {e : Ending} (h : PR w0 g m b7 wr c A cc S T) (hd : Did g m c S' r wr e w') : ∃ c2, e = .returned r ∧ PR w0 g m b7 w' c2 A cc S' T ∧ But [g, m, c] wr w' := by
  obtain ⟨c2, he, ho, hB, hbt⟩ := h.one.step hd
  exact ⟨c2, he, ⟨ho, hbt.cells h.row (off_disk h.one.d (by decide) h.row), RDk.but h.rd hbt (disk_kinds h.one.d), h.bel.trans hB⟩, hbt⟩
/-- the document's has done it, and stands in the box -/
theorem PR.kept {w0 wr w' : World} {g m b7 c : Nat} {A A' : Option Addr} {cc c' : Nat} {S T T' : DS} (h : PR w0 g m b7 wr c A cc S T) (hb : Below wr.heap.size wr w') (hr : RD w' A' T') (hlo : w0.heap.size ≤ b7) (hn : 0 < T'.n) :
    PR w0 g m b7 (((w'.setCell ⟨b7, 0, none⟩ (.slice A' T'.n c')).setCell ⟨b7, 1, none⟩ (.int .i64 (lf T'))).setCell ⟨b7, 2, none⟩ (.bool T'.down)) c A' c' S T' := by
  have h2 := h.below hb
  have hbt : But [b7] w' (((w'.setCell ⟨b7, 0, none⟩ (.slice A' T'.n c')).setCell ⟨b7, 1, none⟩ (.int .i64 (lf T'))).setCell ⟨b7, 2, none⟩ (.bool T'.down)) := (((But.refl _ _).setCell (by simp) _).setCell (by simp) _).setCell (by simp) _
  have hoff := off_disk h2.one.d (by decide) h2.row
  simp at hoff
  refine ⟨⟨Nat.le_trans h2.one.base hbt.size, h2.one.d.but hbt (by simpa using fun e => hoff.1 e.symm) (by simpa using fun e => hoff.2.1 e.symm) (by simpa using fun e => hoff.2.2 e.symm), h2.one.lo⟩, row3 h2.row, RDk.box ⟨_, _, _, _, _, h2.row⟩ hbt hr hn, h2.bel.trans (hbt.below h2.bel.size (by simp; exact hlo))⟩
end Go.Proofs.Ytlhhijhmjkgnaaa
