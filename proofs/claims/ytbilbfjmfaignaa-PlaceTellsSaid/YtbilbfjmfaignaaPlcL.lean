/- Of. -/
import Derived.Test.YtbilbfjmfaignaaPlcK
namespace Go.Coop
def ofP (L : List Pl) (s : Int) : Pl × Bool := if L.length = 0 ∨ s < 0 then (⟨0, []⟩, false) else ((L[s.toNat % L.length]?).getD ⟨0, []⟩, true)
end Go.Coop
namespace Go.Proofs.Ytbilbfjmfaignaa
open Go.RowKit Go.Coop
set_option maxRecDepth 100000
/-- what Of tells -/
def OfQ (w : World) (r : Pl × Bool) (e : Ending) (w' : World) : Prop := ∃ X c, e = .returned (.tuple #[.agg #[.int .i64 r.1.e, .slice X r.1.l.length c], .bool r.2]) ∧ OwnV w' w.heap.size 3 X r.1.l.length c (r.1.l.map IV) ∧ Below w.heap.size w w'
theorem size30 : (Try.prog.info? 30).map (·.size) = some 2 := by kernel_rfl
theorem loadv30 {w : World} {b : Nat} {a0 a1 : Value} (h : w.heap[b]? = some (.cells #[a0, a1] 30 (0, 0))) : (loadVar 30 ⟨b, 0, none⟩).run Try.prog w = .ok (.agg #[a0, a1]) w :=
  run_loadVar_at w ⟨b, 0, none⟩ 30 [a0, a1] _ (fun j v hj => by
    rw [addr_at, Nat.zero_add, cell_of_row w b j _ 30 (0, 0) h]
    simpa using hj) Try.underlying30 rfl size30
section
variable (w : World)
theorem of_none {A : Option Addr} (n ca : Nat) (s : Int) (h : n = 0 ∨ s < 0) : Calls Try.prog 15 #[.slice A n ca, .int .i64 s] w (OfQ w (⟨0, []⟩, false)) := by
  obtain ⟨w1, hw1⟩ : ∃ v, w.alloc (.cells #[.int .i64 0, .slice none 0 0] 30) = v := ⟨_, rfl⟩
  obtain ⟨hb1, hx1⟩ := box_new hw1
  obtain ⟨b, hb⟩ : ∃ b, w.heap.size = b := ⟨_, rfl⟩
  rw [hb] at hx1
  obtain ⟨⟨m0, m1⟩, fm0, fm1⟩ := two30 hx1
  have HE := Lib.hid (And.intro hb1 (And.intro hx1 hb))
  clear hb1 hx1
  rcases h with rfl | h
  · go_enter Try.func15, Try.ntmps15
    go_wp2
    obtain ⟨q1, q2, q3⟩ := HE.out
    have hw := row2 (v0 := .int .i64 0) (v1 := .slice none 0 0) q2
    refine bodyPost_ret (v := .tuple #[.agg #[.int .i64 0, .slice none 0 0], .bool false]) ?_ rfl ⟨none, 0, rfl, OwnV.nil _ _ _, ?_⟩
    · rw [results_cell_tmp rfl]
      simp [asAddr, Result.andThen, loadv30 hw]
    · exact (q1.setCell (by simp; omega) _).setCell (by simp; omega) _
  · by_cases hn : n = 0
    · subst hn
      go_enter Try.func15, Try.ntmps15
      go_wp2
      obtain ⟨q1, q2, q3⟩ := HE.out
      have hw := row2 (v0 := .int .i64 0) (v1 := .slice none 0 0) q2
      refine bodyPost_ret (v := .tuple #[.agg #[.int .i64 0, .slice none 0 0], .bool false]) ?_ rfl ⟨none, 0, rfl, OwnV.nil _ _ _, ?_⟩
      · rw [results_cell_tmp rfl]
        simp [asAddr, Result.andThen, loadv30 hw]
      · exact (q1.setCell (by simp; omega) _).setCell (by simp; omega) _
    · have hnz : ((n : Int) == 0) = false := by simp; omega
      clear hn
      go_enter Try.func15, Try.ntmps15
      go_wp2
      obtain ⟨q1, q2, q3⟩ := HE.out
      have hw := row2 (v0 := .int .i64 0) (v1 := .slice none 0 0) q2
      refine bodyPost_ret (v := .tuple #[.agg #[.int .i64 0, .slice none 0 0], .bool false]) ?_ rfl ⟨none, 0, rfl, OwnV.nil _ _ _, ?_⟩
      · rw [results_cell_tmp rfl]
        simp [asAddr, Result.andThen, loadv30 hw]
      · exact (q1.setCell (by simp; omega) _).setCell (by simp; omega) _
theorem of_some {A : Option Addr} {n ca : Nat} {ps : List Pc} (h : PL w A n ps) (hn : n ≤ 1000000) (s : Nat) (hs : s ≤ 9223372036854775807) (h0 : 0 < n) {i : Nat} (hi : s % n = i) {p : Pc} (hp : ps[i]? = some p) : Calls Try.prog 15 #[.slice A n ca, .int .i64 (s : Int)] w (OfQ w (p.pl, true)) := by
  obtain ⟨w1, hw1⟩ : ∃ v, w.alloc (.cells #[.int .i64 0, .slice none 0 0] 30) = v := ⟨_, rfl⟩
  obtain ⟨hb1, hx1⟩ := box_new hw1
  obtain ⟨b, hb⟩ : ∃ b, w.heap.size = b := ⟨_, rfl⟩
  rw [hb] at hx1
  have hP1 := h.below hb1 (Nat.le_refl _)
  obtain ⟨ad, hok, rfl, hadl, hload, _, _⟩ := hP1.get' hp
  have hnz : ((n : Int) == 0) = false := by simp; omega
  have hmod : (s : Int) % (n : Int) = (i : Int) := by omega
  have hmod' : (s : Int).tmod (n : Int) = (i : Int) := by rw [Int.tmod_eq_emod_of_nonneg (by omega)]; exact hmod
  have hi1 : (0 : Int) ≤ (i : Int) := by omega
  have hi2 : (i : Int) < (n : Int) := by have := Nat.mod_lt s h0; omega
  have hs0 : (0 : Int) ≤ (s : Int) := by omega
  have HE := Lib.hid (And.intro hb1 (And.intro hx1 (And.intro hb hok)))
  clear hb1 hx1 h hP1 hok hadl hp hi
  go_enter Try.func15, Try.ntmps15
  go_wp2_with fail
  (try rw [hb]); (try rw [hw1])
  refine (alone_is _ p.e HE.out.2.2.2.rd HE.out.2.2.2.small).mono ?_
  rintro e w2 ⟨X, c, rfl, ho, hb2⟩
  have hx2 := (hb2.block _ (lt_of_block HE.out.2.1)).trans HE.out.2.1
  obtain ⟨⟨m0, m1⟩, fm0, fm1⟩ := two30 hx2
  have HF := Lib.hid (And.intro ho (And.intro hb2 hx2))
  clear ho hb2 hx2 hload
  go_wp2
  obtain ⟨q1, q2, q3, q4⟩ := HE.out
  obtain ⟨f1, f2, f3⟩ := HF.out
  have hw := row2 (v0 := .int .i64 p.e) (v1 := .slice X p.l.length c) f3
  refine bodyPost_ret (v := .tuple #[.agg #[.int .i64 p.e, .slice X p.l.length c], .bool true]) ?_ rfl ⟨X, c, rfl, ?_, ?_⟩
  · rw [results_cell_tmp rfl]
    simp [asAddr, Result.andThen, loadv30 hw]
  · have hbt : But [b] w2 ((w2.setCell ⟨b, 0, none⟩ (.int .i64 p.e)).setCell ⟨b, 1, none⟩ (.slice X p.l.length c)) := ((But.refl _ _).setCell (by simp) _).setCell (by simp) _
    refine (f1.but hbt fun j hj hm => ?_).lower' q1.size
    have h1 := (f1.block j hj).1
    have h2 := lt_of_block q2
    simp at hm h1
    omega
  · exact ((q1.trans (f2.mono q1.size)).setCell (by simp; omega) _).setCell (by simp; omega) _
theorem of_is {A : Option Addr} {n ca : Nat} {ps : List Pc} (h : PL w A n ps) (hn : n ≤ 1000000) (s : Int) (hs : s ≤ 9223372036854775807) : Calls Try.prog 15 #[.slice A n ca, .int .i64 s] w (OfQ w (ofP (ps.map Pc.pl) s)) := by
  have hln := h.len
  unfold ofP
  by_cases h0 : n = 0 ∨ s < 0
  · rw [if_pos (by simpa [hln] using h0)]
    exact of_none w n ca s h0
  · rw [if_neg (by simpa [hln] using h0)]
    have hlt : s.toNat % n < ps.length := by rw [hln]; exact Nat.mod_lt _ (by omega)
    obtain ⟨p, hp⟩ : ∃ p, ps[s.toNat % n]? = some p := ⟨_, List.getElem?_eq_getElem hlt⟩
    have := of_some w (ca := ca) h hn s.toNat (by omega) (by omega) rfl hp
    rw [Int.toNat_of_nonneg (by omega)] at this
    rw [List.length_map, hln, List.getElem?_map, hp]
    exact this
end
end Go.Proofs.Ytbilbfjmfaignaa
