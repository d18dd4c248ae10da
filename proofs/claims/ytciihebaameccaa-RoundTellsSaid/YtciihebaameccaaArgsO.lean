/- Arguments that are lists of steps, as the rows hand them over. -/
import Derived.Test.YtciihebaameccaaRndM
namespace Go.Proofs.Ytciihebaameccaa
open Go.RowKit Go.Coop Go.ChangeShapes Go.WideShapes Go.Deep
set_option maxRecDepth 100000
theorem list_of {α : Type} (n : Nat) (Q : Nat → α → Prop) (h : ∀ i, i < n → ∃ p, Q i p) : ∃ l : List α, l.length = n ∧ ∀ (i : Nat) (p : α), l[i]? = some p → Q i p := by
  induction n with
  | zero => exact ⟨[], rfl, by simp⟩
  | succ n ih =>
    obtain ⟨l, hl, hq⟩ := ih (fun i hi => h i (by omega))
    obtain ⟨p, hp⟩ := h n (by omega)
    refine ⟨l ++ [p], by simp [hl], fun i q hi => ?_⟩
    rw [List.getElem?_append] at hi
    split at hi
    · exact hq i q hi
    · rename_i hge
      have h0 : i - l.length = 0 := by
        have := (List.getElem?_eq_some_iff.1 hi).1
        simp at this
        omega
      rw [h0] at hi
      simp at hi
      subst hi
      have : i = n := by omega
      rw [this]
      exact hp
theorem cells3 : Try.prog.cellsOf 3 = 1 := by kernel_rfl
theorem cells33 : Try.prog.cellsOf 33 = 1 := by kernel_rfl
theorem cells27 : Try.prog.cellsOf 27 = 1 := by kernel_rfl
theorem cells47 : Try.prog.cellsOf 47 = 4 := by kernel_rfl
theorem i64_of {H : Type} {enc : TypeId × Value → H} {W : World} {n : Nat} {v : Value} {y : DataW H × List MemPlace} (h : DataW.trod enc Try.prog W 0 (fun _ => true) true n 3 [v] = some y) : ∃ k : Int, (-9223372036854775808 ≤ k ∧ k ≤ 9223372036854775807) ∧ v = .int .i64 k := by
  obtain ⟨N, e0, _, wN⟩ := DataW.trod_int Try.underlying3 h
  simp [Lit.wf, IntKind.min, IntKind.max, IntKind.signed, IntKind.bits] at wN
  exact ⟨N, by omega, by simpa using e0⟩
theorem e64_of {H : Type} {enc : TypeId × Value → H} {W : World} {n : Nat} {v : Value} {y : DataW H × List MemPlace} (h : DataW.trod enc Try.prog W 0 (fun _ => true) true n 27 [v] = some y) : ∃ k : Int, (-9223372036854775808 ≤ k ∧ k ≤ 9223372036854775807) ∧ v = .int .i64 k := by
  obtain ⟨N, e0, _, wN⟩ := DataW.trod_int Try.underlying27 h
  simp [Lit.wf, IntKind.min, IntKind.max, IntKind.signed, IntKind.bits] at wN
  exact ⟨N, by omega, by simpa using e0⟩
theorem u8_of {H : Type} {enc : TypeId × Value → H} {W : World} {n : Nat} {v : Value} {y : DataW H × List MemPlace} (h : DataW.trod enc Try.prog W 0 (fun _ => true) true n 33 [v] = some y) : ∃ k : Int, (0 ≤ k ∧ k ≤ 255) ∧ v = .int .u8 k := by
  obtain ⟨N, e0, _, wN⟩ := DataW.trod_int Try.underlying33 h
  simp [Lit.wf, IntKind.min, IntKind.max, IntKind.signed, IntKind.bits] at wN
  exact ⟨N, by omega, by simpa using e0⟩
/-- a step out of its cells -/
theorem op_cells {H : Type} {enc : TypeId × Value → H} {W : World} {n : Nat} {cs : List Value} {y : DataW H × List MemPlace} (hcl : cs.length = 4) (ht : DataW.trod enc Try.prog W 0 (fun _ => true) true n 47 cs = some y) : ∃ o : OpR, cs = o.cells := by
  obtain ⟨ys, n', _, _, _, hyl, hf⟩ := DataW.trod_struct Try.underlying47 ht
  match cs, hcl with
  | [v0, v1, v2, v3], _ =>
    have f0 : DataW.trod enc Try.prog W 0 (fun _ => true) true n' 3 (([v0, v1, v2, v3].drop 0).take (Try.prog.cellsOf 3)) = ys[0]? := hf 0 _ rfl
    have f1 : DataW.trod enc Try.prog W 0 (fun _ => true) true n' 3 (([v0, v1, v2, v3].drop 1).take (Try.prog.cellsOf 3)) = ys[1]? := hf 1 _ rfl
    have f2 : DataW.trod enc Try.prog W 0 (fun _ => true) true n' 33 (([v0, v1, v2, v3].drop 2).take (Try.prog.cellsOf 33)) = ys[2]? := hf 2 _ rfl
    have f3 : DataW.trod enc Try.prog W 0 (fun _ => true) true n' 27 (([v0, v1, v2, v3].drop 3).take (Try.prog.cellsOf 27)) = ys[3]? := hf 3 _ rfl
    have hy : ∀ j, j < 4 → ∃ y, ys[j]? = some y := fun j hj => ⟨_, List.getElem?_eq_getElem (by rw [hyl]; exact hj)⟩
    obtain ⟨y0, hy0⟩ := hy 0 (by omega)
    obtain ⟨y1, hy1⟩ := hy 1 (by omega)
    obtain ⟨y2, hy2⟩ := hy 2 (by omega)
    obtain ⟨y3, hy3⟩ := hy 3 (by omega)
    rw [hy0, cells3] at f0
    rw [hy1, cells3] at f1
    rw [hy2, cells33] at f2
    rw [hy3, cells27] at f3
    obtain ⟨kd, _, rfl⟩ := i64_of f0
    obtain ⟨ix, _, rfl⟩ := i64_of f1
    obtain ⟨op, _, rfl⟩ := u8_of f2
    obtain ⟨er, _, rfl⟩ := e64_of f3
    exact ⟨⟨kd, ix, op, er⟩, rfl⟩
theorem ops_of {H : Type} {enc : TypeId × Value → H} {W : World} {fuel : Nat} {a0 : Option Addr} {len0 cap0 : Nat} {x : DataW H × List MemPlace}
    (h : DataW.trod enc Try.prog W 0 (fun _ => true) true fuel 44 [.slice a0 len0 cap0] = some x) : ∃ os, OpsAt W a0 len0 os ∧ len0 ≤ cap0 ∧ cap0 ≤ maxLen := by
  rcases open_slice Try.underlying44 h with ⟨hcs, _⟩ | ⟨a, len, cap, m, n, D, Pl, hcs, _, hl, hm, hmm, _, hi⟩
  · simp at hcs
    obtain ⟨rfl, rfl, rfl⟩ := hcs
    exact ⟨[], ⟨rfl, by simp⟩, Nat.le_refl _, Nat.zero_le _⟩
  · simp at hcs
    obtain ⟨rfl, rfl, rfl⟩ := hcs
    simp only [if_true] at hmm
    subst hmm
    have key : ∀ i, i < len0 → ∃ o : OpR, ∃ ad, some a = some ad ∧ ad.block < W.heap.size ∧ ∀ j v, o.cells[j]? = some v → W.cell? (ad.add (i * 4 + j)) = some v := by
      intro i hil
      obtain ⟨cs', hc, ht⟩ := hi i (by omega)
      rw [cells47] at hc
      obtain ⟨_, hcl, hat⟩ := World.cells?_some hc
      obtain ⟨o, rfl⟩ := op_cells hcl ht
      have hblk : a.block < W.heap.size := by
        have c0 := hat 0 (by omega)
        rw [addr_add_add] at c0
        have := block_lt_of_cell (c0.trans (show o.cells[0]? = some (.int .i64 o.kd) from rfl))
        rwa [addr_add_block] at this
      refine ⟨o, a, rfl, hblk, fun j v hj => ?_⟩
      have hj3 : j < 4 := by have := (List.getElem?_eq_some_iff.1 hj).1; simpa [OpR.cells] using this
      have cj := hat j hj3
      rw [addr_add_add] at cj
      rw [cj]
      exact hj
    obtain ⟨os, h1, h2⟩ := list_of len0 _ key
    exact ⟨os, ⟨h1, h2⟩, hl, hm⟩
end Go.Proofs.Ytciihebaameccaa
