/- The laws' lists of calls in memory; arguments that are such, as the rows hand them over. -/
import Derived.Test.YtncjbohpaanpaaaClkI
import Derived.Deep.Slices
import Derived.Deep.Fields
import Derived.Lib.SmallJoins
import Derived.OpenShut
namespace Go.Proofs.Ytncjbohpaanpaaa
open Go.RowKit Go.Coop Go.ChangeShapes Go.WideShapes Go.Deep
set_option maxRecDepth 100000
/-- a call of the laws -/
structure OpV where
  kd : Int
  id : Int
  dt : Int
def OpV.cells (o : OpV) : List Value := [.int .i64 o.kd, .int .i64 o.id, .int .i64 o.dt]
abbrev OV (o : OpV) : Value := .agg #[.int .i64 o.kd, .int .i64 o.id, .int .i64 o.dt]
structure OpV.Ok (o : OpV) : Prop where
  kd : -9223372036854775808 ≤ o.kd ∧ o.kd ≤ 9223372036854775807
  id : -9223372036854775808 ≤ o.id ∧ o.id ≤ 9223372036854775807
  dt : -9223372036854775808 ≤ o.dt ∧ o.dt ≤ 9223372036854775807
/-- the slice at F of m elements reads as these calls -/
structure OpsAt (w : World) (F : Option Addr) (m : Nat) (os : List OpV) : Prop where
  len : os.length = m
  at_ : ∀ (i : Nat) (o : OpV), os[i]? = some o → o.Ok ∧ ∃ ad, F = some ad ∧ ad.block < w.heap.size ∧ ∀ j v, o.cells[j]? = some v → w.cell? (ad.add (i * 3 + j)) = some v
theorem OpsAt.below {w w' : World} {F : Option Addr} {m : Nat} {os : List OpV} {B : Nat} (h : OpsAt w F m os) (hb : Below B w w') (hB : w.heap.size ≤ B) : OpsAt w' F m os :=
  ⟨h.len, fun i o hi => by
    obtain ⟨h1, ad, h2, h3, h4⟩ := h.at_ i o hi
    exact ⟨h1, ad, h2, Nat.lt_of_lt_of_le h3 hb.size, fun j v hj => (hb.cell (by rw [addr_add_block]; omega)).trans (h4 j v hj)⟩⟩
theorem add_pos (a : Addr) {k : Nat} (h : k ≠ 0) : a.add k = ⟨a.block, a.off + k, none⟩ := by unfold Addr.add; simp [h]
/-- the i-th call, by value -/
theorem OpsAt.get {w : World} {F : Option Addr} {m : Nat} {os : List OpV} (h : OpsAt w F m os) {i : Nat} (hi : i < m) : ∃ o ad, os[i]? = some o ∧ o.Ok ∧ F = some ad ∧ w.cell? (ad.add (i * 3)) = some (.int .i64 o.kd) ∧ w.cell? ⟨(ad.add (i * 3)).block, (ad.add (i * 3)).off + 1, none⟩ = some (.int .i64 o.id) ∧ w.cell? ⟨(ad.add (i * 3)).block, (ad.add (i * 3)).off + 2, none⟩ = some (.int .i64 o.dt) := by
  have hl := h.len
  obtain ⟨o, ho⟩ : ∃ o, os[i]? = some o := ⟨_, List.getElem?_eq_getElem (by omega)⟩
  obtain ⟨h1, ad, h2, h3, h4⟩ := h.at_ i o ho
  exact ⟨o, ad, ho, h1, h2, h4 0 _ rfl, by rw [← add_pos _ (by decide), addr_add_add]; exact h4 1 _ rfl, by rw [← add_pos _ (by decide), addr_add_add]; exact h4 2 _ rfl⟩
theorem list_of {α : Type} (n : Nat) (Q : Nat → α → Prop) (h : ∀ i, i < n → ∃ p, Q i p) : ∃ l : List α, l.length = n ∧ ∀ (i : Nat) (p : α), l[i]? = some p → Q i p := by
  induction n with
  | zero => exact ⟨[], rfl, by simp⟩
  | succ n ih =>
    obtain ⟨l, hl, hq⟩ := ih (fun i hi => h i (by omega))
    obtain ⟨p, hp⟩ := h n (by omega)
    refine ⟨l ++ [p], by simp [hl], fun i q hi => ?_⟩
    rw [List.getElem?_append] at hi
    split at hi
    · exact hq i q hi
    · rename_i hge
      have h0 : i - l.length = 0 := by
        have := (List.getElem?_eq_some_iff.1 hi).1
        simp at this
        omega
      rw [h0] at hi
      simp at hi
      subst hi
      have : i = n := by omega
      rw [this]
      exact hp
theorem cells3 : Try.prog.cellsOf 3 = 1 := by kernel_rfl
theorem cells2 : Try.prog.cellsOf 2 = 1 := by kernel_rfl
theorem cells46 : Try.prog.cellsOf 46 = 3 := by kernel_rfl
theorem i64_of {H : Type} {enc : TypeId × Value → H} {W : World} {n : Nat} {v : Value} {y : DataW H × List MemPlace} (h : DataW.trod enc Try.prog W 0 (fun _ => true) true n 3 [v] = some y) : ∃ k : Int, (-9223372036854775808 ≤ k ∧ k ≤ 9223372036854775807) ∧ v = .int .i64 k := by
  obtain ⟨N, e0, _, wN⟩ := DataW.trod_int Try.underlying3 h
  simp [Lit.wf, IntKind.min, IntKind.max, IntKind.signed, IntKind.bits] at wN
  exact ⟨N, by omega, by simpa using e0⟩
theorem t64_of {H : Type} {enc : TypeId × Value → H} {W : World} {n : Nat} {v : Value} {y : DataW H × List MemPlace} (h : DataW.trod enc Try.prog W 0 (fun _ => true) true n 2 [v] = some y) : ∃ k : Int, (-9223372036854775808 ≤ k ∧ k ≤ 9223372036854775807) ∧ v = .int .i64 k := by
  obtain ⟨N, e0, _, wN⟩ := DataW.trod_int Try.underlying2 h
  simp [Lit.wf, IntKind.min, IntKind.max, IntKind.signed, IntKind.bits] at wN
  exact ⟨N, by omega, by simpa using e0⟩
/-- a call out of its cells -/
theorem op_cells {H : Type} {enc : TypeId × Value → H} {W : World} {n : Nat} {cs : List Value} {y : DataW H × List MemPlace} (hcl : cs.length = 3) (ht : DataW.trod enc Try.prog W 0 (fun _ => true) true n 46 cs = some y) : ∃ o : OpV, o.Ok ∧ cs = o.cells := by
  obtain ⟨ys, n', _, _, _, hyl, hf⟩ := DataW.trod_struct Try.underlying46 ht
  match cs, hcl with
  | [v0, v1, v2], _ =>
    have f0 : DataW.trod enc Try.prog W 0 (fun _ => true) true n' 3 (([v0, v1, v2].drop 0).take (Try.prog.cellsOf 3)) = ys[0]? := hf 0 _ rfl
    have f1 : DataW.trod enc Try.prog W 0 (fun _ => true) true n' 3 (([v0, v1, v2].drop 1).take (Try.prog.cellsOf 3)) = ys[1]? := hf 1 _ rfl
    have f2 : DataW.trod enc Try.prog W 0 (fun _ => true) true n' 2 (([v0, v1, v2].drop 2).take (Try.prog.cellsOf 2)) = ys[2]? := hf 2 _ rfl
    have hy : ∀ j, j < 3 → ∃ y, ys[j]? = some y := fun j hj => ⟨_, List.getElem?_eq_getElem (by rw [hyl]; exact hj)⟩
    obtain ⟨y0, hy0⟩ := hy 0 (by omega)
    obtain ⟨y1, hy1⟩ := hy 1 (by omega)
    obtain ⟨y2, hy2⟩ := hy 2 (by omega)
    rw [hy0, cells3] at f0
    rw [hy1, cells3] at f1
    rw [hy2, cells2] at f2
    obtain ⟨kd, b0, rfl⟩ := i64_of f0
    obtain ⟨id, b1, rfl⟩ := i64_of f1
    obtain ⟨dt, b2, rfl⟩ := t64_of f2
    exact ⟨⟨kd, id, dt⟩, ⟨b0, b1, b2⟩, rfl⟩
theorem ops_of {H : Type} {enc : TypeId × Value → H} {W : World} {fuel : Nat} {a0 : Option Addr} {len0 cap0 : Nat} {x : DataW H × List MemPlace}
    (h : DataW.trod enc Try.prog W 0 (fun _ => true) true fuel 40 [.slice a0 len0 cap0] = some x) : ∃ os, OpsAt W a0 len0 os ∧ len0 ≤ cap0 ∧ cap0 ≤ maxLen := by
  rcases open_slice Try.underlying40 h with ⟨hcs, _⟩ | ⟨a, len, cap, m, n, D, Pl, hcs, _, hl, hm, hmm, _, hi⟩
  · simp at hcs
    obtain ⟨rfl, rfl, rfl⟩ := hcs
    exact ⟨[], ⟨rfl, by simp⟩, Nat.le_refl _, Nat.zero_le _⟩
  · simp at hcs
    obtain ⟨rfl, rfl, rfl⟩ := hcs
    simp only [if_true] at hmm
    subst hmm
    have key : ∀ i, i < len0 → ∃ o : OpV, o.Ok ∧ ∃ ad, some a = some ad ∧ ad.block < W.heap.size ∧ ∀ j v, o.cells[j]? = some v → W.cell? (ad.add (i * 3 + j)) = some v := by
      intro i hil
      obtain ⟨cs', hc, ht⟩ := hi i (by omega)
      rw [cells46] at hc
      obtain ⟨_, hcl, hat⟩ := World.cells?_some hc
      obtain ⟨o, ho, rfl⟩ := op_cells hcl ht
      have hblk : a.block < W.heap.size := by
        have c0 := hat 0 (by omega)
        rw [addr_add_add] at c0
        have := block_lt_of_cell (c0.trans (show o.cells[0]? = some (.int .i64 o.kd) from rfl))
        rwa [addr_add_block] at this
      refine ⟨o, ho, a, rfl, hblk, fun j v hj => ?_⟩
      have hj3 : j < 3 := by have := (List.getElem?_eq_some_iff.1 hj).1; simpa [OpV.cells] using this
      have cj := hat j hj3
      rw [addr_add_add] at cj
      rw [cj]
      exact hj
    obtain ⟨os, h1, h2⟩ := list_of len0 _ key
    exact ⟨os, ⟨h1, h2⟩, hl, hm⟩
end Go.Proofs.Ytncjbohpaanpaaa
