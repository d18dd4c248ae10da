/- The laws' calls in memory; arguments that are slices of calls, or of bools, as the rows hand them over. -/
import Derived.Test.YtlhhijhmjkgnaaaSame
import Derived.Deep.Slices
import Derived.Deep.Fields
import Derived.OpenShut
namespace Go.Proofs.Ytlhhijhmjkgnaaa
open Go.RowKit Go.Coop Go.ChangeShapes Go.WideShapes Go.Deep
set_option maxRecDepth 100000

/-- the slice at F of m elements reads as the calls os -/
structure OpsAt (w : World) (F : Option Addr) (m : Nat) (os : List OpV) : Prop where
  len : os.length = m
  at_ : ∀ (i : Nat) (o : OpV), os[i]? = some o → o.Ok w ∧ ∃ ad, F = some ad ∧ ad.block < w.heap.size ∧ ∀ j v, o.cells[j]? = some v → w.cell? (ad.add (i * 6 + j)) = some v
theorem OpsAt.below {w w' : World} {F : Option Addr} {m : Nat} {os : List OpV} {B : Nat} (h : OpsAt w F m os) (hb : Below B w w') (hB : w.heap.size ≤ B) : OpsAt w' F m os :=
  ⟨h.len, fun i o hi => by
    obtain ⟨h1, ad, h2, h3, h4⟩ := h.at_ i o hi
    exact ⟨h1.below hb hB, ad, h2, Nat.lt_of_lt_of_le h3 hb.size, fun j v hj => (hb.cell (by rw [addr_add_block]; omega)).trans (h4 j v hj)⟩⟩
/-- the i-th call, by value -/
theorem OpsAt.get {w : World} {F : Option Addr} {m : Nat} {os : List OpV} (h : OpsAt w F m os) {i : Nat} (hi : i < m) : ∃ o ad, os[i]? = some o ∧ o.Ok w ∧ F = some ad ∧ (Instr.loadAt 47 (.pointer (some (ad.add (i * 6))))).run Try.prog w = .ok (.agg o.cells.toArray) w ∧ w.cell? (ad.add (i * 6)) = some (.int .i64 o.kind) := by
  have hl := h.len
  obtain ⟨o, ho⟩ : ∃ o, os[i]? = some o := ⟨_, List.getElem?_eq_getElem (by omega)⟩
  obtain ⟨h1, ad, h2, h3, h4⟩ := h.at_ i o ho
  refine ⟨o, ad, ho, h1, h2, ?_, by have := h4 0 _ rfl; simpa using this⟩
  exact run_loadAt_at w _ 47 o.cells _ (fun j v hj => by rw [addr_add_add]; exact h4 j v hj) Try.underlying47 rfl (by kernel_rfl)

theorem list_of {α : Type} (n : Nat) (Q : Nat → α → Prop) (h : ∀ i, i < n → ∃ p, Q i p) : ∃ l : List α, l.length = n ∧ ∀ (i : Nat) (p : α), l[i]? = some p → Q i p := by
  induction n with
  | zero => exact ⟨[], rfl, by simp⟩
  | succ n ih =>
    obtain ⟨l, hl, hq⟩ := ih (fun i hi => h i (by omega))
    obtain ⟨p, hp⟩ := h n (by omega)
    refine ⟨l ++ [p], by simp [hl], fun i q hi => ?_⟩
    rw [List.getElem?_append] at hi
    split at hi
    · exact hq i q hi
    · rename_i hge
      have h0 : i - l.length = 0 := by
        have := (List.getElem?_eq_some_iff.1 hi).1
        simp at this
        omega
      rw [h0] at hi
      simp at hi
      subst hi
      have : i = n := by omega
      rw [this]
      exact hp
theorem cells4 : Try.prog.cellsOf 4 = 1 := by kernel_rfl
theorem cells3 : Try.prog.cellsOf 3 = 1 := by kernel_rfl
theorem cells5 : Try.prog.cellsOf 5 = 1 := by kernel_rfl
theorem cells45 : Try.prog.cellsOf 45 = 1 := by kernel_rfl
theorem cells47 : Try.prog.cellsOf 47 = 6 := by kernel_rfl
/-- a row of cells of which each is known -/
theorem rdv_of {α : Type} {W : World} {a : Addr} {n : Nat} (f : α → Value) (h : ∀ i, i < n → ∃ p : α, W.cell? (a.add i) = some (f p)) : ∃ l : List α, RdV W (some a) n (l.map f) := by
  obtain ⟨l, hl, hq⟩ := list_of n _ h
  refine ⟨l, by simp [hl], fun h0 => ⟨a, rfl, ?_, fun j v hj => ?_⟩⟩
  · obtain ⟨p, hp⟩ := h 0 h0
    have := block_lt_of_cell hp
    rwa [addr_add_block] at this
  · simp only [List.getElem?_map, Option.map_eq_some_iff] at hj
    obtain ⟨p, hp, rfl⟩ := hj
    exact hq j p hp
theorem bools_of {H : Type} {enc : TypeId × Value → H} {W : World} {fuel : Nat} {v : Value} {x : DataW H × List MemPlace}
    (h : DataW.trod enc Try.prog W 0 (fun _ => true) true fuel 45 [v] = some x) : ∃ (a : Option Addr) (len cap : Nat) (fl : List Bool), v = .slice a len cap ∧ RdV W a len (bools fl) ∧ len ≤ cap ∧ cap ≤ maxLen := by
  rcases open_slice Try.underlying45 h with ⟨hcs, _⟩ | ⟨a, len, cap, m, n, D, Pl, hcs, _, hl, hm, hmm, _, hi⟩
  · exact ⟨none, 0, 0, [], by simpa using hcs, RdV.nil _ _, Nat.le_refl _, Nat.zero_le _⟩
  · simp only [if_true] at hmm
    subst hmm
    obtain ⟨l, hr⟩ := rdv_of (W := W) (a := a) (n := len) Value.bool (by
      intro i hil
      obtain ⟨cs', hc, ht⟩ := hi i (by omega)
      rw [cells4] at hc
      obtain ⟨_, hcl, hat⟩ := World.cells?_some hc
      obtain ⟨b, e2, _⟩ := DataW.trod_bool Try.underlying4 ht
      have c0 := hat 0 (by omega)
      rw [addr_add_add] at c0
      subst e2
      exact ⟨b, by simpa using c0⟩)
    exact ⟨some a, len, _, l, by simpa using hcs, hr, hl, hm⟩
theorem i64_of {H : Type} {enc : TypeId × Value → H} {W : World} {n : Nat} {v : Value} {y : DataW H × List MemPlace} (h : DataW.trod enc Try.prog W 0 (fun _ => true) true n 3 [v] = some y) : ∃ k : Int, (-9223372036854775808 ≤ k ∧ k ≤ 9223372036854775807) ∧ v = .int .i64 k := by
  obtain ⟨N, e0, _, wN⟩ := DataW.trod_int Try.underlying3 h
  simp [Lit.wf, IntKind.min, IntKind.max, IntKind.signed, IntKind.bits] at wN
  exact ⟨N, by omega, by simpa using e0⟩
theorem u8_of {H : Type} {enc : TypeId × Value → H} {W : World} {n : Nat} {v : Value} {y : DataW H × List MemPlace} (h : DataW.trod enc Try.prog W 0 (fun _ => true) true n 5 [v] = some y) : ∃ b : UInt8, v = .int .u8 (b.toNat : Int) := by
  obtain ⟨N, e0, _, wN⟩ := DataW.trod_int Try.underlying5 h
  simp [Lit.wf, IntKind.min, IntKind.max, IntKind.signed, IntKind.bits] at wN
  refine ⟨UInt8.ofNat N.toNat, ?_⟩
  rw [UInt8.toNat_ofNat']
  have : (((N.toNat % 2 ^ 8 : Nat) : Int)) = N := by omega
  rw [this]
  simpa using e0
theorem ops_of {H : Type} {enc : TypeId × Value → H} {W : World} {fuel : Nat} {a0 : Option Addr} {len0 cap0 : Nat} {x : DataW H × List MemPlace}
    (h : DataW.trod enc Try.prog W 0 (fun _ => true) true fuel 39 [.slice a0 len0 cap0] = some x) : ∃ os, OpsAt W a0 len0 os ∧ (∀ o ∈ os, -9223372036854775808 ≤ o.i ∧ o.i ≤ 9223372036854775807 ∧ -9223372036854775808 ≤ o.n) ∧ len0 ≤ cap0 ∧ cap0 ≤ maxLen := by
  rcases open_slice Try.underlying39 h with ⟨hcs, _⟩ | ⟨a, len, cap, m, n, D, Pl, hcs, _, hl, hm, hmm, _, hi⟩
  · simp at hcs
    obtain ⟨rfl, rfl, rfl⟩ := hcs
    exact ⟨[], ⟨rfl, by simp⟩, by simp, Nat.le_refl _, Nat.zero_le _⟩
  · simp at hcs
    obtain ⟨rfl, rfl, rfl⟩ := hcs
    simp only [if_true] at hmm
    subst hmm
    have key : ∀ i, i < len0 → ∃ o : OpV, (o.Ok W ∧ ∃ ad, some a = some ad ∧ ad.block < W.heap.size ∧ ∀ j v, o.cells[j]? = some v → W.cell? (ad.add (i * 6 + j)) = some v) ∧ (-9223372036854775808 ≤ o.i ∧ o.i ≤ 9223372036854775807 ∧ -9223372036854775808 ≤ o.n) := by
      intro i hil
      obtain ⟨cs', hc, ht⟩ := hi i (by omega)
      rw [cells47] at hc
      obtain ⟨_, hcl, hat⟩ := World.cells?_some hc
      obtain ⟨ys, n', _, _, _, hyl, hf⟩ := DataW.trod_struct Try.underlying47 ht
      match cs', hcl with
      | [v0, v1, v2, v3, v4, v5], _ =>
        have f0 : DataW.trod enc Try.prog W 0 (fun _ => true) true n' 3 (([v0, v1, v2, v3, v4, v5].drop 0).take (Try.prog.cellsOf 3)) = ys[0]? := hf 0 _ rfl
        have f1 : DataW.trod enc Try.prog W 0 (fun _ => true) true n' 3 (([v0, v1, v2, v3, v4, v5].drop 1).take (Try.prog.cellsOf 3)) = ys[1]? := hf 1 _ rfl
        have f2 : DataW.trod enc Try.prog W 0 (fun _ => true) true n' 3 (([v0, v1, v2, v3, v4, v5].drop 2).take (Try.prog.cellsOf 3)) = ys[2]? := hf 2 _ rfl
        have f3 : DataW.trod enc Try.prog W 0 (fun _ => true) true n' 3 (([v0, v1, v2, v3, v4, v5].drop 3).take (Try.prog.cellsOf 3)) = ys[3]? := hf 3 _ rfl
        have f4 : DataW.trod enc Try.prog W 0 (fun _ => true) true n' 5 (([v0, v1, v2, v3, v4, v5].drop 4).take (Try.prog.cellsOf 5)) = ys[4]? := hf 4 _ rfl
        have f5 : DataW.trod enc Try.prog W 0 (fun _ => true) true n' 45 (([v0, v1, v2, v3, v4, v5].drop 5).take (Try.prog.cellsOf 45)) = ys[5]? := hf 5 _ rfl
        have hy : ∀ j, j < 6 → ∃ y, ys[j]? = some y := fun j hj => ⟨_, List.getElem?_eq_getElem (by rw [hyl]; exact hj)⟩
        obtain ⟨y0, hy0⟩ := hy 0 (by omega)
        obtain ⟨y1, hy1⟩ := hy 1 (by omega)
        obtain ⟨y2, hy2⟩ := hy 2 (by omega)
        obtain ⟨y3, hy3⟩ := hy 3 (by omega)
        obtain ⟨y4, hy4⟩ := hy 4 (by omega)
        obtain ⟨y5, hy5⟩ := hy 5 (by omega)
        rw [hy0, cells3] at f0
        rw [hy1, cells3] at f1
        rw [hy2, cells3] at f2
        rw [hy3, cells3] at f3
        rw [hy4, cells5] at f4
        rw [hy5, cells45] at f5
        obtain ⟨kd, b0, rfl⟩ := i64_of f0
        obtain ⟨ix, b1, rfl⟩ := i64_of f1
        obtain ⟨at_, b2, rfl⟩ := i64_of f2
        obtain ⟨nn, b3, rfl⟩ := i64_of f3
        obtain ⟨bb, rfl⟩ := u8_of f4
        obtain ⟨A, kl, kc, ks, rfl, hr, hkl, hkc⟩ := bools_of f5
        have hblk : a.block < W.heap.size := by
          have c0 := hat 0 (by omega)
          rw [addr_add_add] at c0
          have := block_lt_of_cell (by simpa using c0)
          rwa [addr_add_block] at this
        refine ⟨⟨kd, ix, at_, nn, bb, A, kl, kc, ks⟩, ⟨⟨b3.2, by unfold maxLen at hkc; show kl ≤ _; omega, hr⟩, a, rfl, hblk, fun j v hj => ?_⟩, b1.1, b1.2, b3.1⟩
        have hj6 : j < 6 := by have := (List.getElem?_eq_some_iff.1 hj).1; simpa [OpV.cells] using this
        have cj := hat j hj6
        rw [addr_add_add] at cj
        rw [cj]
        exact hj
    obtain ⟨os, h1, h2⟩ := list_of len0 _ key
    refine ⟨os, ⟨h1, fun i o hi => (h2 i o hi).1⟩, fun o ho => ?_, hl, hm⟩
    obtain ⟨i, hi⟩ := List.mem_iff_getElem?.1 ho
    exact (h2 i o hi).2
end Go.Proofs.Ytlhhijhmjkgnaaa
