/- Arguments as the rows hand them over: arrays of three, lists of moves, lists of placements. -/
import Derived.Test.YtbilbfjmfaignaaPld
import Derived.Test.YtbilbfjmfaignaaArgs
import Derived.Deep.Slices
import Derived.Deep.Fields
import Derived.Lib.SmallJoins
import Derived.OpenShut
import Derived.Laws.IdiomArrays
namespace Go.Proofs.Ytbilbfjmfaignaa
open Go.RowKit Go.Coop Go.ChangeShapes Go.WideShapes Go.Deep
set_option maxRecDepth 100000
theorem list_of {α : Type} (n : Nat) (Q : Nat → α → Prop) (h : ∀ i, i < n → ∃ p, Q i p) : ∃ l : List α, l.length = n ∧ ∀ (i : Nat) (p : α), l[i]? = some p → Q i p := by
  induction n with
  | zero => exact ⟨[], rfl, by simp⟩
  | succ n ih =>
    obtain ⟨l, hl, hq⟩ := ih (fun i hi => h i (by omega))
    obtain ⟨p, hp⟩ := h n (by omega)
    refine ⟨l ++ [p], by simp [hl], fun i q hi => ?_⟩
    rw [List.getElem?_append] at hi
    split at hi
    · exact hq i q hi
    · rename_i hge
      have h0 : i - l.length = 0 := by
        have := (List.getElem?_eq_some_iff.1 hi).1
        simp at this
        omega
      rw [h0] at hi
      simp at hi
      subst hi
      have : i = n := by omega
      rw [this]
      exact hp
theorem cells3 : Try.prog.cellsOf 3 = 1 := by kernel_rfl
theorem cells5 : Try.prog.cellsOf 5 = 1 := by kernel_rfl
theorem cells28 : Try.prog.cellsOf 28 = 1 := by kernel_rfl
theorem cells30 : Try.prog.cellsOf 30 = 2 := by kernel_rfl
theorem cells75 : Try.prog.cellsOf 75 = 2 := by kernel_rfl
theorem okWide_arr {n : Nat} {e t : TypeId} {w : World} {r : Reach} {base : Nat} {v : Value} (ht : Try.prog.underlying t = some (.array n e)) (h : Value.okWide Try.prog w r base t v) : ∃ cs, v = .agg cs ∧ cs.size = Try.prog.cellsOf t := by
  simp only [Value.okWide, ht] at h
  obtain ⟨cs, h1, h2, _⟩ := h
  exact ⟨cs, h1, h2⟩
theorem array3 {α : Type} {cs : Array α} (h : cs.size = 3) : ∃ c0 c1 c2, cs = #[c0, c1, c2] := by
  obtain ⟨l⟩ := cs
  match l, h with
  | [c0, c1, c2], _ => exact ⟨c0, c1, c2, rfl⟩
theorem i64_of {H : Type} {enc : TypeId × Value → H} {W : World} {n : Nat} {v : Value} {y : DataW H × List MemPlace} (h : DataW.trod enc Try.prog W 0 (fun _ => true) true n 3 [v] = some y) : ∃ k : Int, (-9223372036854775808 ≤ k ∧ k ≤ 9223372036854775807) ∧ v = .int .i64 k := by
  obtain ⟨N, e0, _, wN⟩ := DataW.trod_int Try.underlying3 h
  simp [Lit.wf, IntKind.min, IntKind.max, IntKind.signed, IntKind.bits] at wN
  exact ⟨N, by omega, by simpa using e0⟩
theorem u8_of {H : Type} {enc : TypeId × Value → H} {W : World} {n : Nat} {v : Value} {y : DataW H × List MemPlace} (h : DataW.trod enc Try.prog W 0 (fun _ => true) true n 5 [v] = some y) : ∃ k : Nat, k < 256 ∧ v = .int .u8 (k : Int) := by
  obtain ⟨N, e0, _, wN⟩ := DataW.trod_int Try.underlying5 h
  simp [Lit.wf, IntKind.min, IntKind.max, IntKind.signed, IntKind.bits] at wN
  refine ⟨N.toNat, by omega, ?_⟩
  rw [Int.toNat_of_nonneg (by omega)]
  simpa using e0
theorem three_of {H : Type} {enc : TypeId × Value → H} {W : World} {r : Reach} {b0 : Nat} {v : Value} {d : DataW H} {p : List MemPlace} (hv : Value.okWide Try.prog W r b0 49 v) (h : DataW.Trod enc Try.prog W 0 (fun _ => true) true 49 v d p) :
    ∃ x0 x1 x2 : Nat, x0 < 256 ∧ x1 < 256 ∧ x2 < 256 ∧ v = .agg #[.int .u8 (x0 : Int), .int .u8 (x1 : Int), .int .u8 (x2 : Int)] := by
  obtain ⟨cs, rfl, hsz⟩ := okWide_arr Try.underlying49 hv
  obtain ⟨c0, c1, c2, rfl⟩ := array3 (hsz.trans (show Try.prog.cellsOf 49 = 3 by kernel_rfl))
  obtain ⟨fuel, hf⟩ := h
  obtain ⟨y0, y1, y2, n, _, h0, h1, h2⟩ := trod_array3 Try.underlying49 cells5 (by simpa [Value.cells] using hf)
  obtain ⟨x0, b0, rfl⟩ := u8_of h0
  obtain ⟨x1, b1, rfl⟩ := u8_of h1
  obtain ⟨x2, b2, rfl⟩ := u8_of h2
  exact ⟨x0, x1, x2, b0, b1, b2, rfl⟩
theorem threei_of {H : Type} {enc : TypeId × Value → H} {W : World} {r : Reach} {b0 : Nat} {v : Value} {d : DataW H} {p : List MemPlace} (hv : Value.okWide Try.prog W r b0 22 v) (h : DataW.Trod enc Try.prog W 0 (fun _ => true) true 22 v d p) :
    ∃ x0 x1 x2 : Int, (-9223372036854775808 ≤ x0 ∧ x0 ≤ 9223372036854775807) ∧ (-9223372036854775808 ≤ x1 ∧ x1 ≤ 9223372036854775807) ∧ (-9223372036854775808 ≤ x2 ∧ x2 ≤ 9223372036854775807) ∧ v = .agg #[.int .i64 x0, .int .i64 x1, .int .i64 x2] := by
  obtain ⟨cs, rfl, hsz⟩ := okWide_arr Try.underlying22 hv
  obtain ⟨c0, c1, c2, rfl⟩ := array3 (hsz.trans (show Try.prog.cellsOf 22 = 3 by kernel_rfl))
  obtain ⟨fuel, hf⟩ := h
  obtain ⟨y0, y1, y2, n, _, h0, h1, h2⟩ := trod_array3 Try.underlying22 cells3 (by simpa [Value.cells] using hf)
  obtain ⟨x0, b0, rfl⟩ := i64_of h0
  obtain ⟨x1, b1, rfl⟩ := i64_of h1
  obtain ⟨x2, b2, rfl⟩ := i64_of h2
  exact ⟨x0, x1, x2, b0, b1, b2, rfl⟩
theorem moves_of {H : Type} {enc : TypeId × Value → H} {W : World} {fuel : Nat} {a0 : Option Addr} {len0 cap0 : Nat} {x : DataW H × List MemPlace}
    (h : DataW.trod enc Try.prog W 0 (fun _ => true) true fuel 50 [.slice a0 len0 cap0] = some x) : ∃ ms, MsAt W a0 len0 ms ∧ len0 ≤ cap0 ∧ cap0 ≤ maxLen := by
  rcases open_slice Try.underlying50 h with ⟨hcs, _⟩ | ⟨a, len, cap, m, n, D, Pl, hcs, _, hl, hm, hmm, _, hi⟩
  · simp at hcs
    obtain ⟨rfl, rfl, rfl⟩ := hcs
    exact ⟨[], ⟨rfl, by simp⟩, Nat.le_refl _, Nat.zero_le _⟩
  · simp at hcs
    obtain ⟨rfl, rfl, rfl⟩ := hcs
    simp only [if_true] at hmm
    subst hmm
    have key : ∀ i, i < len0 → ∃ p : Nat × Nat, (p.1 < 256 ∧ p.2 < 256) ∧ ∃ ad, some a = some ad ∧ ad.block < W.heap.size ∧ W.cell? (ad.add (i * 2)) = some (.int .u8 p.1) ∧ W.cell? ⟨(ad.add (i * 2)).block, (ad.add (i * 2)).off + 1, none⟩ = some (.int .u8 p.2) := by
      intro i hil
      obtain ⟨cs', hc, ht⟩ := hi i (by omega)
      rw [cells75] at hc
      obtain ⟨_, hcl, hat⟩ := World.cells?_some hc
      match cs', hcl with
      | [v0, v1], _ =>
        obtain ⟨xs, n', _, _, _, hxl, hx⟩ := DataW.trod_array Try.underlying75 ht
        have f0 := hx 0 (by omega)
        have f1 := hx 1 (by omega)
        rw [cells5] at f0 f1
        have hy : ∀ j, j < 2 → ∃ y, xs[j]? = some y := fun j hj => ⟨_, List.getElem?_eq_getElem (by rw [hxl]; exact hj)⟩
        obtain ⟨y0, hy0⟩ := hy 0 (by omega)
        obtain ⟨y1, hy1⟩ := hy 1 (by omega)
        rw [hy0] at f0
        rw [hy1] at f1
        obtain ⟨k0, b0, rfl⟩ := u8_of f0
        obtain ⟨k1, b1, rfl⟩ := u8_of f1
        have c0 := hat 0 (by omega)
        have c1 := hat 1 (by omega)
        rw [addr_add_add] at c0 c1
        have hblk : a.block < W.heap.size := by
          have := block_lt_of_cell (c0.trans (show _ = some (Value.int .u8 (k0 : Int)) from rfl))
          rwa [addr_add_block] at this
        refine ⟨(k0, k1), ⟨b0, b1⟩, a, rfl, hblk, c0, ?_⟩
        rw [addr_succ] at c1
        exact c1
    obtain ⟨ms, h1, h2⟩ := list_of len0 _ key
    exact ⟨ms, ⟨h1, h2⟩, hl, hm⟩
/-- placements that were handed in: their nodes may be many -/
structure PA (w : World) (A : Option Addr) (n : Nat) (ps : List Pc) : Prop where
  len : ps.length = n
  at_ : ∀ (i : Nat) (p : Pc), ps[i]? = some p → (RdV w p.A p.n (p.l.map IV) ∧ (p.n ≤ 9223372036854775807) ∧ (-9223372036854775808 ≤ p.e ∧ p.e ≤ 9223372036854775807) ∧ ∀ x ∈ p.l, -9223372036854775808 ≤ x ∧ x ≤ 9223372036854775807) ∧ ∃ ad, A = some ad ∧ ad.block < w.heap.size ∧ ∀ j v, p.cells[j]? = some v → w.cell? (ad.add (i * 2 + j)) = some v
theorem ints_of {H : Type} {enc : TypeId × Value → H} {W : World} {n : Nat} {v : Value} {y : DataW H × List MemPlace} (h : DataW.trod enc Try.prog W 0 (fun _ => true) true n 28 [v] = some y) : ∃ (A : Option Addr) (len cap : Nat) (l : List Int), v = .slice A len cap ∧ RdV W A len (l.map IV) ∧ len ≤ cap ∧ cap ≤ maxLen ∧ ∀ x ∈ l, -9223372036854775808 ≤ x ∧ x ≤ 9223372036854775807 := by
  rcases open_slice Try.underlying28 h with ⟨hcs, _⟩ | ⟨a, len, cap, m, n, D, Pl, hcs, _, hl, hm, hmm, _, hi⟩
  · simp at hcs
    subst hcs
    exact ⟨none, 0, 0, [], rfl, RdV.nil _ _, Nat.le_refl _, Nat.zero_le _, by simp⟩
  · simp at hcs
    subst hcs
    simp only [if_true] at hmm
    have key : ∀ i, i < len → ∃ k : Int, (-9223372036854775808 ≤ k ∧ k ≤ 9223372036854775807) ∧ W.cell? (a.add i) = some (.int .i64 k) := by
      intro i hil
      obtain ⟨cs', hc, ht⟩ := hi i (by omega)
      rw [cells3] at hc
      obtain ⟨_, hcl, hat⟩ := World.cells?_some hc
      match cs', hcl with
      | [v0], _ =>
        obtain ⟨k, b, rfl⟩ := i64_of ht
        have c0 := hat 0 (by omega)
        rw [addr_add_add, Nat.mul_one, Nat.add_zero] at c0
        exact ⟨k, b, c0⟩
    obtain ⟨l, h1, h2⟩ := list_of len _ key
    refine ⟨some a, len, cap, l, rfl, ⟨by simpa using h1, fun h0 => ?_⟩, hl, hm, fun x hx => ?_⟩
    · obtain ⟨k, hk⟩ : ∃ k, l[0]? = some k := ⟨_, List.getElem?_eq_getElem (by omega)⟩
      have := block_lt_of_cell (h2 0 k hk).2
      rw [addr_add_block] at this
      refine ⟨a, rfl, this, fun j c hj => ?_⟩
      rw [List.getElem?_map, Option.map_eq_some_iff] at hj
      obtain ⟨k, hk, rfl⟩ := hj
      exact (h2 j k hk).2
    · obtain ⟨i, hi'⟩ := List.getElem?_of_mem hx
      exact (h2 i x hi').1
theorem places_of {H : Type} {enc : TypeId × Value → H} {W : World} {fuel : Nat} {a0 : Option Addr} {len0 cap0 : Nat} {x : DataW H × List MemPlace}
    (h : DataW.trod enc Try.prog W 0 (fun _ => true) true fuel 24 [.slice a0 len0 cap0] = some x) : ∃ ps, PA W a0 len0 ps ∧ len0 ≤ cap0 ∧ cap0 ≤ maxLen := by
  rcases open_slice Try.underlying24 h with ⟨hcs, _⟩ | ⟨a, len, cap, m, n, D, Pl, hcs, _, hl, hm, hmm, _, hi⟩
  · simp at hcs
    obtain ⟨rfl, rfl, rfl⟩ := hcs
    exact ⟨[], ⟨rfl, by simp⟩, Nat.le_refl _, Nat.zero_le _⟩
  · simp at hcs
    obtain ⟨rfl, rfl, rfl⟩ := hcs
    simp only [if_true] at hmm
    subst hmm
    have key : ∀ i, i < len0 → ∃ p : Pc, (RdV W p.A p.n (p.l.map IV) ∧ (p.n ≤ 9223372036854775807) ∧ (-9223372036854775808 ≤ p.e ∧ p.e ≤ 9223372036854775807) ∧ ∀ x ∈ p.l, -9223372036854775808 ≤ x ∧ x ≤ 9223372036854775807) ∧ ∃ ad, some a = some ad ∧ ad.block < W.heap.size ∧ ∀ j v, p.cells[j]? = some v → W.cell? (ad.add (i * 2 + j)) = some v := by
      intro i hil
      obtain ⟨cs', hc, ht⟩ := hi i (by omega)
      rw [cells30] at hc
      obtain ⟨_, hcl, hat⟩ := World.cells?_some hc
      obtain ⟨ys, n', _, _, _, hyl, hf⟩ := DataW.trod_struct Try.underlying30 ht
      match cs', hcl with
      | [v0, v1], _ =>
        have f0 : DataW.trod enc Try.prog W 0 (fun _ => true) true n' 3 (([v0, v1].drop 0).take (Try.prog.cellsOf 3)) = ys[0]? := hf 0 _ rfl
        have f1 : DataW.trod enc Try.prog W 0 (fun _ => true) true n' 28 (([v0, v1].drop 1).take (Try.prog.cellsOf 28)) = ys[1]? := hf 1 _ rfl
        have hy : ∀ j, j < 2 → ∃ y, ys[j]? = some y := fun j hj => ⟨_, List.getElem?_eq_getElem (by rw [hyl]; exact hj)⟩
        obtain ⟨y0, hy0⟩ := hy 0 (by omega)
        obtain ⟨y1, hy1⟩ := hy 1 (by omega)
        rw [hy0, cells3] at f0
        rw [hy1, cells28] at f1
        obtain ⟨ep, be, rfl⟩ := i64_of f0
        obtain ⟨X, nl, nc, l, rfl, hr, h1, h2, h3⟩ := ints_of f1
        have c0 := hat 0 (by omega)
        rw [addr_add_add] at c0
        have hblk : a.block < W.heap.size := by
          have := block_lt_of_cell (c0.trans (show _ = some (Value.int .i64 ep) from rfl))
          rwa [addr_add_block] at this
        refine ⟨⟨ep, X, nl, nc, l⟩, ⟨hr, by unfold maxLen at h2; show nl ≤ _; omega, be, h3⟩, a, rfl, hblk, fun j v hj => ?_⟩
        have hj2 : j < 2 := by have := (List.getElem?_eq_some_iff.1 hj).1; simpa [Pc.cells] using this
        have cj := hat j hj2
        rw [addr_add_add] at cj
        rw [cj]
        exact hj
    obtain ⟨ps, h1, h2⟩ := list_of len0 _ key
    exact ⟨ps, ⟨h1, h2⟩, hl, hm⟩
end Go.Proofs.Ytbilbfjmfaignaa
