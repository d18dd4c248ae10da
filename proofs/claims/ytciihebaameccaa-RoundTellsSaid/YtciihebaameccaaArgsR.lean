/- Arguments that are rounds, and arrays of four ints. -/
import Derived.Test.YtciihebaameccaaArgsO
namespace Go.Proofs.Ytciihebaameccaa
open Go.RowKit Go.Coop Go.ChangeShapes Go.WideShapes Go.Deep
set_option maxRecDepth 100000
theorem cells24 : Try.prog.cellsOf 24 = 1 := by kernel_rfl
theorem cells22 : Try.prog.cellsOf 22 = 4 := by kernel_rfl
theorem cells26 : Try.prog.cellsOf 26 = 5 := by kernel_rfl
theorem ints_of {H : Type} {enc : TypeId × Value → H} {W : World} {n : Nat} {v : Value} {y : DataW H × List MemPlace} (h : DataW.trod enc Try.prog W 0 (fun _ => true) true n 24 [v] = some y) : ∃ (A : Option Addr) (len cap : Nat) (l : List Int), v = .slice A len cap ∧ RdV W A len (l.map IV) ∧ len ≤ cap ∧ cap ≤ maxLen ∧ ∀ x ∈ l, -9223372036854775808 ≤ x ∧ x ≤ 9223372036854775807 := by
  rcases open_slice Try.underlying24 h with ⟨hcs, _⟩ | ⟨a, len, cap, m, n, D, Pl, hcs, _, hl, hm, hmm, _, hi⟩
  · simp at hcs
    subst hcs
    exact ⟨none, 0, 0, [], rfl, RdV.nil _ _, Nat.le_refl _, Nat.zero_le _, by simp⟩
  · simp at hcs
    subst hcs
    simp only [if_true] at hmm
    have key : ∀ i, i < len → ∃ k : Int, (-9223372036854775808 ≤ k ∧ k ≤ 9223372036854775807) ∧ W.cell? (a.add i) = some (.int .i64 k) := by
      intro i hil
      obtain ⟨cs', hc, ht⟩ := hi i (by omega)
      rw [cells3] at hc
      obtain ⟨_, hcl, hat⟩ := World.cells?_some hc
      match cs', hcl with
      | [v0], _ =>
        obtain ⟨k, b, rfl⟩ := i64_of ht
        have c0 := hat 0 (by omega)
        rw [addr_add_add, Nat.mul_one, Nat.add_zero] at c0
        exact ⟨k, b, c0⟩
    obtain ⟨l, h1, h2⟩ := list_of len _ key
    refine ⟨some a, len, cap, l, rfl, ⟨by simpa using h1, fun h0 => ?_⟩, hl, hm, fun x hx => ?_⟩
    · obtain ⟨k, hk⟩ : ∃ k, l[0]? = some k := ⟨_, List.getElem?_eq_getElem (by omega)⟩
      have := block_lt_of_cell (h2 0 k hk).2
      rw [addr_add_block] at this
      refine ⟨a, rfl, this, fun j c hj => ?_⟩
      rw [List.getElem?_map, Option.map_eq_some_iff] at hj
      obtain ⟨k, hk, rfl⟩ := hj
      exact (h2 j k hk).2
    · obtain ⟨i, hi'⟩ := List.getElem?_of_mem hx
      exact (h2 i x hi').1
theorem okWide_arr {n : Nat} {e t : TypeId} {w : World} {r : Reach} {base : Nat} {v : Value} (ht : Try.prog.underlying t = some (.array n e)) (h : Value.okWide Try.prog w r base t v) : ∃ cs, v = .agg cs ∧ cs.size = Try.prog.cellsOf t := by
  simp only [Value.okWide, ht] at h
  obtain ⟨cs, h1, h2, _⟩ := h
  exact ⟨cs, h1, h2⟩
theorem four {α : Type} {cs : Array α} (h : cs.size = 4) : ∃ c0 c1 c2 c3, cs = #[c0, c1, c2, c3] := by
  obtain ⟨l⟩ := cs
  match l, h with
  | [c0, c1, c2, c3], _ => exact ⟨c0, c1, c2, c3, rfl⟩
theorem four_of {H : Type} {enc : TypeId × Value → H} {W : World} {r : Reach} {b0 : Nat} {v : Value} {d : DataW H} {p : List MemPlace} (hv : Value.okWide Try.prog W r b0 22 v) (h : DataW.Trod enc Try.prog W 0 (fun _ => true) true 22 v d p) :
    ∃ x0 x1 x2 x3 : Int, v = .agg #[.int .i64 x0, .int .i64 x1, .int .i64 x2, .int .i64 x3] := by
  obtain ⟨cs, rfl, hsz⟩ := okWide_arr Try.underlying22 hv
  obtain ⟨c0, c1, c2, c3, rfl⟩ := four (hsz.trans cells22)
  obtain ⟨fuel, hf⟩ := h
  obtain ⟨xs, n', _, _, _, hxl, hx⟩ := DataW.trod_array Try.underlying22 (by simpa [Value.cells] using hf)
  have f0 := hx 0 (by omega)
  have f1 := hx 1 (by omega)
  have f2 := hx 2 (by omega)
  have f3 := hx 3 (by omega)
  rw [cells3] at f0 f1 f2 f3
  have hy : ∀ j, j < 4 → ∃ y, xs[j]? = some y := fun j hj => ⟨_, List.getElem?_eq_getElem (by rw [hxl]; exact hj)⟩
  obtain ⟨y0, hy0⟩ := hy 0 (by omega)
  obtain ⟨y1, hy1⟩ := hy 1 (by omega)
  obtain ⟨y2, hy2⟩ := hy 2 (by omega)
  obtain ⟨y3, hy3⟩ := hy 3 (by omega)
  rw [hy0] at f0
  rw [hy1] at f1
  rw [hy2] at f2
  rw [hy3] at f3
  obtain ⟨x0, _, rfl⟩ := i64_of (by simpa using f0)
  obtain ⟨x1, _, rfl⟩ := i64_of (by simpa using f1)
  obtain ⟨x2, _, rfl⟩ := i64_of (by simpa using f2)
  obtain ⟨x3, _, rfl⟩ := i64_of (by simpa using f3)
  exact ⟨x0, x1, x2, x3, rfl⟩
theorem five {α : Type} {cs : Array α} (h : cs.size = 5) : ∃ c0 c1 c2 c3 c4, cs = #[c0, c1, c2, c3, c4] := by
  obtain ⟨l⟩ := cs
  match l, h with
  | [c0, c1, c2, c3, c4], _ => exact ⟨c0, c1, c2, c3, c4, rfl⟩
theorem round_of {H : Type} {enc : TypeId × Value → H} {W : World} {r : Reach} {b0 : Nat} {v : Value} {d : DataW H} {p : List MemPlace} (hv : Value.okWide Try.prog W r b0 26 v) (h : DataW.Trod enc Try.prog W 0 (fun _ => true) true 26 v d p) :
    ∃ (s vv need ph : Int) (A : Option Addr) (n c : Nat) (ms : List Int), v = .agg #[.int .i64 s, .int .i64 vv, .int .i64 need, .int .i64 ph, .slice A n c] ∧ RdV W A n (ms.map IV) := by
  obtain ⟨cs, rfl, hsz⟩ := okWide_struct Try.underlying26 hv
  obtain ⟨c0, c1, c2, c3, c4, rfl⟩ := five (hsz.trans cells26)
  obtain ⟨fuel, hf⟩ := h
  obtain ⟨xs, n, _, _, hl, hlen, hf⟩ := DataW.trod_struct Try.underlying26 hf
  match xs, hlen with
  | [y0, y1, y2, y3, y4], _ =>
    have h0 : DataW.trod enc Try.prog W 0 (fun _ => true) true n 3 [c0] = some y0 := by simpa [Value.cells, cells3] using hf 0 _ rfl
    have h1 : DataW.trod enc Try.prog W 0 (fun _ => true) true n 3 [c1] = some y1 := by simpa [Value.cells, cells3] using hf 1 _ rfl
    have h2 : DataW.trod enc Try.prog W 0 (fun _ => true) true n 3 [c2] = some y2 := by simpa [Value.cells, cells3] using hf 2 _ rfl
    have h3 : DataW.trod enc Try.prog W 0 (fun _ => true) true n 3 [c3] = some y3 := by simpa [Value.cells, cells3] using hf 3 _ rfl
    have h4 : DataW.trod enc Try.prog W 0 (fun _ => true) true n 24 [c4] = some y4 := by simpa [Value.cells, cells24] using hf 4 _ rfl
    obtain ⟨K0, _, rfl⟩ := i64_of h0
    obtain ⟨K1, _, rfl⟩ := i64_of h1
    obtain ⟨K2, _, rfl⟩ := i64_of h2
    obtain ⟨K3, _, rfl⟩ := i64_of h3
    obtain ⟨A, n, c, l, rfl, hr, _⟩ := ints_of h4
    exact ⟨K0, K1, K2, K3, A, n, c, l, rfl, hr⟩
end Go.Proofs.Ytciihebaameccaa
