/- An argument that is a slice of parcels, as the rows hand it over. -/
import Derived.Test.YtfibkpjodhcppaaParcels
import Derived.Test.YtfibkpjodhcppaaArgs
import Derived.Deep.Slices
import Derived.Deep.Fields
import Derived.OpenShut
namespace Go.Proofs.Ytfibkpjodhcppaa
open Go.RowKit Go.Coop Go.ChangeShapes Go.WideShapes Go.Deep

theorem list_of {α : Type} (n : Nat) (Q : Nat → α → Prop) (h : ∀ i, i < n → ∃ p, Q i p) : ∃ l : List α, l.length = n ∧ ∀ (i : Nat) (p : α), l[i]? = some p → Q i p := by
  induction n with
  | zero => exact ⟨[], rfl, by simp⟩
  | succ n ih =>
    obtain ⟨l, hl, hq⟩ := ih (fun i hi => h i (by omega))
    obtain ⟨p, hp⟩ := h n (by omega)
    refine ⟨l ++ [p], by simp [hl], fun i q hi => ?_⟩
    rw [List.getElem?_append] at hi
    split at hi
    · exact hq i q hi
    · rename_i hge
      have h0 : i - l.length = 0 := by
        have := (List.getElem?_eq_some_iff.1 hi).1
        simp at this
        omega
      rw [h0] at hi
      simp at hi
      subst hi
      have : i = n := by omega
      rw [this]
      exact hp

theorem cells51 : Try.prog.cellsOf 51 = 3 := by kernel_rfl
theorem cells32 : Try.prog.cellsOf 32 = 1 := by kernel_rfl

theorem prd_of {H : Type} {enc : TypeId × Value → H} {W : World} {fuel : Nat} {a0 : Option Addr} {len0 cap0 : Nat} {x : DataW H × List MemPlace}
    (h : DataW.trod enc Try.prog W 0 (fun _ => true) true fuel 49 [.slice a0 len0 cap0] = some x) : ∃ ps, PRd W a0 len0 ps ∧ len0 ≤ cap0 ∧ cap0 ≤ maxLen := by
  rcases open_slice Try.underlying49 h with ⟨hcs, _⟩ | ⟨a, len, cap, m, n, D, Pl, hcs, _, hl, hm, hmm, _, hi⟩
  · simp at hcs
    obtain ⟨rfl, rfl, rfl⟩ := hcs
    exact ⟨[], ⟨rfl, by simp⟩, Nat.le_refl _, Nat.zero_le _⟩
  · simp at hcs
    obtain ⟨rfl, rfl, rfl⟩ := hcs
    simp only [if_true] at hmm
    subst hmm
    have key : ∀ i, i < len0 → ∃ p : Par, p.Ok W ∧ ∃ ad, some a = some ad ∧ ad.block < W.heap.size ∧ W.cell? (ad.add (i * 3)) = some (.int .u64 (p.N : Int)) ∧ W.cell? (ad.add (i * 3 + 1)) = some (.slice p.B p.n p.c) ∧ W.cell? (ad.add (i * 3 + 2)) = some (.bool p.s) := by
      intro i hil
      obtain ⟨cs', hc, ht⟩ := hi i (by omega)
      rw [cells51] at hc
      obtain ⟨_, hcl, hat⟩ := World.cells?_some hc
      obtain ⟨ys, n', _, _, _, hyl, hf⟩ := DataW.trod_struct Try.underlying51 ht
      match cs', hcl with
      | [v0, v1, v2], _ =>
        have f0 : DataW.trod enc Try.prog W 0 (fun _ => true) true n' 27 (([v0, v1, v2].drop 0).take (Try.prog.cellsOf 27)) = ys[0]? := hf 0 _ rfl
        have f1 : DataW.trod enc Try.prog W 0 (fun _ => true) true n' 32 (([v0, v1, v2].drop 1).take (Try.prog.cellsOf 32)) = ys[1]? := hf 1 _ rfl
        have f2 : DataW.trod enc Try.prog W 0 (fun _ => true) true n' 4 (([v0, v1, v2].drop 2).take (Try.prog.cellsOf 4)) = ys[2]? := hf 2 _ rfl
        have hy0 : ∃ y, ys[0]? = some y := ⟨_, List.getElem?_eq_getElem (by rw [hyl]; decide)⟩
        have hy1 : ∃ y, ys[1]? = some y := ⟨_, List.getElem?_eq_getElem (by rw [hyl]; decide)⟩
        have hy2 : ∃ y, ys[2]? = some y := ⟨_, List.getElem?_eq_getElem (by rw [hyl]; decide)⟩
        obtain ⟨y0, hy0⟩ := hy0
        obtain ⟨y1, hy1⟩ := hy1
        obtain ⟨y2, hy2⟩ := hy2
        rw [hy0, show Try.prog.cellsOf 27 = 1 from by kernel_rfl] at f0
        rw [hy1, cells32] at f1
        rw [hy2, show Try.prog.cellsOf 4 = 1 from by kernel_rfl] at f2
        obtain ⟨N, e0, _, wN⟩ := DataW.trod_int Try.underlying27 f0
        obtain ⟨b, e2, _⟩ := DataW.trod_bool Try.underlying4 f2
        simp at e0 e2
        subst e0 e2
        have c0 := hat 0 (by omega)
        have c1 := hat 1 (by omega)
        have c2 := hat 2 (by omega)
        rw [addr_add_add] at c0 c1 c2
        have hblk : a.block < W.heap.size := by
          have := block_lt_of_cell (by simpa using c0)
          rwa [addr_add_block] at this
        have hN : 0 ≤ N ∧ N ≤ 18446744073709551615 := by
          simp [Lit.wf, IntKind.min, IntKind.max, IntKind.signed, IntKind.bits] at wN
          omega
        obtain ⟨B, pn, pc, pl, rfl, hr, hc1⟩ : ∃ B pn pc pl, v1 = .slice B pn pc ∧ Rd W B pn pl ∧ pn ≤ pc := by
          rcases open_ints Try.underlying32 Try.underlying5 (by kernel_rfl) f1 with ⟨hcs, _⟩ | ⟨x, l, c, zs, hcs, _, hl2, hm2, hz, _, hcell, hwz⟩
          · simp at hcs
            subst hcs
            exact ⟨none, 0, 0, [], rfl, Rd.nil _ _, Nat.le_refl _⟩
          · simp at hcs
            subst hcs
            obtain ⟨pl, h1, h2, _⟩ := rd_of_row (w := W) (a := some x) (len := l) (cap := c) (zs := zs) (.inr ⟨x, rfl, hl2, hm2, by simpa using hz, hcell, hwz⟩)
            exact ⟨some x, l, c, pl, rfl, h1, h2⟩
        refine ⟨⟨N.toNat, B, pn, pc, pl, b⟩, ⟨by simp; omega, hc1, hr⟩, a, rfl, hblk, ?_, ?_, ?_⟩
        · simpa [Int.toNat_of_nonneg hN.1] using c0
        · simpa using c1
        · simpa using c2
    obtain ⟨ps, h1, h2⟩ := list_of len0 _ key
    exact ⟨ps, ⟨h1, h2⟩, hl, hm⟩
end Go.Proofs.Ytfibkpjodhcppaa
