/- Arguments as the rows hand them over: an ask, a tell, four bytes. -/
import Derived.Test.YtmiapegecoaccaaWirK
import Derived.Test.YtmiapegecoaccaaArgs
import Derived.Deep.Slices
import Derived.Deep.Fields
import Derived.Lib.SmallJoins
import Derived.OpenShut
import Derived.Laws.IdiomArrays
namespace Go.Proofs.Ytmiapegecoaccaa
open Go.RowKit Go.Coop Go.ChangeShapes Go.WideShapes Go.Deep
set_option maxRecDepth 100000
theorem list_of {α : Type} (n : Nat) (Q : Nat → α → Prop) (h : ∀ i, i < n → ∃ p, Q i p) : ∃ l : List α, l.length = n ∧ ∀ (i : Nat) (p : α), l[i]? = some p → Q i p := by
  induction n with
  | zero => exact ⟨[], rfl, by simp⟩
  | succ n ih =>
    obtain ⟨l, hl, hq⟩ := ih (fun i hi => h i (by omega))
    obtain ⟨p, hp⟩ := h n (by omega)
    refine ⟨l ++ [p], by simp [hl], fun i q hi => ?_⟩
    rw [List.getElem?_append] at hi
    split at hi
    · exact hq i q hi
    · rename_i hge
      have h0 : i - l.length = 0 := by
        have := (List.getElem?_eq_some_iff.1 hi).1
        simp at this
        omega
      rw [h0] at hi
      simp at hi
      subst hi
      have : i = n := by omega
      rw [this]
      exact hp
theorem cells3 : Try.prog.cellsOf 3 = 1 := by kernel_rfl
theorem cells5 : Try.prog.cellsOf 5 = 1 := by kernel_rfl
theorem cells22 : Try.prog.cellsOf 22 = 1 := by kernel_rfl
theorem cells23 : Try.prog.cellsOf 23 = 1 := by kernel_rfl
theorem cells28 : Try.prog.cellsOf 28 = 1 := by kernel_rfl
theorem cells30 : Try.prog.cellsOf 30 = 4 := by kernel_rfl
theorem cells31 : Try.prog.cellsOf 31 = 1 := by kernel_rfl
theorem cells32 : Try.prog.cellsOf 32 = 1 := by kernel_rfl
theorem array7 {α : Type} {cs : Array α} (h : cs.size = 7) : ∃ c0 c1 c2 c3 c4 c5 c6, cs = #[c0, c1, c2, c3, c4, c5, c6] := by
  obtain ⟨l⟩ := cs
  match l, h with
  | [c0, c1, c2, c3, c4, c5, c6], _ => exact ⟨c0, c1, c2, c3, c4, c5, c6, rfl⟩
theorem array4 {α : Type} {cs : Array α} (h : cs.size = 4) : ∃ c0 c1 c2 c3, cs = #[c0, c1, c2, c3] := by
  obtain ⟨l⟩ := cs
  match l, h with
  | [c0, c1, c2, c3], _ => exact ⟨c0, c1, c2, c3, rfl⟩
theorem i64_of {t : TypeId} (hu : Try.prog.underlying t = some (.int .i64)) {H : Type} {enc : TypeId × Value → H} {W : World} {n : Nat} {v : Value} {y : DataW H × List MemPlace} (h : DataW.trod enc Try.prog W 0 (fun _ => true) true n t [v] = some y) : ∃ k : Int, v = .int .i64 k := by
  obtain ⟨N, e0, _, wN⟩ := DataW.trod_int hu h
  exact ⟨N, by simpa using e0⟩
theorem u8_of {t : TypeId} (hu : Try.prog.underlying t = some (.int .u8)) {H : Type} {enc : TypeId × Value → H} {W : World} {n : Nat} {v : Value} {y : DataW H × List MemPlace} (h : DataW.trod enc Try.prog W 0 (fun _ => true) true n t [v] = some y) : ∃ k : Nat, k < 256 ∧ v = .int .u8 (k : Int) := by
  obtain ⟨N, e0, _, wN⟩ := DataW.trod_int hu h
  simp [Lit.wf, IntKind.min, IntKind.max, IntKind.signed, IntKind.bits] at wN
  refine ⟨N.toNat, by omega, ?_⟩
  rw [Int.toNat_of_nonneg (by omega)]
  simpa using e0
theorem bytes_of {H : Type} {enc : TypeId × Value → H} {W : World} {n : Nat} {v : Value} {y : DataW H × List MemPlace} (h : DataW.trod enc Try.prog W 0 (fun _ => true) true n 23 [v] = some y) : ∃ (B : Option Addr) (len cap : Nat) (l : List UInt8), v = .slice B len cap ∧ Rd W B len l ∧ len ≤ cap ∧ cap ≤ maxLen := by
  rcases open_ints Try.underlying23 Try.underlying5 (by kernel_rfl) h with ⟨hcs, _⟩ | ⟨x, l, c, zs, hcs, _, hl2, hm2, hz, _, hcell, hwz⟩
  · exact ⟨none, 0, 0, [], by simpa using hcs, Rd.nil _ _, Nat.le_refl _, Nat.zero_le _⟩
  · obtain ⟨pl, h1, h2, h3⟩ := rd_of_row (w := W) (a := some x) (len := l) (cap := c) (zs := zs) (.inr ⟨x, rfl, hl2, hm2, by simpa using hz, hcell, hwz⟩)
    exact ⟨some x, l, c, pl, by simpa using hcs, h1, h2, h3⟩
theorem infos_of {H : Type} {enc : TypeId × Value → H} {W : World} {n : Nat} {v : Value} {y : DataW H × List MemPlace} (h : DataW.trod enc Try.prog W 0 (fun _ => true) true n 32 [v] = some y) : ∃ (A : Option Addr) (len cap : Nat) (L : List InfP), v = .slice A len cap ∧ IL W A len L ∧ len ≤ cap ∧ cap ≤ maxLen := by
  rcases open_slice Try.underlying32 h with ⟨hcs, _⟩ | ⟨a, len, cap, m, n, D, Pl, hcs, _, hl, hm, hmm, _, hi⟩
  · simp at hcs
    subst hcs
    exact ⟨none, 0, 0, [], rfl, IL.nil _ _, Nat.le_refl _, Nat.zero_le _⟩
  · simp at hcs
    subst hcs
    simp only [if_true] at hmm
    subst hmm
    have key : ∀ i, i < len → ∃ p : InfP, ∃ ad, some a = some ad ∧ ad.block < W.heap.size ∧ ∀ j v, (icells p)[j]? = some v → W.cell? (ad.add (i * 4 + j)) = some v := by
      intro i hil
      obtain ⟨cs', hc, ht⟩ := hi i (by omega)
      rw [cells30] at hc
      obtain ⟨_, hcl, hat⟩ := World.cells?_some hc
      obtain ⟨ys, n', _, _, _, hyl, hf⟩ := DataW.trod_struct Try.underlying30 ht
      match cs', hcl with
      | [v0, v1, v2, v3], _ =>
        have f0 : DataW.trod enc Try.prog W 0 (fun _ => true) true n' 3 (([v0, v1, v2, v3].drop 0).take (Try.prog.cellsOf 3)) = ys[0]? := hf 0 _ rfl
        have f1 : DataW.trod enc Try.prog W 0 (fun _ => true) true n' 3 (([v0, v1, v2, v3].drop 1).take (Try.prog.cellsOf 3)) = ys[1]? := hf 1 _ rfl
        have f2 : DataW.trod enc Try.prog W 0 (fun _ => true) true n' 3 (([v0, v1, v2, v3].drop 2).take (Try.prog.cellsOf 3)) = ys[2]? := hf 2 _ rfl
        have f3 : DataW.trod enc Try.prog W 0 (fun _ => true) true n' 28 (([v0, v1, v2, v3].drop 3).take (Try.prog.cellsOf 28)) = ys[3]? := hf 3 _ rfl
        have hy : ∀ j, j < 4 → ∃ y, ys[j]? = some y := fun j hj => ⟨_, List.getElem?_eq_getElem (by rw [hyl]; exact hj)⟩
        obtain ⟨y0, hy0⟩ := hy 0 (by omega)
        obtain ⟨y1, hy1⟩ := hy 1 (by omega)
        obtain ⟨y2, hy2⟩ := hy 2 (by omega)
        obtain ⟨y3, hy3⟩ := hy 3 (by omega)
        rw [hy0, cells3] at f0
        rw [hy1, cells3] at f1
        rw [hy2, cells3] at f2
        rw [hy3, cells28] at f3
        obtain ⟨k0, rfl⟩ := i64_of Try.underlying3 f0
        obtain ⟨k1, rfl⟩ := i64_of Try.underlying3 f1
        obtain ⟨k2, rfl⟩ := i64_of Try.underlying3 f2
        obtain ⟨k3, b3, rfl⟩ := u8_of Try.underlying28 f3
        have c0 := hat 0 (by omega)
        rw [addr_add_add] at c0
        have hblk : a.block < W.heap.size := by
          have := block_lt_of_cell (c0.trans (show _ = some (Value.int .i64 k0) from rfl))
          rwa [addr_add_block] at this
        refine ⟨⟨k0, k1, k2, k3⟩, a, rfl, hblk, fun j v hj => ?_⟩
        have hj2 : j < 4 := by have := (List.getElem?_eq_some_iff.1 hj).1; simpa [icells] using this
        have cj := hat j hj2
        rw [addr_add_add] at cj
        rw [cj]
        exact hj
    obtain ⟨ps, h1, h2⟩ := list_of len _ key
    exact ⟨some a, len, _, ps, rfl, ⟨h1, h2⟩, hl, hm⟩
theorem ask_of {H : Type} {enc : TypeId × Value → H} {W : World} {r : Reach} {b0 : Nat} {v : Value} {d : DataW H} {p : List MemPlace} (hv : Value.okWide Try.prog W r b0 25 v) (h : DataW.Trod enc Try.prog W 0 (fun _ => true) true 25 v d p) :
    ∃ (l s o st i ve : Int) (A : Option Addr) (n c : Nat) (bs : List UInt8), v = .agg #[.int .i64 l, .int .i64 s, .int .u8 o, .int .i64 st, .int .i64 i, .int .i64 ve, .slice A n c] ∧ Rd W A n bs ∧ n ≤ c ∧ c ≤ maxLen := by
  obtain ⟨cs, rfl, hsz⟩ := okWide_struct Try.underlying25 hv
  obtain ⟨c0, c1, c2, c3, c4, c5, c6, rfl⟩ := array7 (hsz.trans (show Try.prog.cellsOf 25 = 7 by kernel_rfl))
  obtain ⟨fuel, hf⟩ := h
  obtain ⟨xs, n, _, _, hl, hlen, hf⟩ := DataW.trod_struct Try.underlying25 hf
  match xs, hlen with
  | [y0, y1, y2, y3, y4, y5, y6], _ =>
    have h0 : DataW.trod enc Try.prog W 0 (fun _ => true) true n 3 [c0] = some y0 := by simpa [Value.cells, cells3] using hf 0 _ rfl
    have h1 : DataW.trod enc Try.prog W 0 (fun _ => true) true n 3 [c1] = some y1 := by simpa [Value.cells, cells3] using hf 1 _ rfl
    have h2 : DataW.trod enc Try.prog W 0 (fun _ => true) true n 22 [c2] = some y2 := by simpa [Value.cells, cells22] using hf 2 _ rfl
    have h3 : DataW.trod enc Try.prog W 0 (fun _ => true) true n 3 [c3] = some y3 := by simpa [Value.cells, cells3] using hf 3 _ rfl
    have h4 : DataW.trod enc Try.prog W 0 (fun _ => true) true n 3 [c4] = some y4 := by simpa [Value.cells, cells3] using hf 4 _ rfl
    have h5 : DataW.trod enc Try.prog W 0 (fun _ => true) true n 3 [c5] = some y5 := by simpa [Value.cells, cells3] using hf 5 _ rfl
    have h6 : DataW.trod enc Try.prog W 0 (fun _ => true) true n 23 [c6] = some y6 := by simpa [Value.cells, cells23] using hf 6 _ rfl
    obtain ⟨k0, rfl⟩ := i64_of Try.underlying3 h0
    obtain ⟨k1, rfl⟩ := i64_of Try.underlying3 h1
    obtain ⟨k2, b2, rfl⟩ := u8_of Try.underlying22 h2
    obtain ⟨k3, rfl⟩ := i64_of Try.underlying3 h3
    obtain ⟨k4, rfl⟩ := i64_of Try.underlying3 h4
    obtain ⟨k5, rfl⟩ := i64_of Try.underlying3 h5
    obtain ⟨B, len, cap, l, rfl, hr, h1', h2'⟩ := bytes_of h6
    exact ⟨k0, k1, k2, k3, k4, k5, B, len, cap, l, rfl, hr, h1', h2'⟩
theorem tell_of {H : Type} {enc : TypeId × Value → H} {W : World} {r : Reach} {b0 : Nat} {v : Value} {d : DataW H} {p : List MemPlace} (hv : Value.okWide Try.prog W r b0 34 v) (h : DataW.Trod enc Try.prog W 0 (fun _ => true) true 34 v d p) :
    ∃ (l s o er room : Int) (I : Option Addr) (m mc : Nat) (L : List InfP) (A : Option Addr) (n c : Nat) (bs : List UInt8), v = .agg #[.int .i64 l, .int .i64 s, .int .u8 o, .int .i64 er, .slice I m mc, .slice A n c, .int .i64 room] ∧ IL W I m L ∧ Rd W A n bs := by
  obtain ⟨cs, rfl, hsz⟩ := okWide_struct Try.underlying34 hv
  obtain ⟨c0, c1, c2, c3, c4, c5, c6, rfl⟩ := array7 (hsz.trans (show Try.prog.cellsOf 34 = 7 by kernel_rfl))
  obtain ⟨fuel, hf⟩ := h
  obtain ⟨xs, n, _, _, hl, hlen, hf⟩ := DataW.trod_struct Try.underlying34 hf
  match xs, hlen with
  | [y0, y1, y2, y3, y4, y5, y6], _ =>
    have h0 : DataW.trod enc Try.prog W 0 (fun _ => true) true n 3 [c0] = some y0 := by simpa [Value.cells, cells3] using hf 0 _ rfl
    have h1 : DataW.trod enc Try.prog W 0 (fun _ => true) true n 3 [c1] = some y1 := by simpa [Value.cells, cells3] using hf 1 _ rfl
    have h2 : DataW.trod enc Try.prog W 0 (fun _ => true) true n 22 [c2] = some y2 := by simpa [Value.cells, cells22] using hf 2 _ rfl
    have h3 : DataW.trod enc Try.prog W 0 (fun _ => true) true n 31 [c3] = some y3 := by simpa [Value.cells, cells31] using hf 3 _ rfl
    have h4 : DataW.trod enc Try.prog W 0 (fun _ => true) true n 32 [c4] = some y4 := by simpa [Value.cells, cells32] using hf 4 _ rfl
    have h5 : DataW.trod enc Try.prog W 0 (fun _ => true) true n 23 [c5] = some y5 := by simpa [Value.cells, cells23] using hf 5 _ rfl
    have h6 : DataW.trod enc Try.prog W 0 (fun _ => true) true n 3 [c6] = some y6 := by simpa [Value.cells, cells3] using hf 6 _ rfl
    obtain ⟨k0, rfl⟩ := i64_of Try.underlying3 h0
    obtain ⟨k1, rfl⟩ := i64_of Try.underlying3 h1
    obtain ⟨k2, b2, rfl⟩ := u8_of Try.underlying22 h2
    obtain ⟨k3, rfl⟩ := i64_of Try.underlying31 h3
    obtain ⟨I, m, mc, L, rfl, hI, _, _⟩ := infos_of h4
    obtain ⟨B, len, cap, l, rfl, hr, _, _⟩ := bytes_of h5
    obtain ⟨k6, rfl⟩ := i64_of Try.underlying3 h6
    exact ⟨k0, k1, k2, k3, k6, I, m, mc, L, B, len, cap, l, rfl, hI, hr⟩
theorem okWide_arr {n : Nat} {e t : TypeId} {w : World} {r : Reach} {base : Nat} {v : Value} (ht : Try.prog.underlying t = some (.array n e)) (h : Value.okWide Try.prog w r base t v) : ∃ cs, v = .agg cs ∧ cs.size = Try.prog.cellsOf t := by
  simp only [Value.okWide, ht] at h
  obtain ⟨cs, h1, h2, _⟩ := h
  exact ⟨cs, h1, h2⟩
end Go.Proofs.Ytmiapegecoaccaa
