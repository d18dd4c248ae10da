/- Arguments that are slices of bools, of numbers, of slices of bytes, as the rows hand them over. -/
import Derived.Test.YtobbjeephmfdeaaMtxL
import Derived.Test.YtobbjeephmfdeaaArgs
import Derived.Deep.Slices
import Derived.OpenShut
namespace Go.Proofs.Ytobbjeephmfdeaa
open Go.RowKit Go.Coop Go.ChangeShapes Go.WideShapes Go.Deep
set_option maxRecDepth 100000

theorem list_of {α : Type} (n : Nat) (Q : Nat → α → Prop) (h : ∀ i, i < n → ∃ p, Q i p) : ∃ l : List α, l.length = n ∧ ∀ (i : Nat) (p : α), l[i]? = some p → Q i p := by
  induction n with
  | zero => exact ⟨[], rfl, by simp⟩
  | succ n ih =>
    obtain ⟨l, hl, hq⟩ := ih (fun i hi => h i (by omega))
    obtain ⟨p, hp⟩ := h n (by omega)
    refine ⟨l ++ [p], by simp [hl], fun i q hi => ?_⟩
    rw [List.getElem?_append] at hi
    split at hi
    · exact hq i q hi
    · rename_i hge
      have h0 : i - l.length = 0 := by
        have := (List.getElem?_eq_some_iff.1 hi).1
        simp at this
        omega
      rw [h0] at hi
      simp at hi
      subst hi
      have : i = n := by omega
      rw [this]
      exact hp
theorem cells4 : Try.prog.cellsOf 4 = 1 := by kernel_rfl
theorem cells3 : Try.prog.cellsOf 3 = 1 := by kernel_rfl
theorem cells31 : Try.prog.cellsOf 31 = 1 := by kernel_rfl
/-- a row of cells of which each is known -/
theorem rdv_of {α : Type} {W : World} {a : Addr} {n : Nat} (f : α → Value) (h : ∀ i, i < n → ∃ p : α, W.cell? (a.add i) = some (f p)) : ∃ l : List α, RdV W (some a) n (l.map f) := by
  obtain ⟨l, hl, hq⟩ := list_of n _ h
  refine ⟨l, by simp [hl], fun h0 => ⟨a, rfl, ?_, fun j v hj => ?_⟩⟩
  · obtain ⟨p, hp⟩ := h 0 h0
    have := block_lt_of_cell hp
    rwa [addr_add_block] at this
  · simp only [List.getElem?_map, Option.map_eq_some_iff] at hj
    obtain ⟨p, hp, rfl⟩ := hj
    exact hq j p hp
theorem bools_of {H : Type} {enc : TypeId × Value → H} {W : World} {fuel : Nat} {a0 : Option Addr} {len0 cap0 : Nat} {x : DataW H × List MemPlace}
    (h : DataW.trod enc Try.prog W 0 (fun _ => true) true fuel 101 [.slice a0 len0 cap0] = some x) : ∃ fl : List Bool, RdV W a0 len0 (fl.map Value.bool) ∧ len0 ≤ cap0 ∧ cap0 ≤ maxLen := by
  rcases open_slice Try.underlying101 h with ⟨hcs, _⟩ | ⟨a, len, cap, m, n, D, Pl, hcs, _, hl, hm, hmm, _, hi⟩
  · simp at hcs
    obtain ⟨rfl, rfl, rfl⟩ := hcs
    exact ⟨[], RdV.nil _ _, Nat.le_refl _, Nat.zero_le _⟩
  · simp at hcs
    obtain ⟨rfl, rfl, rfl⟩ := hcs
    simp only [if_true] at hmm
    subst hmm
    obtain ⟨l, hr⟩ := rdv_of (W := W) (a := a) (n := len0) Value.bool (by
      intro i hil
      obtain ⟨cs', hc, ht⟩ := hi i (by omega)
      rw [cells4] at hc
      obtain ⟨_, hcl, hat⟩ := World.cells?_some hc
      obtain ⟨b, e2, _⟩ := DataW.trod_bool Try.underlying4 ht
      have c0 := hat 0 (by omega)
      rw [addr_add_add] at c0
      subst e2
      exact ⟨b, by simpa using c0⟩)
    exact ⟨l, hr, hl, hm⟩
theorem ints_of {H : Type} {enc : TypeId × Value → H} {W : World} {fuel : Nat} {a0 : Option Addr} {len0 cap0 : Nat} {x : DataW H × List MemPlace}
    (h : DataW.trod enc Try.prog W 0 (fun _ => true) true fuel 38 [.slice a0 len0 cap0] = some x) : ∃ ls : List Int, RdV W a0 len0 (ls.map (Value.int .i64)) ∧ (∀ x ∈ ls, -9223372036854775808 ≤ x ∧ x ≤ 9223372036854775807) ∧ len0 ≤ cap0 ∧ cap0 ≤ maxLen := by
  rcases open_slice Try.underlying38 h with ⟨hcs, _⟩ | ⟨a, len, cap, m, n, D, Pl, hcs, _, hl, hm, hmm, _, hi⟩
  · simp at hcs
    obtain ⟨rfl, rfl, rfl⟩ := hcs
    exact ⟨[], RdV.nil _ _, fun x hx => by simp at hx, Nat.le_refl _, Nat.zero_le _⟩
  · simp at hcs
    obtain ⟨rfl, rfl, rfl⟩ := hcs
    simp only [if_true] at hmm
    subst hmm
    obtain ⟨l, hl2, hq⟩ := list_of len0 (fun i (p : Int) => W.cell? (a.add i) = some (.int .i64 p) ∧ -9223372036854775808 ≤ p ∧ p ≤ 9223372036854775807) (by
      intro i hil
      obtain ⟨cs', hc, ht⟩ := hi i (by omega)
      rw [cells3] at hc
      obtain ⟨_, hcl, hat⟩ := World.cells?_some hc
      obtain ⟨N, e0, _, wN⟩ := DataW.trod_int Try.underlying3 ht
      have c0 := hat 0 (by omega)
      rw [addr_add_add] at c0
      subst e0
      refine ⟨N, by simpa using c0, ?_⟩
      simp [Lit.wf, IntKind.min, IntKind.max, IntKind.signed, IntKind.bits] at wN
      omega)
    refine ⟨l, ⟨by simp [hl2], fun h0 => ⟨a, rfl, ?_, fun j v hj => ?_⟩⟩, fun x hx => ?_, hl, hm⟩
    · obtain ⟨p, hp⟩ : ∃ p, l[0]? = some p := ⟨_, List.getElem?_eq_getElem (by omega)⟩
      have := block_lt_of_cell (hq 0 p hp).1
      rwa [addr_add_block] at this
    · simp only [List.getElem?_map, Option.map_eq_some_iff] at hj
      obtain ⟨p, hp, rfl⟩ := hj
      exact (hq j p hp).1
    · obtain ⟨i, hi⟩ := List.mem_iff_getElem?.1 hx
      exact (hq i x hi).2
theorem mr_of {H : Type} {enc : TypeId × Value → H} {W : World} {fuel : Nat} {a0 : Option Addr} {len0 cap0 : Nat} {x : DataW H × List MemPlace}
    (h : DataW.trod enc Try.prog W 0 (fun _ => true) true fuel 47 [.slice a0 len0 cap0] = some x) : ∃ M : List (List UInt8), MR W a0 len0 M ∧ (∀ r ∈ M, r.length ≤ maxLen) ∧ len0 ≤ cap0 ∧ cap0 ≤ maxLen := by
  rcases open_slice Try.underlying47 h with ⟨hcs, _⟩ | ⟨a, len, cap, m, n, D, Pl, hcs, _, hl, hm, hmm, _, hi⟩
  · simp at hcs
    obtain ⟨rfl, rfl, rfl⟩ := hcs
    exact ⟨[], ⟨rfl, [], RdV.nil _ _, fun i r hi => by simp at hi⟩, fun r hr => by simp at hr, Nat.le_refl _, Nat.zero_le _⟩
  · simp at hcs
    obtain ⟨rfl, rfl, rfl⟩ := hcs
    simp only [if_true] at hmm
    subst hmm
    obtain ⟨l, hl2, hq⟩ := list_of len0 (fun i (p : List UInt8 × Option Addr × Nat) => W.cell? (a.add i) = some (.slice p.2.1 p.1.length p.2.2) ∧ Rd W p.2.1 p.1.length p.1 ∧ p.1.length ≤ maxLen) (by
      intro i hil
      obtain ⟨cs', hc, ht⟩ := hi i (by omega)
      rw [cells31] at hc
      obtain ⟨_, hcl, hat⟩ := World.cells?_some hc
      have c0 := hat 0 (by omega)
      rw [addr_add_add] at c0
      rcases open_ints Try.underlying31 Try.underlying5 (by kernel_rfl) ht with ⟨hcs, _⟩ | ⟨x, l, c, zs, hcs, _, hl2, hm2, hz, _, hcell, hwz⟩
      · subst hcs
        exact ⟨([], none, 0), by simpa using c0, Rd.nil _ _, Nat.zero_le _⟩
      · subst hcs
        obtain ⟨pl, h1, h2, h3⟩ := rd_of_row (w := W) (a := some x) (len := l) (cap := c) (zs := zs) (.inr ⟨x, rfl, hl2, hm2, by simpa using hz, hcell, hwz⟩)
        have e := h1.len
        refine ⟨(pl, some x, c), ?_, ?_, ?_⟩
        · simp only [e]; simpa using c0
        · simp only [e]; exact h1
        · simp only [e]; omega)
    refine ⟨l.map (·.1), ⟨by simp [hl2], l.map (fun p => Value.slice p.2.1 p.1.length p.2.2), ⟨by simp [hl2], fun h0 => ⟨a, rfl, ?_, fun j v hj => ?_⟩⟩, fun i r hi => ?_⟩, fun r hr => ?_, hl, hm⟩
    · obtain ⟨p, hp⟩ : ∃ p, l[0]? = some p := ⟨_, List.getElem?_eq_getElem (by omega)⟩
      have := block_lt_of_cell (hq 0 p hp).1
      rwa [addr_add_block] at this
    · simp only [List.getElem?_map, Option.map_eq_some_iff] at hj
      obtain ⟨p, hp, rfl⟩ := hj
      exact (hq j p hp).1
    · simp only [List.getElem?_map, Option.map_eq_some_iff] at hi
      obtain ⟨p, hp, rfl⟩ := hi
      exact ⟨p.2.1, p.2.2, by simp [hp], (hq i p hp).2.1⟩
    · simp only [List.mem_map] at hr
      obtain ⟨p, hp, rfl⟩ := hr
      obtain ⟨i, hi⟩ := List.mem_iff_getElem?.1 hp
      exact (hq i p hi).2.2
end Go.Proofs.Ytobbjeephmfdeaa
