/- Arguments that are slices of slices of bytes, and structs, as the rows hand them over. -/
import Derived.Test.YtobbjeephmfdeaaArgsM
import Derived.Lib.SmallJoins
namespace Go.Proofs.Ytobbjeephmfdeaa
open Go.RowKit Go.Coop Go.ChangeShapes Go.WideShapes Go.Deep
set_option maxRecDepth 100000

theorem mr32_of {H : Type} {enc : TypeId × Value → H} {W : World} {fuel : Nat} {a0 : Option Addr} {len0 cap0 : Nat} {x : DataW H × List MemPlace}
    (h : DataW.trod enc Try.prog W 0 (fun _ => true) true fuel 32 [.slice a0 len0 cap0] = some x) : ∃ M : List (List UInt8), MR W a0 len0 M ∧ (∀ r ∈ M, r.length ≤ maxLen) ∧ len0 ≤ cap0 ∧ cap0 ≤ maxLen := by
  rcases open_slice Try.underlying32 h with ⟨hcs, _⟩ | ⟨a, len, cap, m, n, D, Pl, hcs, _, hl, hm, hmm, _, hi⟩
  · simp at hcs
    obtain ⟨rfl, rfl, rfl⟩ := hcs
    exact ⟨[], ⟨rfl, [], RdV.nil _ _, fun i r hi => by simp at hi⟩, fun r hr => by simp at hr, Nat.le_refl _, Nat.zero_le _⟩
  · simp at hcs
    obtain ⟨rfl, rfl, rfl⟩ := hcs
    simp only [if_true] at hmm
    subst hmm
    obtain ⟨l, hl2, hq⟩ := list_of len0 (fun i (p : List UInt8 × Option Addr × Nat) => W.cell? (a.add i) = some (.slice p.2.1 p.1.length p.2.2) ∧ Rd W p.2.1 p.1.length p.1 ∧ p.1.length ≤ maxLen) (by
      intro i hil
      obtain ⟨cs', hc, ht⟩ := hi i (by omega)
      rw [cells31] at hc
      obtain ⟨_, hcl, hat⟩ := World.cells?_some hc
      have c0 := hat 0 (by omega)
      rw [addr_add_add] at c0
      rcases open_ints Try.underlying31 Try.underlying5 (by kernel_rfl) ht with ⟨hcs, _⟩ | ⟨x, l, c, zs, hcs, _, hl2, hm2, hz, _, hcell, hwz⟩
      · subst hcs
        exact ⟨([], none, 0), by simpa using c0, Rd.nil _ _, Nat.zero_le _⟩
      · subst hcs
        obtain ⟨pl, h1, h2, h3⟩ := rd_of_row (w := W) (a := some x) (len := l) (cap := c) (zs := zs) (.inr ⟨x, rfl, hl2, hm2, by simpa using hz, hcell, hwz⟩)
        have e := h1.len
        refine ⟨(pl, some x, c), ?_, ?_, ?_⟩
        · simp only [e]; simpa using c0
        · simp only [e]; exact h1
        · simp only [e]; omega)
    refine ⟨l.map (·.1), ⟨by simp [hl2], l.map (fun p => Value.slice p.2.1 p.1.length p.2.2), ⟨by simp [hl2], fun h0 => ⟨a, rfl, ?_, fun j v hj => ?_⟩⟩, fun i r hi => ?_⟩, fun r hr => ?_, hl, hm⟩
    · obtain ⟨p, hp⟩ : ∃ p, l[0]? = some p := ⟨_, List.getElem?_eq_getElem (by omega)⟩
      have := block_lt_of_cell (hq 0 p hp).1
      rwa [addr_add_block] at this
    · simp only [List.getElem?_map, Option.map_eq_some_iff] at hj
      obtain ⟨p, hp, rfl⟩ := hj
      exact (hq j p hp).1
    · simp only [List.getElem?_map, Option.map_eq_some_iff] at hi
      obtain ⟨p, hp, rfl⟩ := hi
      exact ⟨p.2.1, p.2.2, by simp [hp], (hq i p hp).2.1⟩
    · simp only [List.mem_map] at hr
      obtain ⟨p, hp, rfl⟩ := hr
      obtain ⟨i, hi⟩ := List.mem_iff_getElem?.1 hp
      exact (hq i p hi).2.2

theorem u8_of {H : Type} {enc : TypeId × Value → H} {W : World} {n : Nat} {v : Value} {y : DataW H × List MemPlace} (h : DataW.trod enc Try.prog W 0 (fun _ => true) true n 5 [v] = some y) : ∃ k : Nat, k < 256 ∧ v = .int .u8 (k : Int) := by
  obtain ⟨N, e0, _, wN⟩ := DataW.trod_int Try.underlying5 h
  simp [Lit.wf, IntKind.min, IntKind.max, IntKind.signed, IntKind.bits] at wN
  obtain ⟨k, rfl⟩ := Int.eq_ofNat_of_zero_le (show 0 ≤ N by omega)
  refine ⟨k, by omega, ?_⟩
  simpa using e0
theorem i64_of {H : Type} {enc : TypeId × Value → H} {W : World} {n : Nat} {v : Value} {y : DataW H × List MemPlace} (h : DataW.trod enc Try.prog W 0 (fun _ => true) true n 3 [v] = some y) : ∃ k : Int, (-9223372036854775808 ≤ k ∧ k ≤ 9223372036854775807) ∧ v = .int .i64 k := by
  obtain ⟨N, e0, _, wN⟩ := DataW.trod_int Try.underlying3 h
  simp [Lit.wf, IntKind.min, IntKind.max, IntKind.signed, IntKind.bits] at wN
  exact ⟨N, by omega, by simpa using e0⟩
theorem bytes_of {H : Type} {enc : TypeId × Value → H} {W : World} {n : Nat} {v : Value} {y : DataW H × List MemPlace} (h : DataW.trod enc Try.prog W 0 (fun _ => true) true n 31 [v] = some y) : ∃ (B : Option Addr) (len cap : Nat) (l : List UInt8), v = .slice B len cap ∧ Rd W B len l ∧ len ≤ cap ∧ cap ≤ maxLen := by
  rcases open_ints Try.underlying31 Try.underlying5 (by kernel_rfl) h with ⟨hcs, _⟩ | ⟨x, l, c, zs, hcs, _, hl2, hm2, hz, _, hcell, hwz⟩
  · exact ⟨none, 0, 0, [], by simpa using hcs, Rd.nil _ _, Nat.le_refl _, Nat.zero_le _⟩
  · obtain ⟨pl, h1, h2, h3⟩ := rd_of_row (w := W) (a := some x) (len := l) (cap := c) (zs := zs) (.inr ⟨x, rfl, hl2, hm2, by simpa using hz, hcell, hwz⟩)
    exact ⟨some x, l, c, pl, by simpa using hcs, h1, h2, h3⟩
/-- an argument that is a stripe's numbers and bytes -/
theorem stripe_of {H : Type} {enc : TypeId × Value → H} {W : World} {r : Reach} {b0 : Nat} {v : Value} {d : DataW H} {p : List MemPlace} (hv : Value.okWide Try.prog W r b0 66 v) (h : DataW.Trod enc Try.prog W 0 (fun _ => true) true 66 v d p) :
    ∃ (kz mz sz : Nat) (B : Option Addr) (len cap : Nat) (l : List UInt8), v = .agg #[.int .u8 (kz : Int), .int .u8 (mz : Int), .int .u8 (sz : Int), .slice B len cap] ∧ kz < 256 ∧ mz < 256 ∧ sz < 256 ∧ Rd W B len l ∧ len ≤ cap ∧ cap ≤ maxLen := by
  obtain ⟨v0, v1, v2, v3, y0, y1, y2, y3, n, rfl, _, _, h0, h1, h2, h3⟩ := Go.Joins.open_agg4 Try.underlying66 (by kernel_rfl) (by kernel_rfl) hv h
  obtain ⟨kz, b0, rfl⟩ := u8_of h0
  obtain ⟨mz, b1, rfl⟩ := u8_of h1
  obtain ⟨sz, b2, rfl⟩ := u8_of h2
  obtain ⟨B, len, cap, l, rfl, hr, hl, hc⟩ := bytes_of h3
  exact ⟨kz, mz, sz, B, len, cap, l, rfl, b0, b1, b2, hr, hl, hc⟩
end Go.Proofs.Ytobbjeephmfdeaa
