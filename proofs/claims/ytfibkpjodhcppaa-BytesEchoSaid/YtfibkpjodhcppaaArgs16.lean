/- An argument that is a slice of uint16, as the rows hand it over, read as numbers. -/
import Derived.Test.YtfibkpjodhcppaaVals
import Derived.Test.YtfibkpjodhcppaaFlips
import Derived.OpenShut
namespace Go.Proofs.Ytfibkpjodhcppaa
open Go.RowKit Go.Coop

theorem rd16_of_row {w : World} {a : Option Addr} {len cap : Nat} {zs : List Int} (h : (a = none ∧ len = 0 ∧ cap = 0 ∧ zs = []) ∨
    ∃ x, a = some x ∧ len ≤ cap ∧ cap ≤ maxLen ∧ zs.length = cap ∧ (∀ i, i < zs.length → w.cell? (x.add i) = some (.int .u16 (zs.getD i 0))) ∧ ∀ n ∈ zs, (Lit.int .u16 n).wf = true) :
    ∃ ks : List Nat, RdV w a len (ks.map V16) ∧ (∀ k ∈ ks, k < 65536) ∧ len ≤ cap ∧ cap ≤ maxLen := by
  rcases h with ⟨rfl, rfl, rfl, rfl⟩ | ⟨x, rfl, hl, hm, hz, hc, hw⟩
  · exact ⟨[], RdV.nil _ _, by simp, Nat.le_refl _, Nat.zero_le _⟩
  · have hb : ∀ n ∈ zs, 0 ≤ n ∧ n ≤ 65535 := by
      intro n hn
      have := hw n hn
      simp [Lit.wf, IntKind.min, IntKind.max, IntKind.signed, IntKind.bits] at this
      omega
    refine ⟨(zs.take len).map Int.toNat, ⟨by simp; omega, fun h0 => ⟨x, rfl, ?_, fun j c hj => ?_⟩⟩, ?_, hl, hm⟩
    · have := block_lt_of_cell (hc 0 (by omega))
      rwa [addr_add_block] at this
    · simp only [List.map_map, List.getElem?_map, List.getElem?_take, Option.map_eq_some_iff] at hj
      obtain ⟨n, hn, rfl⟩ := hj
      split at hn
      · have hjl : j < zs.length := (List.getElem?_eq_some_iff.1 hn).1
        have := hb n (List.mem_of_getElem? hn)
        rw [hc j hjl, List.getD_eq_getElem?_getD, hn]
        simp only [Option.getD_some, Function.comp, V16]
        rw [Int.toNat_of_nonneg this.1]
      · cases hn
    · intro k hk
      rw [List.mem_map] at hk
      obtain ⟨n, hn, rfl⟩ := hk
      have := hb n (List.mem_of_mem_take hn)
      omega
end Go.Proofs.Ytfibkpjodhcppaa
