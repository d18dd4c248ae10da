/- An argument that is a slice of bytes, as the rows hand it over, read as bytes. -/
import Derived.Test.YtkkpfehgobanbaaWords
import Derived.OpenShut
namespace Go.Coop
open Go.RowKit
set_option maxRecDepth 100000

theorem rd_of_row {w : World} {a : Option Addr} {len cap : Nat} {zs : List Int} (h : (a = none ∧ len = 0 ∧ cap = 0 ∧ zs = []) ∨
    ∃ x, a = some x ∧ len ≤ cap ∧ cap ≤ maxLen ∧ zs.length = cap ∧ (∀ i, i < zs.length → w.cell? (x.add i) = some (.int .u8 (zs.getD i 0))) ∧ ∀ n ∈ zs, (Lit.int .u8 n).wf = true) :
    ∃ l, Rd w a len l ∧ len ≤ cap ∧ cap ≤ maxLen := by
  rcases h with ⟨rfl, rfl, rfl, rfl⟩ | ⟨x, rfl, hl, hm, hz, hc, hw⟩
  · exact ⟨[], Rd.nil _ _, Nat.le_refl _, Nat.zero_le _⟩
  · refine ⟨(zs.take len).map fun n => UInt8.ofNat n.toNat, ⟨by simp; omega, fun h0 => ⟨x, rfl, ?_, fun j c hj => ?_⟩⟩, hl, hm⟩
    · have := block_lt_of_cell (hc 0 (by omega))
      rwa [addr_add_block] at this
    · simp only [List.getElem?_map, List.getElem?_take, Option.map_eq_some_iff] at hj
      obtain ⟨n, hn, rfl⟩ := hj
      split at hn
      · have hjl : j < zs.length := (List.getElem?_eq_some_iff.1 hn).1
        have hb := bounds_u8 (hw n (List.mem_of_getElem? hn))
        rw [hc j hjl, List.getD_eq_getElem?_getD, hn]
        simp only [Option.getD_some]
        rw [bv_of n (by omega) (by omega)]
      · cases hn
end Go.Coop
