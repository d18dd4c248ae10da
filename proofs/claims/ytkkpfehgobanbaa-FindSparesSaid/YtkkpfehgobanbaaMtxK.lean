/- Rank; what no field answers. -/
import Derived.Test.YtkkpfehgobanbaaMtxJ
namespace Go.Proofs.Ytkkpfehgobanbaa
open Go.RowKit Go.Coop
set_option maxRecDepth 100000

/-- rows of nothing -/
theorem mo_nils (w : World) (g n : Nat) (hg : g = w.heap.size) (hn : n ≤ maxLen) (F : Fn2) : MO (w.alloc (.cells (outC w.heap.size n 0 0) 35)) g g (some ⟨g, 0, none⟩) n n (tabM n 0 F) := by
  subst hg
  refine ⟨tabM_len n 0 F, (outC w.heap.size n 0 0).toList, ⟨by simp [outC], by simp [outC], .inr ⟨w.heap.size, n, _, rfl, Nat.le_refl _, heap_alloc_new w _, Nat.le_refl _, hn, by simp [outC], ?_⟩⟩, fun i r hi => ?_⟩
  · rw [Nat.mul_one, List.take_of_length_le (by simp [outC])]
  · have hin : i < n := by have := (List.getElem?_eq_some_iff.1 hi).1; rwa [tabM_len] at this
    rw [tabM_at 0 F hin] at hi
    injection hi with hi
    subst hi
    rw [rowL_len]
    refine ⟨none, 0, ?_, ?_⟩
    · have := outC_at (g := w.heap.size) (k := 0) (i := 0) hin
      rw [if_neg (by omega)] at this
      simpa using this
    · exact Own.nil _ _ _
end Go.Proofs.Ytkkpfehgobanbaa
