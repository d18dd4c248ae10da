/- The laws' own helpers: square, some, copies. -/
import Derived.Test.YtkkpfehgobanbaaMtxL
namespace Go.Proofs.Ytkkpfehgobanbaa
open Go.RowKit Go.Coop
set_option maxRecDepth 100000

/-- a square matrix of bytes -/
def sqF (n : Nat) (l : List UInt8) : Fn2 := fun i j => l.getD (i * n + j) 0
theorem sq_at {n i j : Nat} {l : List UInt8} {x : UInt8} (h : l[i * n + j]? = some x) : sqF n l i j = x := by
  unfold sqF; rw [List.getD_eq_getElem?_getD, h]; rfl
theorem sq_none {n i j : Nat} {l : List UInt8} (h : l.length ≤ i * n + j) : sqF n l i j = 0 := by
  unfold sqF; rw [List.getD_eq_getElem?_getD, List.getElem?_eq_none h]; rfl
theorem tabM_snoc (q k : Nat) (F : Fn2) : tabM (q + 1) k F = tabM q k F ++ [rowL k (F q)] := by simp [tabM, List.range_succ]

end Go.Proofs.Ytkkpfehgobanbaa
