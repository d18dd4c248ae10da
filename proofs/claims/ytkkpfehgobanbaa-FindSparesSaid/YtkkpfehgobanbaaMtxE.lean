import Derived.Test.YtkkpfehgobanbaaMtxD
import Derived.Deep.RegionHeld
namespace Go.Proofs.Ytkkpfehgobanbaa
open Go.RowKit Go.Coop
set_option maxRecDepth 100000

/-- the product -/
def mulF (k : Nat) (F G : Fn2) : Fn2 := fun i j => UInt8.ofNat (mm k (nf F) (nf G) i j)
theorem nf_mulF (k : Nat) (F G : Fn2) (i j : Nat) : nf (mulF k F G) i j = mm k (nf F) (nf G) i j := by
  unfold nf mulF; rw [UInt8.toNat_ofNat']; exact Nat.mod_eq_of_lt (mm_lt _ _ _ _ _)
theorem mulF_dot (k : Nat) (F G : Fn2) (i j : Nat) : (mulF k F G i j).toNat = dot (rowL k (F i)) (rowL k fun l => G l j) := by
  have := nf_mulF k F G i j
  unfold nf at this
  rw [this, dot_rowL]
  rfl

end Go.Proofs.Ytkkpfehgobanbaa
