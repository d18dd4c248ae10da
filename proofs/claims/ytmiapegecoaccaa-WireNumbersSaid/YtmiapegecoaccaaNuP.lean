/- What the last lines of WireNumbers come to, plain. -/
import Derived.Test.YtmiapegecoaccaaRegBy
namespace Go.Proofs.Ytmiapegecoaccaa
open Go.RowKit Go.Coop
set_option maxRecDepth 100000
theorem nuA : getA entry [] = (zeroA, 11) := by decide +kernel
theorem nuB : getA entry [0, 0, 0, 0] = (zeroA, 110) := by decide +kernel
theorem nuC : getT entry [0, 0, 0, 0] = (zeroT, 110) := by decide +kernel
theorem nuD : putA entry zeroA = ([], 110) := by unfold putA; rw [if_neg (by decide)]
theorem nuE : putT entry zeroT = ([], 110) := by unfold putT; rw [if_neg (by decide)]
theorem rd_lit4 (w : World) (a0 a1 a2 a3 : UInt8) : Rd (w.alloc (.cells #[BV a0, BV a1, BV a2, BV a3] 5)) (some ⟨w.heap.size, 0, none⟩) 4 [a0, a1, a2, a3] :=
  Rd.new w [a0, a1, a2, a3] _ 5 (0, 0) fun j c hj => by
    match j, hj with
    | 0, hj => simp at hj; subst hj; rfl
    | 1, hj => simp at hj; subst hj; rfl
    | 2, hj => simp at hj; subst hj; rfl
    | 3, hj => simp at hj; subst hj; rfl
end Go.Proofs.Ytmiapegecoaccaa
