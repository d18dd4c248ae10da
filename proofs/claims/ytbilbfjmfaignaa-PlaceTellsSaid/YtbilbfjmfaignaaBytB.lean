/- CopyBytes, SameBytes, a slice's head. -/
import Derived.Test.YtbilbfjmfaignaaReadB
namespace Go.Proofs.Ytbilbfjmfaignaa
open Go.RowKit Go.Coop
set_option maxRecDepth 100000
section
variable (w : World)
theorem sameBytes_is {A X : Option Addr} {n m ca cx : Nat} {l : List UInt8} (hA : Rd w A n l) (hX : Rd w X m l) : Calls Try.prog 27 #[.slice A n ca, .slice X m cx] w fun e w' => e = .returned (.bool true) ∧ w = w' := by
  have k1 := conv_str (P := Try.prog) Try.underlying34 Try.underlying5 Try.underlying9 hA ca
  have k2 := conv_str (P := Try.prog) Try.underlying34 Try.underlying5 Try.underlying9 hX cx
  clear hA hX
  go_enter Try.func27, Try.ntmps27
  go_wp2
  go_ret
  exact ⟨rfl, rfl⟩
theorem slice_h (A : Option Addr) (n c y : Nat) (hy : y ≤ c) (w : World) : (Instr.slice 34 (.slice A n c) none (some (.int .i64 (y : Int))) none).run Try.prog w = .ok (.slice A y c) w := by
  obtain ⟨i, hi, hz, h1, h2⟩ := info_parts info5
  have he : Try.prog.elem 34 = 5 := by simp [Program.elem, Try.underlying34]
  have hb : (Instr.sliceBounds true n c none (some (.int .i64 (y : Int))) none).run Try.prog w = .ok (0, y, c) w := by
    simp [Instr.sliceBounds, run_sliceBound, *]
  rw [run_slice_any w 34 A n c (by rw [he]; exact Try.underlying34), hb, he]
  simp [sizeOf, typeInfo, hi, h1, sliced, Result.andThen]
  cases A <;> simp [Addr.add]
end
end Go.Proofs.Ytbilbfjmfaignaa
