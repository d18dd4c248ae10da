/- A byte of the rows. -/
import Derived.Test.YtlhhijhmjkgnaaaDskX
namespace Go.Proofs.Ytlhhijhmjkgnaaa
theorem u8_ex {z : Int} (h : 0 ≤ z ∧ z ≤ 255) : ∃ b : UInt8, z = ((b.toNat : Nat) : Int) := ⟨UInt8.ofNat z.toNat, by rw [UInt8.toNat_ofNat']; omega⟩
end Go.Proofs.Ytlhhijhmjkgnaaa
