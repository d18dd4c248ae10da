/- Arguments of the rows: a byte; slices of calls, of bools. -/
import Derived.Test.YtlhhijhmjkgnaaaOps
namespace Go.Proofs.Ytlhhijhmjkgnaaa
open Go.RowKit Go.Coop Go.ChangeShapes Go.WideShapes Go.Deep
theorem u8_ex {z : Int} (h : 0 ≤ z ∧ z ≤ 255) : ∃ b : UInt8, z = ((b.toNat : Nat) : Int) := ⟨UInt8.ofNat z.toNat, by rw [UInt8.toNat_ofNat']; omega⟩
theorem bools_in {H : Type} {enc : TypeId × Value → H} {W : World} {fuel : Nat} {a0 : Option Addr} {len0 cap0 : Nat} {x : DataW H × List MemPlace}
    (h : DataW.trod enc Try.prog W 0 (fun _ => true) true fuel 45 [.slice a0 len0 cap0] = some x) : ∃ fl, RdV W a0 len0 (bools fl) ∧ len0 ≤ cap0 ∧ cap0 ≤ maxLen := by
  obtain ⟨a, len, cap, fl, e, h1, h2, h3⟩ := bools_of h
  injection e with e1 e2 e3
  subst e1 e2 e3
  exact ⟨fl, h1, h2, h3⟩
end Go.Proofs.Ytlhhijhmjkgnaaa
