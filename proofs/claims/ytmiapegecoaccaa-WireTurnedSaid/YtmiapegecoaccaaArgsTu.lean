/- Four bytes as the rows hand them over. -/
import Derived.Test.YtmiapegecoaccaaArgsW
namespace Go.Proofs.Ytmiapegecoaccaa
open Go.RowKit Go.Coop Go.ChangeShapes Go.WideShapes Go.Deep
set_option maxRecDepth 100000
theorem turn_of {H : Type} {enc : TypeId × Value → H} {W : World} {r : Reach} {b0 : Nat} {v : Value} {d : DataW H} {p : List MemPlace} (hv : Value.okWide Try.prog W r b0 58 v) (h : DataW.Trod enc Try.prog W 0 (fun _ => true) true 58 v d p) :
    ∃ x0 x1 x2 x3 : Nat, x0 < 256 ∧ x1 < 256 ∧ x2 < 256 ∧ x3 < 256 ∧ v = .agg #[.int .u8 (x0 : Int), .int .u8 (x1 : Int), .int .u8 (x2 : Int), .int .u8 (x3 : Int)] := by
  obtain ⟨cs, rfl, hsz⟩ := okWide_arr Try.underlying58 hv
  obtain ⟨c0, c1, c2, c3, rfl⟩ := array4 (hsz.trans (show Try.prog.cellsOf 58 = 4 by kernel_rfl))
  obtain ⟨fuel, hf⟩ := h
  obtain ⟨y0, y1, y2, y3, n, _, h0, h1, h2, h3⟩ := trod_array4 Try.underlying58 cells5 (by simpa [Value.cells] using hf)
  obtain ⟨x0, b0, rfl⟩ := u8_of Try.underlying5 h0
  obtain ⟨x1, b1, rfl⟩ := u8_of Try.underlying5 h1
  obtain ⟨x2, b2, rfl⟩ := u8_of Try.underlying5 h2
  obtain ⟨x3, b3, rfl⟩ := u8_of Try.underlying5 h3
  exact ⟨x0, x1, x2, x3, b0, b1, b2, b3, rfl⟩
end Go.Proofs.Ytmiapegecoaccaa
