/- marked. -/
import Derived.Test.YtciihebaameccaaRndF1
import Derived.Test.YtciihebaameccaaRndF2
import Derived.Test.YtciihebaameccaaRndF3
import Derived.Test.YtciihebaameccaaRndF5
import Derived.Test.YtciihebaameccaaRndF0
namespace Go.Proofs.Ytciihebaameccaa
open Go.RowKit Go.Coop
set_option maxRecDepth 100000
theorem marked_is (w : World) (s v need ph : Int) {A : Option Addr} {n c : Nat} {ms : List Int} (h : RdV w A n (ms.map IV)) (hn : n ≤ 1000000) {i : Nat} (hi : i < n) (m : Int) (hneed : 1 ≤ need ∧ need ≤ n) : Calls Try.prog 41 #[.agg #[.int .i64 s, .int .i64 v, .int .i64 need, .int .i64 ph, .slice A n c], .int .i64 (i : Int), .int .i64 m] w (OneM w (Rn.marked ⟨s, v, need, ph, ms⟩ i m)) := by
  by_cases h1 : ph = 1
  · exact marked_1 w s v need ph h1 h hn hi m hneed
  · by_cases h2 : ph = 2
    · exact marked_2 w s v need ph h2 h hn hi m hneed
    · by_cases h3 : ph = 3
      · exact marked_3 w s v need ph h3 h hn hi m hneed
      · by_cases h5 : ph = 5
        · exact marked_5 w s v need ph h5 h hn hi m hneed
        · exact marked_0 w s v need ph h1 h2 h3 h5 h hn hi m hneed
end Go.Proofs.Ytciihebaameccaa
