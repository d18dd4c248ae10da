/-
  No cell of these rows narrows 'for every input' (looked for: loops, veiled, ifaces, maps, wideKeys, modest, calm, conditions, laid).
  DERIVED. THE GIVEN ROWS OF THIS SEAT. 7 by the template 'for every input the law returns true; each argument reads behind the call as it read before'; 0 by the template 'total and deterministic' (their statements: YtciihebaameccaaTotals.lean).
  GIVEN WITH THE SEED: the statements are not yours to turn. If you find one false, say at which input.
  Laid BY PROGRAM, IN A SANDBOX (cutbox-rows.mjs): the forced cells as the released guide's own fill.sh prints them over the translation c794d3e8e2180c1f… (all of the seat's roots in one cut). By AI agents, Wed Nov 11 2026. No macro, syntax, notation, axiom, sorry.
-/
import Derived.Test.YtciihebaameccaaChecked
import GoSem.Claim
import GoSem.ClaimJoined
import GoSem.ClaimMapViews
import Derived.JoinedTies
import Derived.KernelRfl
namespace Go.Proofs.Ytciihebaameccaa
/- THE CELL 'sum', in the pinned program and in every row, IS THE sha256 OF THE DUMP (.gsa) THAT YtciihebaameccaaProg.lean LOADS. Nothing in Lean hashes anything: it is a label: what it is worth is what the hold of that sum in a sandbox is worth. -/
noncomputable def Try.pinned : Pinned := { name := "ytciihebaameccaa", sum := "c794d3e8e2180c1fa6c21461a035e9b1b2ff24d56b8e9dc97cdc3b0298bd8606", checked := Try.checked }
namespace Rows
def none {H : Type} : Left H := { results := [], args := [] }

/-- 'cooperagelaw12.RoundNumbers': WHATEVER THE INPUT: true; the input reads as it did. -/
def roundNumbersSpec : ChangeSpec := { name := "roundNumbers", fn := fun _ => fun
  | [] => { results := [.lit (.bool true)], args := [] }
  | _ => none }
def roundNumbersRow : OpenClaim := { program := "ytciihebaameccaa", sum := "c794d3e8e2180c1fa6c21461a035e9b1b2ff24d56b8e9dc97cdc3b0298bd8606", func := "cooperage/cooperagelaw12.RoundNumbers", spec := "roundNumbers", unfollowed := true, recurses := true, apart := false }
def RoundNumbersSaid : Prop := roundNumbersRow.holds Try.pinned (OpenSpec.ofChange roundNumbersSpec)

/-- ITS FALSE NEIGHBOUR: 'it returns false'. Refute it at one input. -/
def roundNumbersWrong : ChangeSpec := { name := "roundNumbers", fn := fun _ => fun
  | [] => { results := [.lit (.bool false)], args := [] }
  | _ => none }
def RoundNumbersWrongFalsely : Prop := roundNumbersRow.holds Try.pinned (OpenSpec.ofChange roundNumbersWrong)

/-- 'cooperagelaw12.RoundTells': WHATEVER THE INPUT: true; the input reads as it did. -/
def roundTellsSpec : ChangeSpec := { name := "roundTells", fn := fun _ => fun
  | [d1, d2, d3] => { results := [.lit (.bool true)], args := [d1, d2, d3] }
  | _ => none }
def roundTellsRow : OpenClaim := { program := "ytciihebaameccaa", sum := "c794d3e8e2180c1fa6c21461a035e9b1b2ff24d56b8e9dc97cdc3b0298bd8606", func := "cooperage/cooperagelaw12.RoundTells", spec := "roundTells", unfollowed := true, recurses := true, apart := false }
def RoundTellsSaid : Prop := roundTellsRow.holds Try.pinned (OpenSpec.ofChange roundTellsSpec)

/-- ITS FALSE NEIGHBOUR: 'it returns false'. Refute it at one input. -/
def roundTellsWrong : ChangeSpec := { name := "roundTells", fn := fun _ => fun
  | [d1, d2, d3] => { results := [.lit (.bool false)], args := [d1, d2, d3] }
  | _ => none }
def RoundTellsWrongFalsely : Prop := roundTellsRow.holds Try.pinned (OpenSpec.ofChange roundTellsWrong)

/-- 'cooperagelaw12.RoundSafe': WHATEVER THE INPUT: true; the input reads as it did. -/
def roundSafeSpec : ChangeSpec := { name := "roundSafe", fn := fun _ => fun
  | [d1, d2, d3] => { results := [.lit (.bool true)], args := [d1, d2, d3] }
  | _ => none }
def roundSafeRow : OpenClaim := { program := "ytciihebaameccaa", sum := "c794d3e8e2180c1fa6c21461a035e9b1b2ff24d56b8e9dc97cdc3b0298bd8606", func := "cooperage/cooperagelaw12.RoundSafe", spec := "roundSafe", unfollowed := true, recurses := true, apart := false }
def RoundSafeSaid : Prop := roundSafeRow.holds Try.pinned (OpenSpec.ofChange roundSafeSpec)

/-- ITS FALSE NEIGHBOUR: 'it returns false'. Refute it at one input. -/
def roundSafeWrong : ChangeSpec := { name := "roundSafe", fn := fun _ => fun
  | [d1, d2, d3] => { results := [.lit (.bool false)], args := [d1, d2, d3] }
  | _ => none }
def RoundSafeWrongFalsely : Prop := roundSafeRow.holds Try.pinned (OpenSpec.ofChange roundSafeWrong)

/-- 'cooperagelaw12.RoundEnds': WHATEVER THE INPUT: true; the input reads as it did. -/
def roundEndsSpec : ChangeSpec := { name := "roundEnds", fn := fun _ => fun
  | [d1, d2, d3, d4, d5] => { results := [.lit (.bool true)], args := [d1, d2, d3, d4, d5] }
  | _ => none }
def roundEndsRow : OpenClaim := { program := "ytciihebaameccaa", sum := "c794d3e8e2180c1fa6c21461a035e9b1b2ff24d56b8e9dc97cdc3b0298bd8606", func := "cooperage/cooperagelaw12.RoundEnds", spec := "roundEnds", unfollowed := true, recurses := true, apart := false }
def RoundEndsSaid : Prop := roundEndsRow.holds Try.pinned (OpenSpec.ofChange roundEndsSpec)

/-- ITS FALSE NEIGHBOUR: 'it returns false'. Refute it at one input. -/
def roundEndsWrong : ChangeSpec := { name := "roundEnds", fn := fun _ => fun
  | [d1, d2, d3, d4, d5] => { results := [.lit (.bool false)], args := [d1, d2, d3, d4, d5] }
  | _ => none }
def RoundEndsWrongFalsely : Prop := roundEndsRow.holds Try.pinned (OpenSpec.ofChange roundEndsWrong)

/-- 'cooperagelaw12.RoundTwice': WHATEVER THE INPUT: true; the input reads as it did. -/
def roundTwiceSpec : ChangeSpec := { name := "roundTwice", fn := fun _ => fun
  | [d1, d2, d3] => { results := [.lit (.bool true)], args := [d1, d2, d3] }
  | _ => none }
def roundTwiceRow : OpenClaim := { program := "ytciihebaameccaa", sum := "c794d3e8e2180c1fa6c21461a035e9b1b2ff24d56b8e9dc97cdc3b0298bd8606", func := "cooperage/cooperagelaw12.RoundTwice", spec := "roundTwice", unfollowed := true, recurses := true, apart := false }
def RoundTwiceSaid : Prop := roundTwiceRow.holds Try.pinned (OpenSpec.ofChange roundTwiceSpec)

/-- ITS FALSE NEIGHBOUR: 'it returns false'. Refute it at one input. -/
def roundTwiceWrong : ChangeSpec := { name := "roundTwice", fn := fun _ => fun
  | [d1, d2, d3] => { results := [.lit (.bool false)], args := [d1, d2, d3] }
  | _ => none }
def RoundTwiceWrongFalsely : Prop := roundTwiceRow.holds Try.pinned (OpenSpec.ofChange roundTwiceWrong)

/-- 'cooperagelaw12.RoundOrder': WHATEVER THE INPUT: true; the input reads as it did. -/
def roundOrderSpec : ChangeSpec := { name := "roundOrder", fn := fun _ => fun
  | [d1, d2, d3] => { results := [.lit (.bool true)], args := [d1, d2, d3] }
  | _ => none }
def roundOrderRow : OpenClaim := { program := "ytciihebaameccaa", sum := "c794d3e8e2180c1fa6c21461a035e9b1b2ff24d56b8e9dc97cdc3b0298bd8606", func := "cooperage/cooperagelaw12.RoundOrder", spec := "roundOrder", unfollowed := true, recurses := true, apart := false }
def RoundOrderSaid : Prop := roundOrderRow.holds Try.pinned (OpenSpec.ofChange roundOrderSpec)

/-- ITS FALSE NEIGHBOUR: 'it returns false'. Refute it at one input. -/
def roundOrderWrong : ChangeSpec := { name := "roundOrder", fn := fun _ => fun
  | [d1, d2, d3] => { results := [.lit (.bool false)], args := [d1, d2, d3] }
  | _ => none }
def RoundOrderWrongFalsely : Prop := roundOrderRow.holds Try.pinned (OpenSpec.ofChange roundOrderWrong)

/-- 'cooperagelaw12.RoundWants': WHATEVER THE INPUT: true; the input reads as it did. -/
def roundWantsSpec : ChangeSpec := { name := "roundWants", fn := fun _ => fun
  | [d1, d2, d3] => { results := [.lit (.bool true)], args := [d1, d2, d3] }
  | _ => none }
def roundWantsRow : OpenClaim := { program := "ytciihebaameccaa", sum := "c794d3e8e2180c1fa6c21461a035e9b1b2ff24d56b8e9dc97cdc3b0298bd8606", func := "cooperage/cooperagelaw12.RoundWants", spec := "roundWants", unfollowed := true, recurses := true, apart := false }
def RoundWantsSaid : Prop := roundWantsRow.holds Try.pinned (OpenSpec.ofChange roundWantsSpec)

/-- ITS FALSE NEIGHBOUR: 'it returns false'. Refute it at one input. -/
def roundWantsWrong : ChangeSpec := { name := "roundWants", fn := fun _ => fun
  | [d1, d2, d3] => { results := [.lit (.bool false)], args := [d1, d2, d3] }
  | _ => none }
def RoundWantsWrongFalsely : Prop := roundWantsRow.holds Try.pinned (OpenSpec.ofChange roundWantsWrong)

/- THE SECOND FORM. 'bulk': how many values and letters a reading holds, each counted each time it is reached (what is shared counts as often as it is met; a slice's spare places count too). A statement '..UptoSaid' is the law's where the arguments, and the package variables that the reading takes, are together of bulk at most 1048576: NARROWER than '..Said'. Prove '..Said' where nothing that the law and all that it calls make is longer than what came in: it says more and counts as full. Else prove '..UptoSaid'. A law counts once. -/
mutual
def uptoBulk {H : Type} : DataW H → Nat
  | .lit (.string bytes) => bytes.length + 1
  | .lit _ => 1
  | .nil => 1
  | .ptr d => uptoBulk d + 1
  | .slice elems spare => uptoBulkAll elems + uptoBulkAll spare + 1
  | .agg parts => uptoBulkAll parts + 1
  | .iface _ d => uptoBulk d + 1
  | .map entries => uptoBulkEntries entries + 1
  | .held _ => 1
def uptoBulkAll {H : Type} : List (DataW H) → Nat
  | [] => 0
  | d :: r => uptoBulk d + uptoBulkAll r
def uptoBulkEntries {H : Type} : List (Lit × DataW H) → Nat
  | [] => 0
  | x :: r => uptoBulkEntry x + uptoBulkEntries r
def uptoBulkEntry {H : Type} : Lit × DataW H → Nat
  | (.string bytes, d) => bytes.length + uptoBulk d + 1
  | (_, d) => uptoBulk d + 1
 end
def uptoSmall : (H : Type) → List (DataW H) → Bool := fun _ ds => decide (uptoBulkAll ds ≤ 1048576)
def OpenSpec.upto (s : _root_.Go.ChangeSpec) : _root_.Go.OpenSpec := { _root_.Go.OpenSpec.ofChange s with cond := some uptoSmall }

/-- 'cooperagelaw12.RoundNumbers', WHERE WHAT IT READS IS OF BULK AT MOST 1048576: true; the input reads as it did. -/
def roundNumbersUptoRow : OpenClaim := { program := "ytciihebaameccaa", sum := "c794d3e8e2180c1fa6c21461a035e9b1b2ff24d56b8e9dc97cdc3b0298bd8606", func := "cooperage/cooperagelaw12.RoundNumbers", spec := "roundNumbers", unfollowed := true, recurses := true, apart := false, narrowed := true }
def RoundNumbersUptoSaid : Prop := roundNumbersUptoRow.holds Try.pinned (OpenSpec.upto roundNumbersSpec)

/-- 'cooperagelaw12.RoundTells', WHERE WHAT IT READS IS OF BULK AT MOST 1048576: true; the input reads as it did. -/
def roundTellsUptoRow : OpenClaim := { program := "ytciihebaameccaa", sum := "c794d3e8e2180c1fa6c21461a035e9b1b2ff24d56b8e9dc97cdc3b0298bd8606", func := "cooperage/cooperagelaw12.RoundTells", spec := "roundTells", unfollowed := true, recurses := true, apart := false, narrowed := true }
def RoundTellsUptoSaid : Prop := roundTellsUptoRow.holds Try.pinned (OpenSpec.upto roundTellsSpec)

/-- 'cooperagelaw12.RoundSafe', WHERE WHAT IT READS IS OF BULK AT MOST 1048576: true; the input reads as it did. -/
def roundSafeUptoRow : OpenClaim := { program := "ytciihebaameccaa", sum := "c794d3e8e2180c1fa6c21461a035e9b1b2ff24d56b8e9dc97cdc3b0298bd8606", func := "cooperage/cooperagelaw12.RoundSafe", spec := "roundSafe", unfollowed := true, recurses := true, apart := false, narrowed := true }
def RoundSafeUptoSaid : Prop := roundSafeUptoRow.holds Try.pinned (OpenSpec.upto roundSafeSpec)

/-- 'cooperagelaw12.RoundEnds', WHERE WHAT IT READS IS OF BULK AT MOST 1048576: true; the input reads as it did. -/
def roundEndsUptoRow : OpenClaim := { program := "ytciihebaameccaa", sum := "c794d3e8e2180c1fa6c21461a035e9b1b2ff24d56b8e9dc97cdc3b0298bd8606", func := "cooperage/cooperagelaw12.RoundEnds", spec := "roundEnds", unfollowed := true, recurses := true, apart := false, narrowed := true }
def RoundEndsUptoSaid : Prop := roundEndsUptoRow.holds Try.pinned (OpenSpec.upto roundEndsSpec)

/-- 'cooperagelaw12.RoundTwice', WHERE WHAT IT READS IS OF BULK AT MOST 1048576: true; the input reads as it did. -/
def roundTwiceUptoRow : OpenClaim := { program := "ytciihebaameccaa", sum := "c794d3e8e2180c1fa6c21461a035e9b1b2ff24d56b8e9dc97cdc3b0298bd8606", func := "cooperage/cooperagelaw12.RoundTwice", spec := "roundTwice", unfollowed := true, recurses := true, apart := false, narrowed := true }
def RoundTwiceUptoSaid : Prop := roundTwiceUptoRow.holds Try.pinned (OpenSpec.upto roundTwiceSpec)

/-- 'cooperagelaw12.RoundOrder', WHERE WHAT IT READS IS OF BULK AT MOST 1048576: true; the input reads as it did. -/
def roundOrderUptoRow : OpenClaim := { program := "ytciihebaameccaa", sum := "c794d3e8e2180c1fa6c21461a035e9b1b2ff24d56b8e9dc97cdc3b0298bd8606", func := "cooperage/cooperagelaw12.RoundOrder", spec := "roundOrder", unfollowed := true, recurses := true, apart := false, narrowed := true }
def RoundOrderUptoSaid : Prop := roundOrderUptoRow.holds Try.pinned (OpenSpec.upto roundOrderSpec)

/-- 'cooperagelaw12.RoundWants', WHERE WHAT IT READS IS OF BULK AT MOST 1048576: true; the input reads as it did. -/
def roundWantsUptoRow : OpenClaim := { program := "ytciihebaameccaa", sum := "c794d3e8e2180c1fa6c21461a035e9b1b2ff24d56b8e9dc97cdc3b0298bd8606", func := "cooperage/cooperagelaw12.RoundWants", spec := "roundWants", unfollowed := true, recurses := true, apart := false, narrowed := true }
def RoundWantsUptoSaid : Prop := roundWantsUptoRow.holds Try.pinned (OpenSpec.upto roundWantsSpec)

end Rows
end Go.Proofs.Ytciihebaameccaa
