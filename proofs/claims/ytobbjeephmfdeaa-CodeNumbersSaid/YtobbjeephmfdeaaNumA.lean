/- CodeNumbers: refusals. -/
import Derived.Test.YtobbjeephmfdeaaCodG
namespace Go.Proofs.Ytobbjeephmfdeaa
open Go.RowKit Go.Coop
set_option maxRecDepth 100000

/-- the law's 'wrong': both calls refuse -/
theorem wrong_yes {g n k gf c : Nat} {A : Option Addr} (R : Option Addr) (m rc : Nat) (ls : List Int) (S : Option Addr) (q d : Nat) (L : List (List UInt8)) (w : World) (hg : CodeAt w g n k gf A c) (hR : RdV w R m (ivs ls)) (h : MR w S q L) (hq : q ≤ 140737488355328) (hm : m ≤ 140737488355328) (hL : ∀ r ∈ L, r.length ≤ 140737488355328) (hno : m < k ∨ toldB n ls L = false) :
    Calls Try.prog 16 #[.pointer (some ⟨g, 0, none⟩), .slice R m rc, .slice S q d] w fun e w' => e = .returned (.bool true) ∧ Below w.heap.size w w' := by
  have HD := Lib.hid (dec_no R m rc ls S q d L w hg hR h hq hm hL hno)
  have HR := Lib.hid (fun w1 (hb : Below w.heap.size w w1) => reb_no R m rc ls S q d L 0 w1 (hg.below hb (Nat.le_refl _)) (hR.below hb (Nat.le_refl _)) (h.below hb (Nat.le_refl _)) hq hm hL hno)
  clear hg hR h hno
  go_enter Try.func16, Try.ntmps16
  go_wp2_with fail
  refine HD.out.mono ?_
  rintro e w1 ⟨rfl, hB⟩
  have HB := Lib.hid hB
  clear hB
  go_wp2_with fail
  refine (HR.out w1 HB.out).mono ?_
  rintro e w2 ⟨rfl, hB⟩
  go_wp2
  go_ret
  exact ⟨rfl, HB.out.trans (hB.mono HB.out.size)⟩
end Go.Proofs.Ytobbjeephmfdeaa
