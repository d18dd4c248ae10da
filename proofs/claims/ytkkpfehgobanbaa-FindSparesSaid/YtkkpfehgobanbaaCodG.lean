/- Decode, Rebuild. -/
import Derived.Test.YtkkpfehgobanbaaCodF
namespace Go.Proofs.Ytkkpfehgobanbaa
open Go.RowKit Go.Coop
set_option maxRecDepth 100000

theorem dec_none (p : Option Addr) (R : Option Addr) (m rc : Nat) (S : Option Addr) (q d : Nat) (w : World) (h : NoCode w p) : Calls Try.prog 43 #[.pointer p, .slice R m rc, .slice S q d] w (NotM w 1) := by
  have H := Lib.hid h
  clear h
  go_enter Try.func43, Try.ntmps43
  go_wp2_with fail
  refine (back_none p R m rc S q d w H.out).mono ?_
  rintro e w' ⟨rfl, hB⟩
  go_wp2
  go_ret2
  exact ⟨rfl, hB⟩
theorem dec_no {g n k gf c : Nat} {A : Option Addr} (R : Option Addr) (m rc : Nat) (ls : List Int) (S : Option Addr) (q d : Nat) (L : List (List UInt8)) (w : World) (hg : CodeAt w g n k gf A c) (hR : RdV w R m (ivs ls)) (h : MR w S q L) (hq : q ≤ 140737488355328) (hm : m ≤ 140737488355328) (hL : ∀ r ∈ L, r.length ≤ 140737488355328) (hno : m < k ∨ toldB n ls L = false) :
    Calls Try.prog 43 #[.pointer (some ⟨g, 0, none⟩), .slice R m rc, .slice S q d] w (NotM w 40) := by
  have HX := Lib.hid (back_no R m rc ls S q d L w hg hR h hq hm hL hno)
  clear hg hR h hL hno
  go_enter Try.func43, Try.ntmps43
  go_wp2_with fail
  refine HX.out.mono ?_
  rintro e w' ⟨rfl, hB⟩
  go_wp2
  go_ret2
  exact ⟨rfl, hB⟩
theorem dec_yes {g n k gf c : Nat} {A : Option Addr} (R : Option Addr) (m rc : Nat) (la : List Nat) (S : Option Addr) (d s : Nat) (D : Fn2) (w : World) (hg : CodeAt w g n k gf A c) (hR : RdV w R m (nvs la)) (h : MR w S m (tabM m s D)) (hs : s ≤ 65536) (hm : m ≤ 1000000) (hrc : m ≤ rc) (hp : Places n la) (hkm : k ≤ m) :
    Calls Try.prog 43 #[.pointer (some ⟨g, 0, none⟩), .slice R m rc, .slice S m d] w (GotM w k (tabM k s (mulF k (invC k (la.take k)) D))) := by
  have h1 := hg.k1
  have h2 := hg.kn
  have h3 := hg.n255
  have HX := Lib.hid (back_yes R m rc la S d s D w hg hR h hs (by omega) hrc hp hkm)
  have H := Lib.hid hg
  have HS := Lib.hid h
  clear hg hR h hp
  go_enter Try.func43, Try.ntmps43
  go_wp2_with fail
  refine HX.out.mono ?_
  rintro e w1 ⟨Y, yc, rfl, hY, hB⟩
  have HY := Lib.hid hY
  have HB := Lib.hid hB
  have hc0 : w1.cell? ⟨g, 0, none⟩ = some (.pointer (some ⟨gf, 0, none⟩)) := (hB.cell (p := ⟨g, 0, none⟩) H.out.lt).trans H.out.c0
  clear hY hB HX
  go_wp2_with fail
  refine (each_prod gf S m d s D Y k yc k (invC k (la.take k)) w1 (H.out.fld.below HB.out H.out.fld.lt) (HS.out.below HB.out (Nat.le_refl _)) HY.out.mr hkm (by omega) hm (by omega) (by omega)).mono ?_
  rintro e w2 ⟨X, xc, rfl, hX, hB2⟩
  go_wp2
  go_ret2
  exact ⟨X, xc, rfl, hX.lower HB.out.size HB.out.size, HB.out.trans (hB2.mono HB.out.size)⟩

/-- a row that was made -/
def GotB (w : World) (s : Nat) (l : List UInt8) (e : Ending) (w' : World) : Prop :=
  ∃ X c, e = .returned (.tuple #[.slice X s c, .int .i64 0]) ∧ Own w' w.heap.size 5 X s c l ∧ Below w.heap.size w w'
end Go.Proofs.Ytkkpfehgobanbaa
