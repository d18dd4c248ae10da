/- NetOwn's helpers: a copy of bytes; a row of one's own is written over. -/
import Derived.Test.YthhablokbnfpcaaAwk
namespace Go.Proofs.Ythhablokbnfpcaa
open Go.RowKit Go.Coop Go.Maps
set_option maxRecDepth 100000
theorem Nw.of_own {w : World} {base c : Nat} {A : Option Addr} {n : Nat} {l : List UInt8} (h : Go.Coop.Own w base 5 A n c l) (hn : 0 < n) : Nw w base A l := by
  rcases h.row.2 with ⟨_, h0⟩ | ⟨g, cap, cur, hv, hb, hg, _⟩
  · omega
  · injection hv with hA _ _
    subst hA
    refine ⟨by have := h.rd; rw [← h.len] at this; exact this, g, cur, _, rfl, hb, hg, fun j _ => ?_⟩
    simp [World.frozen?, hg]
theorem copy_any (A : Option Addr) (n c : Nat) (l : List UInt8) (w : World) (hr : Rd w A n l) (hn : n ≤ 140737488355328) :
    Calls Try.prog 37 #[.slice A n c] w fun e w' => ∃ A c, e = .returned (.slice A n c) ∧ Go.Coop.Own w' w.heap.size 5 A n c l ∧ Below w.heap.size w w' := by
  go_enter Try.func37, Try.ntmps37
  go_wp2_with (at_builtin; refine wpList_app _ rfl (.tmp 4) (.tmp 5) _ rfl w.heap.size 5 Try.underlying29 info5 (A := none) (n := 0) (c := 0) rfl (Own.nil _ _ _) rfl hr (by omega) (Nat.le_refl _) n (by omega) ?_; intro A' c' w' ho hg hat)
  go_ret
  refine ⟨A', c', rfl, by simpa using ho, (Below.refl _ _).grown hg (Nat.le_refl _) (by simp)⟩
/-- a row of bytes, whatever they are -/
structure Any5 (w : World) (k n : Nat) : Prop where
  cell : ∀ j, j < n → ∃ x : Int, w.cell? ⟨k, j, none⟩ = some (.int .u8 x)
  free : ∀ j, j < n → w.frozen? ⟨k, j, none⟩ = false
theorem Nw.any5 {w : World} {lo : Nat} {A : Option Addr} {l : List UInt8} (h : Nw w lo A l) : ∃ k cur fr, A = some ⟨k, 0, none⟩ ∧ lo ≤ k ∧ w.heap[k]? = some (.cells cur 5 fr) ∧ Any5 w k l.length := by
  obtain ⟨k, cur, fr, rfl, h2, h3, h4⟩ := h.own
  refine ⟨k, cur, fr, rfl, h2, h3, fun j hj => ?_, h4⟩
  obtain ⟨ad, ea, _, hc⟩ := h.rd.cells (by omega)
  injection ea with ea
  subst ea
  have := hc j _ (List.getElem?_eq_getElem hj)
  have e : (⟨k, 0, none⟩ : Addr).add j = ⟨k, j, none⟩ := by unfold Addr.add; split <;> simp_all
  rw [e] at this
  exact ⟨_, this⟩
theorem Any5.set {w : World} {k n j : Nat} (h : Any5 w k n) (hj : j < n) (x : Int) : Any5 (w.setCell ⟨k, j, none⟩ (.int .u8 x)) k n := by
  refine ⟨fun i hi => ?_, fun i hi => by rw [World.frozen?_setCell]; exact h.free i hi⟩
  by_cases e : j = i
  · subst e
    obtain ⟨y, hy⟩ := h.cell j hj
    exact ⟨x, World.cell?_setCell_same _ _ _ hy⟩
  · obtain ⟨y, hy⟩ := h.cell i hi
    exact ⟨y, (World.cell?_setCell_other _ _ _ _ (by intro q; injection q with _ q _; exact e q)).trans hy⟩
theorem spoil_is (w : World) {k n c : Nat} (h : Any5 w k n) (hn : n ≤ 100) : Calls Try.prog 36 #[.slice (some ⟨k, 0, none⟩) n c] w fun e w' => e = .returned (.tuple #[]) ∧ But [k] w w' := by
  have H := Lib.hid h
  clear h
  go_enter Try.func36, Try.ntmps36
  go_wp2
  go_loopw [5] (fun i wr => ∃ j : Nat, j ≤ n ∧ i = .int .i64 j ∧ Hid (Any5 wr k n ∧ But [k] w wr)) (fun i _ => n - (Go.RowKit.intOf i).toNat)
  case atStart => exact ⟨0, by omega, rfl, H.out, But.refl _ _⟩
  case round =>
    obtain ⟨j, hj, rfl, HR⟩ := hrel
    by_cases hlt : j < n
    · have hi1 : (0 : Int) ≤ (j : Int) := by omega
      have hi2 : (j : Int) < (n : Int) := by omega
      have hw1 : IntKind.i64.wrap ((j : Int) + 1) = (j : Int) + 1 := IntWalk.i64_in _ (by omega)
      obtain ⟨x, hx⟩ := HR.out.1.cell j hlt
      have hf := HR.out.1.free j hlt
      have HL := Lib.hid hlt
      clear hlt
      go_wp2
      go_roundw
      case rel => exact ⟨j + 1, by have := HL.out; omega, by go_num, HR.out.1.set HL.out _, HR.out.2.setCell (by simp) _⟩
      case measure => have := HL.out; simp [Go.RowKit.intOf]; omega
    · obtain rfl : j = n := by omega
      have HX := Lib.hid HR.out.2
      clear HR hlt hj
      go_wp2
      go_end0
      exact ⟨rfl, HX.out⟩
theorem Nt.but5 {w w' : World} {B g c k : Nat} {S : NS} (h : Nt w B g c S) (hb : But [k] w w') {cur : Array Value} {fr : Nat × Nat} (hk : w.heap[k]? = some (.cells cur 5 fr)) : Nt w' B g c S := by
  obtain ⟨h0, A, cap, hA, h1⟩ := h
  refine ⟨Nat.le_trans h0 hb.size, A, cap, hA, h1.but hb fun j hj hm => ?_⟩
  simp at hm
  subst hm
  exact h1.nb34 hk (by decide) (by decide) hj
end Go.Proofs.Ythhablokbnfpcaa
