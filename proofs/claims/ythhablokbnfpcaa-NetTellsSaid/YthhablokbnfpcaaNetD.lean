/- Look. -/
import Derived.Test.YthhablokbnfpcaaNetC
import Derived.Laws.ResultCell
namespace Go.Proofs.Ythhablokbnfpcaa
open Go.RowKit Go.Coop Go.Maps
set_option maxRecDepth 100000
/-- a datagram, as the model's value -/
abbrev DV (fr to : Int) (A : Option Addr) (n c : Nat) : Value := .agg #[.int .i64 fr, .int .i64 to, .slice A n c]
/-- bytes of their own -/
structure Nw (w : World) (lo : Nat) (A : Option Addr) (l : List UInt8) : Prop where
  rd : Rd w A l.length l
  own : ∃ k cur fr, A = some ⟨k, 0, none⟩ ∧ lo ≤ k ∧ w.heap[k]? = some (.cells cur 5 fr) ∧ ∀ j, j < l.length → w.frozen? ⟨k, j, none⟩ = false
theorem Nw.lower {w : World} {lo lo' : Nat} {A : Option Addr} {l : List UInt8} (h : Nw w lo A l) (hl : lo' ≤ lo) : Nw w lo' A l := by
  obtain ⟨k, cur, fr, h1, h2, h3⟩ := h.own
  exact ⟨h.rd, k, cur, fr, h1, by omega, h3⟩
theorem rd_but {w w' : World} {gs : List Nat} {ad : Addr} {n : Nat} {l : List UInt8} (hr : Rd w (some ad) n l) (hb : But gs w w') (hn : ad.block ∉ gs) : Rd w' (some ad) n l :=
  ⟨hr.len, fun h0 => by
    obtain ⟨ad', e, hlt, hc⟩ := hr.cells h0
    injection e with e
    subst e
    refine ⟨ad, rfl, Nat.lt_of_lt_of_le hlt hb.size, fun j c' hj => ?_⟩
    have := hc j c' hj
    have e : w'.heap[ad.block]? = w.heap[ad.block]? := hb.block _ hlt hn
    exact (World.cell?_of_block (w := w) (by rw [addr_add_block]; exact e)).trans this⟩
theorem frozen_block {w w' : World} {k j : Nat} (h : w'.heap[k]? = w.heap[k]?) : w'.frozen? ⟨k, j, none⟩ = w.frozen? ⟨k, j, none⟩ := by
  simp only [World.frozen?, h]
theorem Nw.but {w w' : World} {lo : Nat} {A : Option Addr} {l : List UInt8} {gs : List Nat} (h : Nw w lo A l) (hb : But gs w w') (hn : ∀ k, k ∈ gs → ∀ cur fr, w.heap[k]? ≠ some (.cells cur 5 fr)) : Nw w' lo A l := by
  obtain ⟨k, cur, fr, rfl, h2, h3, h4⟩ := h.own
  have hk : k ∉ gs := fun hm => hn k hm cur fr h3
  have e := hb.block k (Array.getElem?_eq_some_iff.1 h3).1 hk
  exact ⟨rd_but h.rd hb hk, k, cur, fr, rfl, h2, e.trans h3, fun j hj => (frozen_block e).trans (h4 j hj)⟩
theorem Nw.below {w w' : World} {lo : Nat} {A : Option Addr} {l : List UInt8} (h : Nw w lo A l) (hb : Below w.heap.size w w') : Nw w' lo A l := h.but (gs := []) (But.of_below hb) (by simp)
theorem nw_bytes (w : World) (l : List UInt8) : Nw (Lib.bytesWorld w 5 ⟨l.toArray⟩) w.heap.size (some ⟨w.heap.size, 0, none⟩) l := by
  have h := rd_bytes w 5 ⟨l.toArray⟩
  refine ⟨by simpa [ByteArray.size] using h, _, _, _, rfl, Nat.le_refl _, Lib.bytesWorld_at_new w 5 _, fun j hj => ?_⟩
  simp only [World.frozen?, Lib.bytesWorld_at_new]
  have hs : l.length ≤ (Lib.bytesCells w 5 ⟨l.toArray⟩).size := by simp [Lib.bytesCells]
  simp
  omega
theorem row3 {w : World} {b : Nat} {T : TypeId} {x0 x1 x2 v0 v1 v2 : Value} (h : w.heap[b]? = some (.cells #[x0, x1, x2] T (0, 0))) : (((w.setCell ⟨b, 0, none⟩ v0).setCell ⟨b, 1, none⟩ v1).setCell ⟨b, 2, none⟩ v2).heap[b]? = some (.cells #[v0, v1, v2] T (0, 0)) := by
  have h1 := heap_setCell_same w b 0 _ T v0 h
  have h2 := heap_setCell_same _ b 1 _ T v1 h1
  exact heap_setCell_same _ b 2 _ T v2 h2
theorem size34 : (Try.prog.info? 34).map (·.size) = some 3 := by kernel_rfl
theorem load34 {w : World} {b : Nat} {a0 a1 a2 : Value} (h : w.heap[b]? = some (.cells #[a0, a1, a2] 34 (0, 0))) : (loadVar 34 ⟨b, 0, none⟩).run Try.prog w = .ok (.agg #[a0, a1, a2]) w :=
  run_loadVar_at w ⟨b, 0, none⟩ 34 [a0, a1, a2] _ (fun j v hj => by
    rw [addr_at, Nat.zero_add, cell_of_row w b j _ 34 (0, 0) h]
    simpa using hj) Try.underlying34 rfl size34
/-- what Look leaves -/
def LookD (d : Dt) (w : World) (e : Ending) (w' : World) : Prop := ∃ A c, e = .returned (.tuple #[DV d.fr d.to A d.b.length c, .bool true]) ∧ Nw w' w.heap.size A d.b ∧ Below w.heap.size w w'
def LookN (w : World) (e : Ending) (w' : World) : Prop := e = .returned (.tuple #[DV 0 0 none 0 0, .bool false]) ∧ Below w.heap.size w w'
section
variable (w : World) {B g c cap : Nat} {A : Option Addr} {S : NS}
theorem look_none {p : Option Addr} (h : NoN w p) (i : Int) : Calls Try.prog 17 #[.pointer p, .int .i64 i] w (LookN w) := by
  obtain ⟨w1, hw1⟩ : ∃ w1, w.alloc (.cells #[.int .i64 0, .int .i64 0, .slice none 0 0] 34) = w1 := ⟨_, rfl⟩
  have hx : w1.heap[w.heap.size]? = some (.cells #[.int .i64 0, .int .i64 0, .slice none 0 0] 34 (0, 0)) := hw1 ▸ heap_alloc_new w _
  have HB : Hid (Below w.heap.size w w1) := hw1 ▸ (Below.refl _ w).alloc (Nat.le_refl _) _
  have H := Lib.hid (h.below HB.out (Nat.le_refl _))
  have k0 := cell_of_row _ _ 0 _ 34 (0, 0) hx
  have k1 := cell_of_row _ _ 1 _ 34 (0, 0) hx
  have k2 := cell_of_row _ _ 2 _ 34 (0, 0) hx
  have r0 := frozen_of_row _ _ 0 _ 34 hx
  have r1 := frozen_of_row _ _ 1 _ 34 hx
  have r2 := frozen_of_row _ _ 2 _ 34 hx
  simp at k0 k1 k2
  have HX := Lib.hid hx
  clear h hx
  go_enter Try.func17, Try.ntmps17
  go_wp2_with fail
  refine (has_no _ H.out i).mono ?_
  rintro e w' ⟨rfl, rfl⟩
  go_wp2
  refine bodyPost_ret (v := .tuple #[DV 0 0 none 0 0, .bool false]) ?_ rfl ⟨rfl, ?_⟩
  · rw [results_cell_tmp rfl]
    simp [asAddr, Result.andThen, load34 (row3 HX.out)]
  · exact ((HB.out.setCell (by simp) _).setCell (by simp) _).setCell (by simp) _
theorem look_out (h : NetAt w B g A cap c S) {i : Int} (hl : S.look i = none) : Calls Try.prog 17 #[.pointer (some ⟨g, 0, none⟩), .int .i64 i] w (LookN w) := by
  obtain ⟨w1, hw1⟩ : ∃ w1, w.alloc (.cells #[.int .i64 0, .int .i64 0, .slice none 0 0] 34) = w1 := ⟨_, rfl⟩
  have hx : w1.heap[w.heap.size]? = some (.cells #[.int .i64 0, .int .i64 0, .slice none 0 0] 34 (0, 0)) := hw1 ▸ heap_alloc_new w _
  have HB : Hid (Below w.heap.size w w1) := hw1 ▸ (Below.refl _ w).alloc (Nat.le_refl _) _
  have H := Lib.hid (h.below HB.out)
  have HL : Hid ((S.look i).isSome = false) := by rw [hl]; rfl
  have k0 := cell_of_row _ _ 0 _ 34 (0, 0) hx
  have k1 := cell_of_row _ _ 1 _ 34 (0, 0) hx
  have k2 := cell_of_row _ _ 2 _ 34 (0, 0) hx
  have r0 := frozen_of_row _ _ 0 _ 34 hx
  have r1 := frozen_of_row _ _ 1 _ 34 hx
  have r2 := frozen_of_row _ _ 2 _ 34 hx
  simp at k0 k1 k2
  have HX := Lib.hid hx
  clear h hx hl
  go_enter Try.func17, Try.ntmps17
  go_wp2_with fail
  refine (has_is _ H.out i HL.out).mono ?_
  rintro e w' ⟨rfl, rfl⟩
  go_wp2
  refine bodyPost_ret (v := .tuple #[DV 0 0 none 0 0, .bool false]) ?_ rfl ⟨rfl, ?_⟩
  · rw [results_cell_tmp rfl]
    simp [asAddr, Result.andThen, load34 (row3 HX.out)]
  · exact ((HB.out.setCell (by simp) _).setCell (by simp) _).setCell (by simp) _
theorem look_is (h : NetAt w B g A cap c S) {i : Nat} {d : Dt} (hd : S.heap[i]? = some d) : Calls Try.prog 17 #[.pointer (some ⟨g, 0, none⟩), .int .i64 (i : Int)] w (LookD d w) := by
  obtain ⟨w1, hw1⟩ : ∃ w1, w.alloc (.cells #[.int .i64 0, .int .i64 0, .slice none 0 0] 34) = w1 := ⟨_, rfl⟩
  have hx : w1.heap[w.heap.size]? = some (.cells #[.int .i64 0, .int .i64 0, .slice none 0 0] 34 (0, 0)) := hw1 ▸ heap_alloc_new w _
  have HB : Hid (Below w.heap.size w w1) := hw1 ▸ (Below.refl _ w).alloc (Nat.le_refl _) _
  have h1 := h.below HB.out
  have H := Lib.hid h1
  have hl : S.look (i : Int) = some d := by rw [NS.look_at]; exact hd
  have HL : Hid ((S.look (i : Int)).isSome = true) := by rw [hl]; rfl
  obtain ⟨r, rfl, d0, d1, d2⟩ := h1.get hd
  have c3 := h1.c3
  have hj1 : (0 : Int) ≤ (i : Int) := by omega
  have hj2 : (i : Int) < (S.heap.length : Int) := by have := (List.getElem?_eq_some_iff.1 hd).1; omega
  obtain ⟨w2, hw2⟩ : ∃ w2, w1.alloc (.cells #[.int .i64 (d.fr : Int), .int .i64 (d.to : Int), SV d.b] 80) = w2 := ⟨_, rfl⟩
  have hcv := Lib.run_convert_string_bytes (P := Try.prog) w2 9 29 5 ⟨d.b.toArray⟩ Try.underlying9 Try.underlying29 Try.underlying5
  have hs : (⟨d.b.toArray⟩ : ByteArray).size = d.b.length := by simp [ByteArray.size]
  rw [hs] at hcv
  obtain ⟨gc, hgc⟩ : ∃ gc, grownCap w2 d.b.length 0 5 = gc := ⟨_, rfl⟩
  rw [hgc] at hcv
  have hy : w2.heap[w1.heap.size]? = some (.cells #[.int .i64 (d.fr : Int), .int .i64 (d.to : Int), SV d.b] 80 (0, 0)) := hw2 ▸ heap_alloc_new w1 _
  have e0 := cell_of_row _ _ 0 _ 80 (0, 0) hy
  have e1 := cell_of_row _ _ 1 _ 80 (0, 0) hy
  have e2 := cell_of_row _ _ 2 _ 80 (0, 0) hy
  simp at e0 e1 e2
  have hB12 : Below w1.heap.size w1 w2 := hw2 ▸ (Below.refl _ _).alloc (Nat.le_refl _) _
  have hlt : w.heap.size < w1.heap.size := by rw [← hw1]; simp
  have hx2 : w2.heap[w.heap.size]? = some (.cells #[.int .i64 0, .int .i64 0, .slice none 0 0] 34 (0, 0)) := (hB12.block _ hlt).trans hx
  obtain ⟨w3, hw3⟩ : ∃ w3, Lib.bytesWorld w2 5 ⟨d.b.toArray⟩ = w3 := ⟨_, rfl⟩
  have hB23 : Below w2.heap.size w2 w3 := hw3 ▸ below_bytes w2 5 _
  have hlt2 : w1.heap.size ≤ w2.heap.size := hB12.size
  have hx3 : w3.heap[w.heap.size]? = some (.cells #[.int .i64 0, .int .i64 0, .slice none 0 0] 34 (0, 0)) := (hB23.block _ (by omega)).trans hx2
  have hN : Nw w3 w2.heap.size (some ⟨w2.heap.size, 0, none⟩) d.b := hw3 ▸ nw_bytes w2 d.b
  have k0 := cell_of_row _ _ 0 _ 34 (0, 0) hx3
  have k1 := cell_of_row _ _ 1 _ 34 (0, 0) hx3
  have k2 := cell_of_row _ _ 2 _ 34 (0, 0) hx3
  have r0 := frozen_of_row _ _ 0 _ 34 hx3
  have r1 := frozen_of_row _ _ 1 _ 34 hx3
  have r2 := frozen_of_row _ _ 2 _ 34 hx3
  simp at k0 k1 k2
  rw [hw3] at hcv
  have HX := Lib.hid hx3
  have HQ := Lib.hid (And.intro hN (And.intro hlt (And.intro hlt2 (HB.out.trans ((hB12.mono (by omega)).trans (hB23.mono (by omega)))))))
  clear hs hy hgc h h1 hx hl hd hx2 hx3 hN hB12 hB23 hlt hlt2 hw3
  go_enter Try.func17, Try.ntmps17
  go_wp2_with fail
  refine (has_is _ H.out _ HL.out).mono ?_
  rintro e w' ⟨rfl, rfl⟩
  go_wp2
  refine bodyPost_ret (v := .tuple #[DV d.fr d.to (some ⟨w2.heap.size, 0, none⟩) d.b.length gc, .bool true]) ?_ rfl ⟨_, _, rfl, ?_, ?_⟩
  · rw [results_cell_tmp rfl]
    simp [asAddr, Result.andThen, load34 (row3 HX.out)]
  · refine (HQ.out.1.but (gs := [w.heap.size]) ((((But.refl _ _).setCell (by simp) _).setCell (by simp) _).setCell (by simp) _) (fun k hk cur fr => ?_)).lower (by have := HQ.out; omega)
    simp at hk
    subst hk
    rw [HX.out]
    intro e
    injection e with e
    injection e with _ e _
    cases e
  · exact ((HQ.out.2.2.2.setCell (by simp) _).setCell (by simp) _).setCell (by simp) _
end
end Go.Proofs.Ythhablokbnfpcaa
