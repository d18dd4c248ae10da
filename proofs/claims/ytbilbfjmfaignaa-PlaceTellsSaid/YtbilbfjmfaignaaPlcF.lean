/- Rows that are made; the closure of First upon one placement. -/
import Derived.Test.YtbilbfjmfaignaaPlcE
namespace Go.Proofs.Ytbilbfjmfaignaa
open Go.RowKit Go.Coop
set_option maxRecDepth 100000
def zPc : Pc := ⟨0, none, 0, 0, []⟩
def zr (n : Nat) : List Value := (List.replicate n (0 : Int)).map IV
def zrp (n : Nat) : List Value := pcs (List.replicate n zPc)
theorem made3 (n : Nat) : madeCells (Value.int .i64 0).cells (n * 1) = ((List.replicate n (0 : Int)).map IV).toArray := by
  apply Array.ext_getElem?
  intro j
  by_cases h : j < n
  · simp [madeCells, h, Value.cells, Nat.mod_one]
  · rw [Array.getElem?_eq_none (by simp [madeCells]; omega), Array.getElem?_eq_none (by simp; omega)]
theorem pcs_zero_at : ∀ (n j : Nat), j < n * 2 → (pcs (List.replicate n zPc))[j]? = some (if j % 2 = 0 then .int .i64 0 else .slice none 0 0)
  | 0, j, h => by omega
  | n + 1, j, h => by
    rw [List.replicate_succ]
    simp only [pcs, List.flatMap_cons]
    match j, h with
    | 0, _ => rfl
    | 1, _ => rfl
    | j + 2, h =>
      have := pcs_zero_at n j (by omega)
      have hl : zPc.cells.length = 2 := rfl
      rw [List.getElem?_append_right (by rw [hl]; omega), hl, Nat.add_sub_cancel, show (j + 2) % 2 = j % 2 by omega]
      exact this
theorem made30 (n : Nat) : madeCells (Value.agg #[.int .i64 0, .slice none 0 0]).cells (n * 2) = (pcs (List.replicate n zPc)).toArray := by
  apply Array.ext_getElem?
  intro j
  by_cases h : j < n * 2
  · rw [List.getElem?_toArray (xs := pcs (List.replicate n zPc)), pcs_zero_at n j h]
    have : j % 2 = 0 ∨ j % 2 = 1 := by omega
    rcases this with e | e <;> simp [madeCells, h, Value.cells, e]
  · rw [Array.getElem?_eq_none (by simp [madeCells]; omega), Array.getElem?_eq_none (by simp [pcs_len]; omega)]
theorem make28 (n : Nat) (hk : n ≤ 1000000) (W : World) : (Instr.makeSlice 28 (.int .i64 (n : Int)) (.int .i64 (n : Int))).run Try.prog W = .ok (.slice (some ⟨W.heap.size, 0, none⟩) n n) (W.alloc (.cells (zr n).toArray 3)) := by
  obtain ⟨i, hi, hz, hs, hb⟩ := info_parts info3
  have := run_make (P := Try.prog) W 28 3 i (.int .i64 0) Try.underlying28 hi hz .i64 .i64 n n (by omega) (by omega) (by rw [hb]; omega) (by omega)
  rw [hs, Int.toNat_natCast, made3] at this
  exact this
theorem make24 (n : Nat) (hk : n ≤ 1000000) (W : World) : (Instr.makeSlice 24 (.int .i64 (n : Int)) (.int .i64 (n : Int))).run Try.prog W = .ok (.slice (some ⟨W.heap.size, 0, none⟩) n n) (W.alloc (.cells (zrp n).toArray 30)) := by
  obtain ⟨i, hi, hz, hs, hb⟩ := info_parts info30
  have := run_make (P := Try.prog) W 24 30 i _ Try.underlying24 hi hz .i64 .i64 n n (by omega) (by omega) (by rw [hb]; omega) (by omega)
  rw [hs, Int.toNat_natCast, made30] at this
  exact this
theorem own_of_block {w : World} {B g n : Nat} {vs : List Value} (hB : B ≤ g) (hg : w.heap[g]? = some (.cells vs.toArray 3 (0, 0))) (hl : vs.length = n) (hn : n ≤ 1000000) : OwnV w B 3 (some ⟨g, 0, none⟩) n n vs := by
  refine ⟨hl, by omega, .inr ⟨g, n, vs.toArray, rfl, hB, hg, Nat.le_refl _, by unfold maxLen; omega, by simp [hl], ?_⟩⟩
  simp [← hl]
/-- a box holds that -/
def Box (w : World) (p : Nat) (v : Value) (E : TypeId) : Prop := w.heap[p]? = some (.cells #[v] E (0, 0))
theorem Box.cell {w : World} {p : Nat} {v : Value} {E : TypeId} (h : Box w p v E) : w.cell? ⟨p, 0, none⟩ = some v := cell_of_one h
theorem Box.free {w : World} {p : Nat} {v : Value} {E : TypeId} (h : Box w p v E) : w.frozen? ⟨p, 0, none⟩ = false := free_of_one h
theorem Box.lt {w : World} {p : Nat} {v : Value} {E : TypeId} (h : Box w p v E) : p < w.heap.size := lt_of_block h
theorem Box.but {gs : List Nat} {w w' : World} {p : Nat} {v : Value} {E : TypeId} (h : Box w p v E) (hb : But gs w w') (hg : p ∉ gs) : Box w' p v E := hb.cells h hg
theorem Box.below {B : Nat} {w w' : World} {p : Nat} {v : Value} {E : TypeId} (h : Box w p v E) (hb : Below B w w') (hB : w.heap.size ≤ B) : Box w' p v E := (hb.block p (by have := h.lt; omega)).trans h
theorem ne_of_type {w : World} {p g : Nat} {c1 c2 : Array Value} {E F : TypeId} {f f' : Nat × Nat} (h1 : w.heap[p]? = some (.cells c1 E f)) (h2 : w.heap[g]? = some (.cells c2 F f')) (hE : E ≠ F) : p ≠ g := by
  rintro rfl
  rw [h1] at h2
  injection h2 with e
  injection e with _ e _
  exact hE e
/-- the row of places in which one stands -/
def RowAt (w : World) (g : Nat) (l : List Value) (x0 x1 : Value) (r : List Value) : Prop := w.heap[g]? = some (.cells (l ++ [x0, x1] ++ r).toArray 30 (0, 0))
theorem RowAt.cells {w : World} {g : Nat} {l r : List Value} {x0 x1 : Value} (h : RowAt w g l x0 x1 r) : (w.cell? ⟨g, l.length, none⟩ = some x0 ∧ w.cell? ⟨g, l.length + 1, none⟩ = some x1) ∧ w.frozen? ⟨g, l.length, none⟩ = false ∧ w.frozen? ⟨g, l.length + 1, none⟩ = false := by
  refine ⟨⟨?_, ?_⟩, frozen_of_row w g _ _ 30 h, frozen_of_row w g _ _ 30 h⟩
  · rw [cell_of_row _ g _ _ 30 (0, 0) h]
    simp
  · rw [cell_of_row _ g _ _ 30 (0, 0) h]
    simp
theorem RowAt.set0 {w : World} {g : Nat} {l r : List Value} {x0 x1 : Value} (h : RowAt w g l x0 x1 r) (v : Value) : RowAt (w.setCell ⟨g, l.length, none⟩ v) g l v x1 r := by
  have := heap_setCell_same w g l.length _ 30 v h
  unfold RowAt
  rw [this]
  simp
theorem RowAt.set1 {w : World} {g : Nat} {l r : List Value} {x0 x1 : Value} (h : RowAt w g l x0 x1 r) (v : Value) : RowAt (w.setCell ⟨g, l.length + 1, none⟩ v) g l x0 v r := by
  have := heap_setCell_same w g (l.length + 1) _ 30 v h
  unfold RowAt
  rw [this]
  simp
theorem RowAt.lt {w : World} {g : Nat} {l r : List Value} {x0 x1 : Value} (h : RowAt w g l x0 x1 r) : g < w.heap.size := lt_of_block h
theorem RowAt.but {gs : List Nat} {w w' : World} {g : Nat} {l r : List Value} {x0 x1 : Value} (h : RowAt w g l x0 x1 r) (hb : But gs w w') (hg : g ∉ gs) : RowAt w' g l x0 x1 r := hb.cells h hg
section
variable (w : World)
theorem cl_first {g o : Nat} {l r : List Value} {x0 x1 : Value} (hl : l.length = o) (hr : RowAt w g l x0 x1 r) {b1 b2 n nodes k : Nat} (h1 : Box w b1 (.int .i64 n) 3) (h2 : Box w b2 (.int .i64 nodes) 3) (hn : n ≤ 255) (hd : 1 ≤ nodes) (hd2 : nodes ≤ 256) (hk : k ≤ 1000) :
    Calls Try.prog 36 #[.int .i64 (k : Int), .pointer (some ⟨g, o, none⟩), .pointer (some ⟨b1, 0, none⟩), .pointer (some ⟨b2, 0, none⟩)] w fun e w' => e = .returned (.tuple #[]) ∧ ∃ A c, RowAt w' g l (.int .i64 1) (.slice A n c) r ∧ OwnV w' w.heap.size 3 A n c ((row1 nodes n k).map IV) ∧ But [g] w w' := by
  have n1 : b1 ≠ g := ne_of_type h1 hr (by decide)
  have n2 : b2 ≠ g := ne_of_type h2 hr (by decide)
  have n1' := n1.symm
  have n2' := n2.symm
  have hg := hr.lt
  obtain ⟨⟨c0, c1⟩, f0, f1⟩ := hr.cells
  rw [hl] at c0 c1 f0 f1
  have d1 := h1.cell
  have d2 := h2.cell
  have mk := make28 n (by omega)
  obtain ⟨wa, hwa⟩ : ∃ v, w.setCell ⟨g, o, none⟩ (.int .i64 1) = v := ⟨_, rfl⟩
  obtain ⟨wb, hwb⟩ : ∃ v, wa.alloc (.cells (zr n).toArray 3) = v := ⟨_, rfl⟩
  obtain ⟨wc, hwc⟩ : ∃ v, wb.setCell ⟨g, o + 1, none⟩ (.slice (some ⟨wa.heap.size, 0, none⟩) n n) = v := ⟨_, rfl⟩
  have hra : RowAt wa g l (.int .i64 1) x1 r := by rw [← hwa, ← hl]; exact hr.set0 _
  have ha : But [g] w wa := by rw [← hwa]; exact (But.refl _ _).setCell (by simp) _
  obtain ⟨hbb, hxb⟩ := box_new hwb
  have hrb : RowAt wb g l (.int .i64 1) x1 r := (hbb.block _ hra.lt).trans hra
  have hrc : RowAt wc g l (.int .i64 1) (.slice (some ⟨wa.heap.size, 0, none⟩) n n) r := by rw [← hwc, ← hl]; exact hrb.set1 _
  have hsa : wa.heap.size = w.heap.size := by rw [← hwa]; simp
  have hbc : But [g] w wc := by rw [← hwc]; exact (ha.trans (But.of_below hbb)).setCell (by simp) _
  obtain ⟨B0, hB0⟩ : ∃ B0, wa.heap.size = B0 := ⟨_, rfl⟩
  rw [hB0] at hwc hrc hxb hsa
  have hgB : g ≠ B0 := by omega
  have hxc : wc.heap[B0]? = some (.cells (zr n).toArray 3 (0, 0)) := by
    rw [← hwc]
    exact (Below.heap_setCell _ _ _ _ (by simp; omega)).trans hxb
  have h1a := h1.but ha (by simpa using n1)
  have h2a := h2.but ha (by simpa using n2)
  have h1c := h1.but hbc (by simpa using n1)
  have h2c := h2.but hbc (by simpa using n2)
  have da1 := h1a.cell
  obtain ⟨⟨cb0, cb1⟩, fb0, fb1⟩ := hrb.cells
  obtain ⟨⟨cc0, cc1⟩, fc0, fc1⟩ := hrc.cells
  rw [hl] at cb0 cb1 fb0 fb1 cc0 cc1 fc0 fc1
  have H := Lib.hid (And.intro hl (And.intro hrc (And.intro h1c (And.intro h2c (And.intro hbc (And.intro hxc (And.intro hsa (And.intro hgB (And.intro h1.lt h2.lt)))))))))
  clear hl hr h1 h2 h1a h2a h1c h2c hra ha hbb hrb hrc hbc hxb hxc hsa hgB
  go_enter Try.func36, Try.ntmps36
  go_wp2
  (try rw [hwa]); (try rw [hB0]); (try rw [hwb]); (try rw [hwc])
  clear c0 c1 f0 f1 d1 d2 mk hwa hwb hwc hB0 da1 cb0 cb1 fb0 fb1 cc0 cc1 fc0 fc1
  go_loopw [6, 20] (fun _ s20 wr => ∃ j : Nat, j ≤ n ∧ s20 = .int .i64 j ∧ Hid (∃ vs : List Int, vs.length = n ∧ wr.heap[B0]? = some (.cells (vs.map IV).toArray 3 (0, 0)) ∧ (∀ i, i < j → vs[i]? = (row1 nodes n k)[i]?) ∧ RowAt wr g l (.int .i64 1) (.slice (some ⟨B0, 0, none⟩) n n) r ∧ Box wr b1 (.int .i64 n) 3 ∧ Box wr b2 (.int .i64 nodes) 3 ∧ But [g] w wr)) (fun _ s20 _ => n - (Go.RowKit.intOf s20).toNat)
  case atStart => exact ⟨0, by omega, rfl, (⟨List.replicate n 0, by simp, H.out.2.2.2.2.2.1, by simp, H.out.2.1, H.out.2.2.1, H.out.2.2.2.1, H.out.2.2.2.2.1⟩ : ∃ vs : List Int, _)⟩
  case round =>
    obtain ⟨j, hj, rfl, HR⟩ := hrel
    obtain ⟨vs, v1, v2, v3, v4, v5, v6, v7⟩ := HR.out
    by_cases hlt : j < n
    · have hi1 : (0 : Int) ≤ (j : Int) := by omega
      have hi2 : (j : Int) < (n : Int) := by omega
      have hw1 : IntKind.i64.wrap ((j : Int) + 1) = (j : Int) + 1 := IntWalk.i64_in _ (by omega)
      have hw2 : IntKind.i64.wrap ((k : Int) + (j : Int)) = (k : Int) + (j : Int) := IntWalk.i64_in _ (by omega)
      have hnz : ((nodes : Int) == 0) = false := by simp; omega
      obtain ⟨⟨_, c1⟩, _, _⟩ := v4.cells
      rw [H.out.1] at c1
      have d2 := v6.cell
      have f2 := frozen_of_row _ _ j _ 3 v2
      have e2 := cell_of_row _ _ j _ 3 (0, 0) v2
      obtain ⟨x, hx⟩ : ∃ x, vs[j]? = some x := ⟨_, List.getElem?_eq_getElem (by omega)⟩
      rw [List.getElem?_toArray, List.getElem?_map, hx] at e2
      simp only [Option.map_some] at e2
      have HV := Lib.hid (And.intro v1 (And.intro v2 (And.intro v3 (And.intro v4 (And.intro v5 (And.intro v6 (And.intro v7 hx)))))))
      have hgB := H.out.2.2.2.2.2.2.2.1
      have hlt' := Lib.hid hlt
      clear HR v1 v2 v3 v4 v5 v6 v7 hx hlt
      go_wp2
      go_region
      go_wp2
      go_roundw
      case rel =>
        obtain ⟨v1, v2, v3, v4, v5, v6, v7, hx⟩ := HV.out
        have hlt := hlt'.out
        have hB := H.out.2.2.2.2.2.2.1
        have hne1 : B0 ≠ b1 := by have := H.out.2.2.2.2.2.2.2.2.1; omega
        have hne2 : B0 ≠ b2 := by have := H.out.2.2.2.2.2.2.2.2.2; omega
        refine ⟨j + 1, by omega, by go_num, (⟨vs.set j ((((k + j) % nodes : Nat)) : Int), by simp [v1], ?_, ?_, ?_, ?_, ?_, ?_⟩ : ∃ vs : List Int, _)⟩
        · have := heap_setCell_same wr B0 j _ 3 (.int .i64 (((k : Int) + (j : Int)) % (nodes : Int))) v2
          show (wr.setCell _ _).heap[B0]? = _
          rw [this]
          simp [List.map_set, IV]
        · intro i hi
          rw [List.getElem?_set]
          by_cases e : j = i
          · subst e
            rw [if_pos rfl, if_pos (by omega)]
            simp [row1, hlt]
          · rw [if_neg e]
            exact v3 i (by omega)
        · show RowAt (wr.setCell _ _) g l _ _ r
          exact (Below.heap_setCell _ _ _ _ (by simp; exact hgB)).trans v4
        · show Box (wr.setCell _ _) b1 _ 3
          exact (Below.heap_setCell _ _ _ _ (by simp; omega)).trans v5
        · show Box (wr.setCell _ _) b2 _ 3
          exact (Below.heap_setCell _ _ _ _ (by simp; omega)).trans v6
        · have hs : w.heap.size ≤ B0 := by omega
          refine But.drew ?_
          exact ⟨v7.os, v7.tape, v7.output, by simpa using v7.size, fun i hi hg => (Below.heap_setCell _ _ _ _ (by simp; omega)).trans (v7.block i hi hg)⟩
      case measure => have := hlt'.out; simp [Go.RowKit.intOf]; omega
    · obtain rfl : j = n := by omega
      have HV := Lib.hid (And.intro v1 (And.intro v2 (And.intro v3 (And.intro v4 v7))))
      clear HR v1 v2 v3 v4 v5 v6 v7
      go_wp2
      go_end0
      obtain ⟨v1, v2, v3, v4, v7⟩ := HV.out
      have e : vs = row1 nodes j k := by
        apply List.ext_getElem?
        intro i
        by_cases hi : i < j
        · exact v3 i hi
        · rw [List.getElem?_eq_none (by omega), List.getElem?_eq_none (by simp [row1]; omega)]
      subst e
      exact ⟨rfl, some ⟨B0, 0, none⟩, j, v4, own_of_block (by have := H.out.2.2.2.2.2.2.1; omega) v2 (by simp [v1]) (by omega), v7⟩
end
end Go.Proofs.Ytbilbfjmfaignaa
