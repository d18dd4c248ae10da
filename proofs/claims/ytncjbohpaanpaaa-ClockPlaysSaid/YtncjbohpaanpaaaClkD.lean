/- A clock's methods: made, Now, Due, Next, All, New. -/
import Derived.Test.YtncjbohpaanpaaaClkC
import Derived.RegionTactic
import Derived.BigRegion
import Derived.StillTailTactics
namespace Go.Proofs.Ytncjbohpaanpaaa
open Go.RowKit Go.Coop Go.Maps
set_option maxRecDepth 100000
/-- no clock of New's -/
def NoC (w : World) (p : Option Addr) : Prop := p = none ∨ ∃ g, p = some ⟨g, 0, none⟩ ∧ w.cell? ⟨g, 0, none⟩ = some (.pointer none)
theorem NoC.below {w w' : World} {p : Option Addr} {B : Nat} (h : NoC w p) (hb : Below B w w') (hB : w.heap.size ≤ B) : NoC w' p := by
  rcases h with h | ⟨g, h, hc⟩
  · exact .inl h
  · exact .inr ⟨g, h, (hb.cell (by have := block_lt_of_cell hc; simp at this; show g < B; omega)).trans hc⟩
theorem info57 : (Try.prog.info? 57).map (·.size) = some 5 := by kernel_rfl
theorem ptr_same (w : World) (a : Addr) : (binOp .eql 23 (.pointer (some a)) (.pointer (some a))).run Try.prog w = .ok (.bool true) w := by
  cases hi : Try.prog.info? 57 with
  | none => have := info57; rw [hi] at this; cases this
  | some j => exact run_eql_ptr_same w a Try.underlying23 hi
theorem ptr_nil (w : World) (a : Addr) : (binOp .eql 23 (.pointer none) (.pointer (some a))).run Try.prog w = .ok (.bool false) w := by
  have h : ∀ d : Nat, (Op.equalIn (d + 1) 23 (.pointer none) (.pointer (some a))).run Try.prog w = .ok false w := fun d => by
    simp [Op.equalIn, run_underlying Try.underlying23]
  simp only [binOp]
  simp [Op.equal, Op.maxDepth, h 9999]
theorem row2 {w : World} {b : Nat} {T : TypeId} {x0 x1 v0 v1 : Value} (h : w.heap[b]? = some (.cells #[x0, x1] T (0, 0))) : ((w.setCell ⟨b, 0, none⟩ v0).setCell ⟨b, 1, none⟩ v1).heap[b]? = some (.cells #[v0, v1] T (0, 0)) := by
  have h1 := heap_setCell_same w b 0 _ T v0 h
  exact heap_setCell_same _ b 1 _ T v1 h1
theorem load36 {w : World} {b : Nat} {a0 a1 : Value} (h : w.heap[b]? = some (.cells #[a0, a1] 36 (0, 0))) : (loadVar 36 ⟨b, 0, none⟩).run Try.prog w = .ok (.agg #[a0, a1]) w :=
  run_loadVar_at w ⟨b, 0, none⟩ 36 [a0, a1] _ (fun j v hj => by
    rw [addr_at, Nat.zero_add, cell_of_row w b j _ 36 (0, 0) h]
    simpa using hj) Try.underlying36 rfl size36
/-- a timer as a value; the timer of nothing -/
abbrev TV (t : Tm) : Value := .agg #[.int .i64 t.due, .int .i64 t.id]
def noT : Tm := ⟨0, 0⟩
section
variable (w : World) {B g c cap : Nat} {A : Option Addr} {S : CS}
theorem made_none {p : Option Addr} (h : NoC w p) : Calls Try.prog 30 #[.pointer p] w fun e w' => e = .returned (.bool false) ∧ w = w' := by
  rcases h with rfl | ⟨g, rfl, hc⟩
  · go_enter Try.func30, Try.ntmps30
    go_wp2
    go_ret
    exact ⟨rfl, rfl⟩
  · have he := ptr_nil w ⟨g, 0, none⟩
    go_enter Try.func30, Try.ntmps30
    go_wp2
    go_ret
    exact ⟨rfl, rfl⟩
theorem made_yes (h : ClkAt w B g A cap c S) : Calls Try.prog 30 #[.pointer (some ⟨g, 0, none⟩)] w fun e w' => e = .returned (.bool true) ∧ w = w' := by
  have hc := h.c0
  have he := ptr_same w ⟨g, 0, none⟩
  clear h
  go_enter Try.func30, Try.ntmps30
  go_wp2
  go_ret
  exact ⟨rfl, rfl⟩
theorem now_none {p : Option Addr} (h : NoC w p) : Calls Try.prog 15 #[.pointer p] w fun e w' => e = .returned (.int .i64 0) ∧ w = w' := by
  have H := Lib.hid h
  clear h
  go_enter Try.func15, Try.ntmps15
  go_wp2_with (go_at_call 30; refine (made_none _ H.out).mono ?_; rintro e w' ⟨rfl, rfl⟩)
  go_ret
  exact ⟨rfl, rfl⟩
theorem now_is (h : ClkAt w B g A cap c S) : Calls Try.prog 15 #[.pointer (some ⟨g, 0, none⟩)] w fun e w' => e = .returned (.int .i64 S.now) ∧ w = w' := by
  have hc := h.c2
  have H := Lib.hid h
  clear h
  go_enter Try.func15, Try.ntmps15
  go_wp2_with (go_at_call 30; refine (made_yes _ H.out).mono ?_; rintro e w' ⟨rfl, rfl⟩)
  go_ret
  exact ⟨rfl, rfl⟩
theorem due_none {p : Option Addr} (h : NoC w p) (i : Int) : Calls Try.prog 18 #[.pointer p, .int .i64 i] w fun e w' => e = .returned (.tuple #[.int .i64 0, .bool false]) ∧ w = w' := by
  have H := Lib.hid h
  clear h
  go_enter Try.func18, Try.ntmps18
  go_wp2_with (go_at_call 30; refine (made_none _ H.out).mono ?_; rintro e w' ⟨rfl, rfl⟩)
  go_ret2
  exact ⟨rfl, rfl⟩
theorem due_is (h : ClkAt w B g A cap c S) {i : Int} (h1 : -9223372036854775808 ≤ i) (h2 : i ≤ 9223372036854775807) : Calls Try.prog 18 #[.pointer (some ⟨g, 0, none⟩), .int .i64 i] w fun e w' => e = .returned (.tuple #[.int .i64 ((S.find i).getD 0), .bool (S.find i).isSome]) ∧ w = w' := by
  have hc := h.c3
  obtain ⟨D, hr, hD⟩ := h.raw
  have hl := own_look hr.map hD h1 h2
  have H := Lib.hid h
  obtain ⟨q, hq⟩ : ∃ q, S.find i = q := ⟨_, rfl⟩
  have hq' : findD i S.L = q := hq
  simp only [hq'] at hl
  rw [hq]
  clear h h1 h2 hr hD hq hq'
  go_enter Try.func18, Try.ntmps18
  go_wp2_with (go_at_call 30; refine (made_yes _ H.out).mono ?_; rintro e w' ⟨rfl, rfl⟩)
  go_ret2
  exact ⟨rfl, rfl⟩
theorem all_none {p : Option Addr} (h : NoC w p) : Calls Try.prog 16 #[.pointer p] w fun e w' => e = .returned (.slice none 0 0) ∧ w = w' := by
  have H := Lib.hid h
  clear h
  go_enter Try.func16, Try.ntmps16
  go_wp2_with (go_at_call 30; refine (made_none _ H.out).mono ?_; rintro e w' ⟨rfl, rfl⟩)
  go_ret
  exact ⟨rfl, rfl⟩
theorem all_is (h : ClkAt w B g A cap c S) : Calls Try.prog 16 #[.pointer (some ⟨g, 0, none⟩)] w fun e w' => ∃ r, e = .returned r ∧ Nl w' w.heap.size r S.L ∧ Below w.heap.size w w' := by
  have hc := h.c4
  have H := Lib.hid h
  have HC := Lib.hid (clone_is w h.row (by have := h.ok.len; have := h.ok.m2; omega))
  clear h
  go_enter Try.func16, Try.ntmps16
  go_wp2_with fail
  refine (made_yes _ H.out).mono ?_
  rintro e w' ⟨rfl, rfl⟩
  go_wp2_with fail
  refine HC.out.mono ?_
  rintro e w' ⟨r, rfl, hN, hB⟩
  have HN := Lib.hid (And.intro hN hB)
  clear hN hB
  go_wp2
  go_ret
  exact ⟨r, rfl, HN.out⟩
/-- Next -/
def NextP (w : World) (t : Tm) (b : Bool) (e : Ending) (w' : World) : Prop := e = .returned (.tuple #[TV t, .bool b]) ∧ Below w.heap.size w w'
theorem next_none {p : Option Addr} (h : NoC w p) : Calls Try.prog 19 #[.pointer p] w (NextP w noT false) := by
  obtain ⟨w1, hw1⟩ : ∃ w1, w.alloc (.cells #[.int .i64 0, .int .i64 0] 36) = w1 := ⟨_, rfl⟩
  have hx : w1.heap[w.heap.size]? = some (.cells #[.int .i64 0, .int .i64 0] 36 (0, 0)) := hw1 ▸ heap_alloc_new w _
  have HB : Hid (Below w.heap.size w w1) := hw1 ▸ (Below.refl _ w).alloc (Nat.le_refl _) _
  have H := Lib.hid (h.below HB.out (Nat.le_refl _))
  have k0 := cell_of_row _ _ 0 _ 36 (0, 0) hx
  have k1 := cell_of_row _ _ 1 _ 36 (0, 0) hx
  have r0 := frozen_of_row _ _ 0 _ 36 hx
  have r1 := frozen_of_row _ _ 1 _ 36 hx
  simp at k0 k1
  have HX := Lib.hid hx
  clear h hx
  go_enter Try.func19, Try.ntmps19
  go_wp2_with fail
  refine (made_none _ H.out).mono ?_
  rintro e w' ⟨rfl, rfl⟩
  go_wp2
  refine bodyPost_ret (v := .tuple #[TV noT, .bool false]) ?_ rfl ⟨rfl, ?_⟩
  · rw [results_cell_tmp rfl]
    simp [asAddr, Result.andThen, load36 (row2 HX.out), noT]
  · exact (HB.out.setCell (by simp) _).setCell (by simp) _
theorem next_is (h : ClkAt w B g A cap c S) : Calls Try.prog 19 #[.pointer (some ⟨g, 0, none⟩)] w (NextP w (S.L.head?.getD noT) S.L.head?.isSome) := by
  obtain ⟨w1, hw1⟩ : ∃ w1, w.alloc (.cells #[.int .i64 0, .int .i64 0] 36) = w1 := ⟨_, rfl⟩
  have hx : w1.heap[w.heap.size]? = some (.cells #[.int .i64 0, .int .i64 0] 36 (0, 0)) := hw1 ▸ heap_alloc_new w _
  have HB : Hid (Below w.heap.size w w1) := hw1 ▸ (Below.refl _ w).alloc (Nat.le_refl _) _
  have h1 := h.below HB.out
  have k0 := cell_of_row _ _ 0 _ 36 (0, 0) hx
  have k1 := cell_of_row _ _ 1 _ 36 (0, 0) hx
  have r0 := frozen_of_row _ _ 0 _ 36 hx
  have r1 := frozen_of_row _ _ 1 _ 36 hx
  simp at k0 k1
  have HX := Lib.hid hx
  have c4 := h1.c4
  have H := Lib.hid h1
  cases hL : S.L with
  | nil =>
    rw [hL] at c4
    simp only [List.length_nil] at c4
    clear h hx h1 hL
    go_enter Try.func19, Try.ntmps19
    go_wp2_with fail
    refine (made_yes _ H.out).mono ?_
    rintro e w' ⟨rfl, rfl⟩
    go_wp2
    refine bodyPost_ret (v := .tuple #[TV noT, .bool false]) ?_ rfl ⟨rfl, ?_⟩
    · rw [results_cell_tmp rfl]
      simp [asAddr, Result.andThen, load36 (row2 HX.out), noT]
    · exact (HB.out.setCell (by simp) _).setCell (by simp) _
  | cons t l =>
    have hrow := h1.row
    obtain ⟨r, o, rfl, d0, d1, hrl⟩ := row_get hrow (i := 0) (d := t) (by rw [hL]; rfl)
    rw [Nat.zero_mul, Nat.add_zero] at d0 d1
    have hne : r ≠ w.heap.size := by have := (h.row.block r rfl).2; omega
    have hlen : (0 : Int) < (S.L.length : Int) := by rw [hL]; simp
    have hln : ((S.L.length : Int) == 0) = false := by rw [hL]; simp; omega
    clear h hx h1 hL hrow hrl
    go_enter Try.func19, Try.ntmps19
    go_wp2_with fail
    refine (made_yes _ H.out).mono ?_
    rintro e w' ⟨rfl, rfl⟩
    go_wp2
    refine bodyPost_ret (v := .tuple #[TV t, .bool true]) ?_ rfl ⟨rfl, ?_⟩
    · rw [results_cell_tmp rfl]
      simp [asAddr, Result.andThen, load36 (row2 HX.out)]
    · exact (HB.out.setCell (by simp) _).setCell (by simp) _
theorem new_yes (most : Nat) (h1 : 1 ≤ most) (h2 : most ≤ 65536) : Calls Try.prog 10 #[.int .i64 (most : Int)] w fun e w' => e = .returned (.tuple #[.pointer (some ⟨w.heap.size + 1, 0, none⟩), .int .i64 0]) ∧ ClkAt w' w.heap.size (w.heap.size + 1) none 0 w.heap.size (CS.new most) ∧ Below w.heap.size w w' := by
  have hmm := @run_makeMap Try.prog
  have HN := Lib.hid (CS.new_ok h1 h2)
  go_enter Try.func10, Try.ntmps10
  go_wp2
  all_goals first | (exfalso; omega) | skip
  go_ret2
  have hb1 : Below w.heap.size w (w.alloc (.map #[] 0)) := (Below.refl _ w).alloc (Nat.le_refl _) _
  refine ⟨rfl, ⟨HN.out, _, ⟨by omega, Nat.le_refl _, ?_, RowW.nil _ _ _ _, ?_⟩, due_empty⟩, ?_⟩
  · have e : w.heap.size + 1 = (w.alloc (.map #[] 0)).heap.size := by simp
    rw [e]
    exact heap_alloc_new (w.alloc (.map #[] 0)) _
  · have hm := World.ownsMap_made (H := Value) w Try.prog 3 (plainElem Try.prog 2)
    exact (owns_but hm ((But.refl [] _).alloc _) (by simp)).mono (by omega)
  · exact hb1.alloc (by simp) _
theorem new_no (m : Int) (h : m < 1 ∨ 65536 < m) : Calls Try.prog 10 #[.int .i64 m] w fun e w' => e = .returned (.tuple #[.pointer none, .int .i64 2]) ∧ w = w' := by
  have hmm := @run_makeMap Try.prog
  go_enter Try.func10, Try.ntmps10
  go_wp2
  all_goals first | (exfalso; omega) | skip
  all_goals (go_ret2; exact ⟨rfl, rfl⟩)
end
end Go.Proofs.Ytncjbohpaanpaaa
