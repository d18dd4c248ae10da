/- The small methods of a net: made, joins, has, Flying, Waiting. -/
import Derived.Test.YthhablokbnfpcaaNetM
import Derived.Deep.QuietTactic
import Derived.BigQuiet
import Derived.LaidEqlPtr
namespace Go.Proofs.Ythhablokbnfpcaa
open Go.RowKit Go.Coop
set_option maxRecDepth 100000

/-- no net of New's -/
def NoN (w : World) (p : Option Addr) : Prop := p = none ∨ ∃ g, p = some ⟨g, 0, none⟩ ∧ w.cell? ⟨g, 0, none⟩ = some (.pointer none)
theorem NoN.below {w w' : World} {p : Option Addr} {B : Nat} (h : NoN w p) (hb : Below B w w') (hB : w.heap.size ≤ B) : NoN w' p := by
  rcases h with h | ⟨g, h, hc⟩
  · exact .inl h
  · exact .inr ⟨g, h, (hb.cell (by have := block_lt_of_cell hc; simp at this; show g < B; omega)).trans hc⟩
theorem info59 : (Try.prog.info? 59).map (·.size) = some 5 := by kernel_rfl
theorem ptr_same (w : World) (a : Addr) : (binOp .eql 24 (.pointer (some a)) (.pointer (some a))).run Try.prog w = .ok (.bool true) w := by
  cases hi : Try.prog.info? 59 with
  | none => have := info59; rw [hi] at this; cases this
  | some j => exact run_eql_ptr_same w a Try.underlying24 hi
theorem ptr_nil (w : World) (a : Addr) : (binOp .eql 24 (.pointer none) (.pointer (some a))).run Try.prog w = .ok (.bool false) w := by
  have h : ∀ d : Nat, (Op.equalIn (d + 1) 24 (.pointer none) (.pointer (some a))).run Try.prog w = .ok false w := fun d => by
    simp [Op.equalIn, run_underlying Try.underlying24]
  simp only [binOp]
  simp [Op.equal, Op.maxDepth, h 9999]
section
variable (w : World) {B g c cap : Nat} {A : Option Addr} {S : NS}
theorem made_none {p : Option Addr} (h : NoN w p) : Calls Try.prog 38 #[.pointer p] w fun e w' => e = .returned (.bool false) ∧ w = w' := by
  rcases h with rfl | ⟨g, rfl, hc⟩
  · go_enter Try.func38, Try.ntmps38
    go_wp2
    go_ret
    exact ⟨rfl, rfl⟩
  · have he := ptr_nil w ⟨g, 0, none⟩
    go_enter Try.func38, Try.ntmps38
    go_wp2
    go_ret
    exact ⟨rfl, rfl⟩
theorem made_yes (h : NetAt w B g A cap c S) : Calls Try.prog 38 #[.pointer (some ⟨g, 0, none⟩)] w fun e w' => e = .returned (.bool true) ∧ w = w' := by
  have hc := h.c0
  have he := ptr_same w ⟨g, 0, none⟩
  clear h
  go_enter Try.func38, Try.ntmps38
  go_wp2
  go_ret
  exact ⟨rfl, rfl⟩
theorem joins_is (h : NetAt w B g A cap c S) (k : Int) {q : Bool} (hq : S.joins k = q) : Calls Try.prog 39 #[.pointer (some ⟨g, 0, none⟩), .int .i64 k] w fun e w' => e = .returned (.bool q) ∧ w = w' := by
  have hc := h.c1
  subst hq
  clear h
  go_enter Try.func39, Try.ntmps39
  go_wp2
  all_goals go_ret
  all_goals refine ⟨?_, rfl⟩
  all_goals congr 2
  all_goals unfold NS.joins
  all_goals simp_all
  all_goals omega
theorem has_is (h : NetAt w B g A cap c S) (i : Int) {q : Bool} (hq : (S.look i).isSome = q) : Calls Try.prog 41 #[.pointer (some ⟨g, 0, none⟩), .int .i64 i] w fun e w' => e = .returned (.bool q) ∧ w = w' := by
  have hc := h.c3
  have hql : q = (decide (0 ≤ i) && decide (i < (S.heap.length : Int))) := by
    rw [← hq]
    cases hl : S.look i with
    | none => rcases NS.look_none hl with h | h <;> simp <;> omega
    | some d => obtain ⟨h1, h2, _⟩ := NS.look_lt hl; simp; omega
  have H := Lib.hid h
  clear h hq
  subst hql
  go_enter Try.func41, Try.ntmps41
  go_wp2_with (go_at_call 38; refine (made_yes _ H.out).mono ?_; rintro e w' ⟨rfl, rfl⟩)
  all_goals go_ret
  all_goals refine ⟨?_, rfl⟩
  all_goals congr 2
  all_goals simp_all
  all_goals omega
theorem has_no {p : Option Addr} (h : NoN w p) (i : Int) : Calls Try.prog 41 #[.pointer p, .int .i64 i] w fun e w' => e = .returned (.bool false) ∧ w = w' := by
  have H := Lib.hid h
  clear h
  go_enter Try.func41, Try.ntmps41
  go_wp2_with (go_at_call 38; refine (made_none _ H.out).mono ?_; rintro e w' ⟨rfl, rfl⟩)
  go_ret
  exact ⟨rfl, rfl⟩
theorem flying_none {p : Option Addr} (h : NoN w p) : Calls Try.prog 14 #[.pointer p] w fun e w' => e = .returned (.int .i64 0) ∧ w = w' := by
  have H := Lib.hid h
  clear h
  go_enter Try.func14, Try.ntmps14
  go_wp2_with (go_at_call 38; refine (made_none _ H.out).mono ?_; rintro e w' ⟨rfl, rfl⟩)
  go_ret
  exact ⟨rfl, rfl⟩
theorem flying_is (h : NetAt w B g A cap c S) : Calls Try.prog 14 #[.pointer (some ⟨g, 0, none⟩)] w fun e w' => e = .returned (.int .i64 (S.heap.length : Int)) ∧ w = w' := by
  have hc := h.c3
  have H := Lib.hid h
  clear h
  go_enter Try.func14, Try.ntmps14
  go_wp2_with (go_at_call 38; refine (made_yes _ H.out).mono ?_; rintro e w' ⟨rfl, rfl⟩)
  go_ret
  exact ⟨rfl, rfl⟩
theorem waiting_none {p : Option Addr} (h : NoN w p) (k : Int) : Calls Try.prog 18 #[.pointer p, .int .i64 k] w fun e w' => e = .returned (.int .i64 0) ∧ w = w' := by
  have H := Lib.hid h
  clear h
  go_enter Try.func18, Try.ntmps18
  go_wp2_with (go_at_call 38; refine (made_none _ H.out).mono ?_; rintro e w' ⟨rfl, rfl⟩)
  go_ret
  exact ⟨rfl, rfl⟩
theorem waiting_is (h : NetAt w B g A cap c S) {k : Int} (h1 : -9223372036854775808 ≤ k) (h2 : k ≤ 9223372036854775807) : Calls Try.prog 18 #[.pointer (some ⟨g, 0, none⟩), .int .i64 k] w fun e w' => e = .returned (.int .i64 (S.wait k : Int)) ∧ w = w' := by
  have hc := h.c4
  have hl := h.look_run h1 h2
  have H := Lib.hid h
  clear h h1 h2
  go_enter Try.func18, Try.ntmps18
  go_wp2_with (go_at_call 38; refine (made_yes _ H.out).mono ?_; rintro e w' ⟨rfl, rfl⟩)
  go_ret
  exact ⟨rfl, rfl⟩
end
end Go.Proofs.Ythhablokbnfpcaa
