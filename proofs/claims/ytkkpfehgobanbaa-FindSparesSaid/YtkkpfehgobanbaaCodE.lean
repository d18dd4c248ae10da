/- Right and Mul, of rows that are only read. -/
import Derived.Test.YtkkpfehgobanbaaCodD
namespace Go.Proofs.Ytkkpfehgobanbaa
open Go.RowKit Go.Coop
set_option maxRecDepth 100000

theorem right_mr (A : Option Addr) (n c : Nat) (M : List (List UInt8)) (w : World) (h : MR w A n M) (hn : n ≤ 140737488355328) :
    Calls Try.prog 84 #[.slice A n c] w fun e w' => e = .returned (.bool (rightB M)) ∧ w = w' := by
  by_cases h1 : n < 1 ∨ 255 < n
  · have e : rightB M = false := by
      unfold rightB; rw [decide_eq_false (by rw [h.len]; omega)]; rfl
    rw [e]
    go_enter Try.func84, Try.ntmps84
    go_wp2_with (go_at_call 55; refine (side_no _ _ (by omega)).mono ?_; rintro e w' ⟨rfl, rfl⟩)
    go_ret
    exact ⟨rfl, rfl⟩
  obtain ⟨g, B, d, r, rfl, _, hr0, hc0, ho0⟩ := h.row (show 0 < n by omega)
  rw [addr_add_0] at hc0
  have hh := headD_at hr0
  obtain ⟨K, hK⟩ : ∃ K, r.length = K := ⟨_, rfl⟩
  rw [hK] at hc0 ho0
  have HB : Hid (rightB M = (decide (1 ≤ K ∧ K ≤ 255) && M.all fun r => r.length == K)) := by
    show rightB M = _
    unfold rightB; rw [hh, hK, decide_eq_true (show 1 ≤ M.length ∧ M.length ≤ 255 by rw [h.len]; omega)]; rfl
  have HM := Lib.hid h
  clear hh hK hr0 ho0 h
  by_cases h2 : K < 1 ∨ 255 < K
  · have e : rightB M = false := by rw [HB.out, decide_eq_false (by omega)]; rfl
    rw [e]
    clear e
    go_enter Try.func84, Try.ntmps84
    go_wp2_with (go_at_call 55; first | (refine (side_yes _ _ (by omega) (by omega)).mono ?_; rintro e w' ⟨rfl, rfl⟩) | (refine (side_no _ _ (by omega)).mono ?_; rintro e w' ⟨rfl, rfl⟩))
    go_ret
    exact ⟨rfl, rfl⟩
  go_enter Try.func84, Try.ntmps84
  go_wp2_with (go_at_call 55; refine (side_yes _ _ (by omega) (by omega)).mono ?_; rintro e w' ⟨rfl, rfl⟩)
  go_loop [19] (fun i => ∃ q : Nat, q ≤ n ∧ i = .int .i64 q ∧ Hid (∀ (j : Nat) (r : List UInt8), j < q → M[j]? = some r → r.length = K)) (fun i => n - (intOf i).toNat)
  case atStart => exact ⟨0, by omega, rfl, fun j r hj => by omega⟩
  case round =>
    obtain ⟨q, hq, rfl, HQ⟩ := hrel
    by_cases hlt : q < n
    · obtain ⟨g', B', d', r', e', _, hr', hc', _⟩ := HM.out.row hlt
      injection e' with e'
      subst e'
      by_cases hl : r'.length = K
      · rw [hl] at hc'
        have HL := Lib.hid (And.intro hr' hl)
        clear hr' hl
        go_wp2
        go_round
        case rel =>
          refine ⟨q + 1, by omega, by go_num, fun j r hj hjr => ?_⟩
          by_cases e : j < q
          · exact HQ.out j r e hjr
          · obtain rfl : j = q := by omega
            have := HL.out.1
            rw [hjr] at this
            injection this with this
            rw [this]; exact HL.out.2
        case measure => simp [intOf]; omega
      · have e : rightB M = false := by
          rw [HB.out, Bool.and_eq_false_iff]
          exact .inr (List.all_eq_false.2 ⟨r', List.mem_of_getElem? hr', by simpa using hl⟩)
        have HE := Lib.hid e
        have HR := Lib.hid hr'
        obtain ⟨L, hL⟩ : ∃ L, r'.length = L := ⟨_, rfl⟩
        rw [hL] at hc' hl
        have hq1 : ((L : Int) == (K : Int)) = false := beq_eq_false_iff_ne.2 (by omega)
        clear e hL hr'
        go_wp2
        go_ret
        exact ⟨by rw [HE.out]; rfl, rfl⟩
    · obtain rfl : q = n := by omega
      have e : rightB M = true := by
        rw [HB.out, decide_eq_true (by omega), Bool.true_and, List.all_eq_true]
        intro r hr
        obtain ⟨j, hj⟩ := List.mem_iff_getElem?.1 hr
        have hjl := (List.getElem?_eq_some_iff.1 hj).1
        rw [HM.out.len] at hjl
        simpa using HQ.out j r hjl hj
      have HE := Lib.hid e
      clear e
      go_wp2
      go_ret
      exact ⟨by rw [HE.out]; rfl, rfl⟩
theorem right_mry (A : Option Addr) (n c k : Nat) (F : Fn2) (w : World) (h : MR w A n (tabM n k F)) (h1 : 1 ≤ n) (h2 : n ≤ 255) (h3 : 1 ≤ k) (h4 : k ≤ 255) :
    Calls Try.prog 84 #[.slice A n c] w fun e w' => e = .returned (.bool true) ∧ w = w' := by
  have := right_mr A n c _ w h (by omega)
  rwa [right_tab h1 h2 h3 h4] at this

end Go.Proofs.Ytkkpfehgobanbaa
