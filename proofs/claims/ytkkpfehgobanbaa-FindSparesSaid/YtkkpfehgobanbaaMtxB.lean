import Derived.Test.YtkkpfehgobanbaaMtxA
namespace Go.Proofs.Ytkkpfehgobanbaa
open Go.RowKit Go.Coop
set_option maxRecDepth 100000

/-- a matrix is told · none is -/
def GotM (w : World) (n : Nat) (M : List (List UInt8)) (e : Ending) (w' : World) : Prop :=
  ∃ A c, e = .returned (.tuple #[.slice A n c, .int .i64 0]) ∧ MO w' w.heap.size w.heap.size A n c M ∧ Below w.heap.size w w'
def NotM (w : World) (k : Int) (e : Ending) (w' : World) : Prop := e = .returned (.tuple #[.slice none 0 0, .int .i64 k]) ∧ Below w.heap.size w w'

theorem unit_no (x : Int) (w : World) (h : x < 1 ∨ 255 < x) : Calls Try.prog 41 #[.int .i64 x] w (NotM w 2) := by
  go_enter Try.func41, Try.ntmps41
  go_wp2_with (go_at_call 55; refine (side_no _ _ h).mono ?_; rintro e w' ⟨rfl, rfl⟩)
  go_ret2
  exact ⟨rfl, Below.refl _ _⟩

set_option maxRecDepth 100000 in
theorem unit_yes (n : Nat) (w : World) (h1 : 1 ≤ n) (h2 : n ≤ 255) : Calls Try.prog 41 #[.int .i64 (n : Int)] w (GotM w n (tabM n n unitF)) := by
  go_enter Try.func41, Try.ntmps41
  go_wp2_with (first
    | (go_at_call 55; refine (side_yes _ _ (by omega) (by omega)).mono ?_; rintro e w' ⟨rfl, rfl⟩)
    | (go_at_call 56; refine (noughts_any _ _ _ (by omega) (by omega)).mono ?_; rintro e w1 ⟨rfl, hG, hB⟩))
  have HG1 := Lib.hid hG
  have HB1 := Lib.hid hB
  clear hG hB
  go_loopw [14] (fun i wr => ∃ q : Nat, q ≤ n ∧ i = .int .i64 q ∧ Hid (Grid wr w.heap.size n n (fun a b => if a < q ∧ a = b then 1 else 0)) ∧ Hid (Below w.heap.size w wr)) (fun i _ => n - (intOf i).toNat)
  case atStart => exact ⟨0, by omega, rfl, HG1.out.congr fun i j _ _ => by rw [if_neg (by omega)], HB1.out⟩
  case round =>
    obtain ⟨q, hq, rfl, HG, HB⟩ := hrel
    by_cases hlt : q < n
    · have hr := HG.out.rowAt hlt
      obtain ⟨hc, hf⟩ := HG.out.cellAt hlt hlt
      unfold BV at hc
      generalize ((if q < q ∧ q = q then 1 else 0 : UInt8).toNat : Int) = X at *
      go_wp2
      go_roundw
      case rel =>
        refine ⟨q + 1, by omega, by go_num, ?_, HB.out.setCell (by show w.heap.size ≤ w.heap.size + 1 + q; omega) _⟩
        exact (HG.out.set q q 1).congr fun i j _ _ => by
          by_cases e : i = q ∧ j = q
          · rw [if_pos e, if_pos (by omega)]
          · rw [if_neg e]
            by_cases e2 : i < q ∧ i = j
            · rw [if_pos e2, if_pos (by omega)]
            · rw [if_neg e2, if_neg (by omega)]
      case measure => simp [intOf]; omega
    · obtain rfl : q = n := by omega
      go_wp2
      go_ret2
      refine ⟨_, _, rfl, ?_, HB.out⟩
      have := (HG.out.congr (G := unitF) fun i j hi _ => by unfold unitF; by_cases e : i = j; rw [if_pos ⟨hi, e⟩, if_pos e]; rw [if_neg (by omega), if_neg e]).mo (by simp [maxLen]; omega) (by simp [maxLen]; omega)
      exact this

/-- which are right -/
def rightB (M : List (List UInt8)) : Bool := decide (1 ≤ M.length ∧ M.length ≤ 255) && decide (1 ≤ (M.headD []).length ∧ (M.headD []).length ≤ 255) && M.all fun r => r.length == (M.headD []).length
theorem headD_at {M : List (List UInt8)} {r : List UInt8} (h : M[0]? = some r) : M.headD [] = r := by cases M <;> simp_all
theorem right_tab {n k : Nat} {F : Fn2} (h1 : 1 ≤ n) (h2 : n ≤ 255) (h3 : 1 ≤ k) (h4 : k ≤ 255) : rightB (tabM n k F) = true := by
  have e := headD_at (tabM_at k F (show 0 < n by omega))
  unfold rightB
  rw [e, rowL_len, tabM_len]
  simp only [Bool.and_eq_true, decide_eq_true_eq, List.all_eq_true, beq_iff_eq]
  refine ⟨⟨⟨h1, h2⟩, h3, h4⟩, fun r hr => ?_⟩
  simp only [tabM, List.mem_map] at hr
  obtain ⟨i, _, rfl⟩ := hr
  exact rowL_len _ _

set_option maxRecDepth 100000 in
theorem right_any {bo br : Nat} (A : Option Addr) (n c : Nat) (M : List (List UInt8)) (w : World) (h : MO w bo br A n c M) (hn : n ≤ 140737488355328) :
    Calls Try.prog 84 #[.slice A n c] w fun e w' => e = .returned (.bool (rightB M)) ∧ w = w' := by
  by_cases h1 : n < 1 ∨ 255 < n
  · have e : rightB M = false := by
      unfold rightB; rw [decide_eq_false (by rw [h.len]; omega)]; rfl
    rw [e]
    go_enter Try.func84, Try.ntmps84
    go_wp2_with (go_at_call 55; refine (side_no _ _ (by omega)).mono ?_; rintro e w' ⟨rfl, rfl⟩)
    go_ret
    exact ⟨rfl, rfl⟩
  obtain ⟨g, B, d, r, rfl, _, _, _, hr0, hc0, ho0⟩ := h.row (show 0 < n by omega)
  have hh := headD_at hr0
  obtain ⟨K, hK⟩ : ∃ K, r.length = K := ⟨_, rfl⟩
  rw [hK] at hc0 ho0
  have HB : Hid (rightB M = (decide (1 ≤ K ∧ K ≤ 255) && M.all fun r => r.length == K)) := by
    show rightB M = _
    unfold rightB; rw [hh, hK, decide_eq_true (show 1 ≤ M.length ∧ M.length ≤ 255 by rw [h.len]; omega)]; rfl
  have HM := Lib.hid h
  clear hh hK hr0 ho0 h
  by_cases h2 : K < 1 ∨ 255 < K
  · have e : rightB M = false := by rw [HB.out, decide_eq_false (by omega)]; rfl
    rw [e]
    clear e
    go_enter Try.func84, Try.ntmps84
    go_wp2_with (go_at_call 55; first | (refine (side_yes _ _ (by omega) (by omega)).mono ?_; rintro e w' ⟨rfl, rfl⟩) | (refine (side_no _ _ (by omega)).mono ?_; rintro e w' ⟨rfl, rfl⟩))
    go_ret
    exact ⟨rfl, rfl⟩
  go_enter Try.func84, Try.ntmps84
  go_wp2_with (go_at_call 55; refine (side_yes _ _ (by omega) (by omega)).mono ?_; rintro e w' ⟨rfl, rfl⟩)
  go_loop [19] (fun i => ∃ q : Nat, q ≤ n ∧ i = .int .i64 q ∧ Hid (∀ (j : Nat) (r : List UInt8), j < q → M[j]? = some r → r.length = K)) (fun i => n - (intOf i).toNat)
  case atStart => exact ⟨0, by omega, rfl, fun j r hj => by omega⟩
  case round =>
    obtain ⟨q, hq, rfl, HQ⟩ := hrel
    by_cases hlt : q < n
    · obtain ⟨g', B', d', r', e', _, _, _, hr', hc', _⟩ := HM.out.row hlt
      injection e' with e'
      injection e' with e' _ _
      subst e'
      by_cases hl : r'.length = K
      · rw [hl] at hc'
        have HL := Lib.hid (And.intro hr' hl)
        clear hr' hl
        go_wp2
        go_round
        case rel =>
          refine ⟨q + 1, by omega, by go_num, fun j r hj hjr => ?_⟩
          by_cases e : j < q
          · exact HQ.out j r e hjr
          · obtain rfl : j = q := by omega
            have := HL.out.1
            rw [hjr] at this
            injection this with this
            rw [this]; exact HL.out.2
        case measure => simp [intOf]; omega
      · have e : rightB M = false := by
          rw [HB.out, Bool.and_eq_false_iff]
          exact .inr (List.all_eq_false.2 ⟨r', List.mem_of_getElem? hr', by simpa using hl⟩)
        have HE := Lib.hid e
        have HR := Lib.hid hr'
        obtain ⟨L, hL⟩ : ∃ L, r'.length = L := ⟨_, rfl⟩
        rw [hL] at hc' hl
        have hq1 : ((L : Int) == (K : Int)) = false := beq_eq_false_iff_ne.2 (by omega)
        clear e hL hr'
        go_wp2
        go_ret
        exact ⟨by rw [HE.out]; rfl, rfl⟩
    · obtain rfl : q = n := by omega
      have e : rightB M = true := by
        rw [HB.out, decide_eq_true (by omega), Bool.true_and, List.all_eq_true]
        intro r hr
        obtain ⟨j, hj⟩ := List.mem_iff_getElem?.1 hr
        have hjl := (List.getElem?_eq_some_iff.1 hj).1
        rw [HM.out.len] at hjl
        simpa using HQ.out j r hjl hj
      have HE := Lib.hid e
      clear e
      go_wp2
      go_ret
      exact ⟨by rw [HE.out]; rfl, rfl⟩
theorem right_yes {bo br : Nat} (A : Option Addr) (n c k : Nat) (F : Fn2) (w : World) (h : MO w bo br A n c (tabM n k F)) (h1 : 1 ≤ n) (h2 : n ≤ 255) (h3 : 1 ≤ k) (h4 : k ≤ 255) :
    Calls Try.prog 84 #[.slice A n c] w fun e w' => e = .returned (.bool true) ∧ w = w' := by
  have := right_any A n c _ w h (by omega)
  rwa [right_tab h1 h2 h3 h4] at this

/- a column -/
end Go.Proofs.Ytkkpfehgobanbaa
