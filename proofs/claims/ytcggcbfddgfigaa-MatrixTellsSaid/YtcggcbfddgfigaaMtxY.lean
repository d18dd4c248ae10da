/- The reference's Right, inverse. -/
import Derived.Test.YtcggcbfddgfigaaMtxL
import Derived.Test.YtcggcbfddgfigaaRef
namespace Go.Proofs.Ytcggcbfddgfigaa
open Go.RowKit Go.Coop

theorem pw_inv (a : Nat) (h0 : a ≠ 0) (h : a < 256) : pw a 254 = iv a := by
  have hl := lg_lt a h
  unfold iv quo
  rw [if_neg (by omega), pw_lg a 254 h0, lg_one, ← ex_mod (lg a * 254)]
  congr 1
  omega
theorem rinv_any (a : Nat) (w : World) (h : a < 256) (h0 : a ≠ 0) : Calls Try.prog 48 #[.int .u8 (a : Int)] w fun e w' => e = .returned (.int .u8 (iv a : Int)) ∧ w = w' := by
  rw [← pw_inv a h0 h]
  have K := rpow_any a 254 w h (by omega)
  go_enter Try.func48, Try.ntmps48
  go_wp2_with fail
  refine K.mono ?_
  rintro e w' ⟨rfl, rfl⟩
  go_wp2
  go_ret
  exact ⟨rfl, rfl⟩

set_option maxRecDepth 100000 in
theorem rright_any (A : Option Addr) (n c : Nat) (M : List (List UInt8)) (w : World) (h : MR w A n M) :
    Calls Try.prog 26 #[.slice A n c] w (Still w (.bool (rightB M))) := by
  have HM := Lib.hid h
  by_cases h1 : n < 1
  · have e : rightB M = false := by unfold rightB; rw [decide_eq_false (by rw [h.len]; omega)]; rfl
    rw [e]
    clear e h
    go_enter Try.func26, Try.ntmps26
    go_wp2
    go_ret
    exact ⟨rfl, 0, rfl⟩
  by_cases h1' : 255 < n
  · have e : rightB M = false := by unfold rightB; rw [decide_eq_false (by rw [h.len]; omega)]; rfl
    rw [e]
    clear e h
    have hd : decide (255 < (n : Int)) = true := by simp; omega
    go_enter Try.func26, Try.ntmps26
    go_wp2
    go_ret
    exact ⟨rfl, 0, rfl⟩
  obtain ⟨ad, B, d, r, rfl, _, hr0, hc0, _⟩ := h.row (show 0 < n by omega)
  have hh := headD_at hr0
  obtain ⟨K, hK⟩ : ∃ K, r.length = K := ⟨_, rfl⟩
  rw [hK] at hc0
  have HB : Hid (rightB M = (decide (1 ≤ K ∧ K ≤ 255) && M.all fun r => r.length == K)) := by
    show rightB M = _
    unfold rightB; rw [hh, hK, decide_eq_true (show 1 ≤ M.length ∧ M.length ≤ 255 by rw [h.len]; omega)]; rfl
  have HR0 := Lib.hid (And.intro hr0 hK)
  have HLen := Lib.hid h.len
  clear hh hK hr0 h
  have hc00 : w.cell? ad = some (.slice B K d) := hc0
  have hn0 : (0 : Int) < n := by omega
  have hn0' : 0 < n := by omega
  have hd255 : decide (255 < (n : Int)) = false := by simp; omega
  by_cases h2 : K < 1
  · have e : rightB M = false := by rw [HB.out, decide_eq_false (by omega)]; rfl
    rw [e]
    clear e
    go_enter Try.func26, Try.ntmps26
    go_wp2
    go_ret
    exact ⟨rfl, 0, rfl⟩
  by_cases h2' : 255 < K
  · have e : rightB M = false := by rw [HB.out, decide_eq_false (by omega)]; rfl
    rw [e]
    clear e
    have hd : decide (255 < (K : Int)) = true := by simp; omega
    go_enter Try.func26, Try.ntmps26
    go_wp2
    go_ret
    exact ⟨rfl, 0, rfl⟩
  have hdK : decide (255 < (K : Int)) = false := by simp; omega
  go_enter Try.func26, Try.ntmps26
  go_wp2
  go_loopw [3] (fun i wr => ∃ q p : Nat, 1 ≤ q ∧ q ≤ n ∧ i = .int .i64 q ∧ Hid (wr = w.drewN p) ∧ Hid (∀ (j : Nat) (r : List UInt8), j < q → M[j]? = some r → r.length = K)) (fun i _ => n - (intOf i).toNat)
  case atStart => exact ⟨1, 0, by omega, by omega, rfl, rfl, fun j r hj hjr => by
    obtain rfl : j = 0 := by omega
    have := HR0.out.1
    rw [hjr] at this
    injection this with this
    rw [this]; exact HR0.out.2⟩
  case round =>
    obtain ⟨q, p, hq1, hq, rfl, HW, HQ⟩ := hrel
    by_cases hlt : q < n
    · obtain ⟨ad', B', d', r', e', _, hr', hc', _⟩ := (HM.out.drewN p).row hlt
      injection e' with e'
      subst e'
      have hc0' : wr.cell? (ad.add 0) = some (.slice B K d) := by rw [HW.out]; exact hc0
      have hc00' : wr.cell? ad = some (.slice B K d) := hc0'
      have hq0 : (0 : Int) ≤ q := by omega
      have hqn : (q : Int) < n := by omega
      by_cases hl : r'.length = K
      · rw [hl] at hc'
        have hc1 : wr.cell? (ad.add q) = some (.slice B' K d') := by rw [HW.out]; exact hc'
        have HL := Lib.hid (And.intro hr' hl)
        have hqq : ((K : Int) == (K : Int)) = true := beq_self_eq_true _
        clear hr' hl hc'
        go_wp2_with fail
        go_quiet (fail)
        go_wp2
        go_roundw
        case rel =>
          refine ⟨q + 1, _, by omega, by omega, by go_num, by rw [HW.out, World.drewN_drewN]; rfl, fun j r hj hjr => ?_⟩
          by_cases e : j < q
          · exact HQ.out j r e hjr
          · obtain rfl : j = q := by omega
            have := HL.out.1
            rw [hjr] at this
            injection this with this
            rw [this]; exact HL.out.2
        case measure => simp [intOf]; omega
      · have e : rightB M = false := by
          rw [HB.out, Bool.and_eq_false_iff]
          exact .inr (List.all_eq_false.2 ⟨r', List.mem_of_getElem? hr', by simpa using hl⟩)
        have HE := Lib.hid e
        obtain ⟨L, hL⟩ : ∃ L, r'.length = L := ⟨_, rfl⟩
        rw [hL] at hc' hl
        have hc1 : wr.cell? (ad.add q) = some (.slice B' L d') := by rw [HW.out]; exact hc'
        have hqq : ((L : Int) == (K : Int)) = false := beq_eq_false_iff_ne.2 (by omega)
        clear e hL hr' hc'
        go_wp2_with fail
        go_quiet (fail)
        go_wp2
        go_ret
        exact ⟨by rw [HE.out]; rfl, _, by rw [HW.out, World.drewN_drewN]⟩
    · obtain rfl : q = n := by omega
      have e : rightB M = true := by
        rw [HB.out, decide_eq_true (by omega), Bool.true_and, List.all_eq_true]
        intro r hr
        obtain ⟨j, hj⟩ := List.mem_iff_getElem?.1 hr
        have hjl := (List.getElem?_eq_some_iff.1 hj).1
        rw [HLen.out] at hjl
        simpa using HQ.out j r hjl hj
      have HE := Lib.hid e
      clear e
      go_wp2
      go_ret
      exact ⟨by rw [HE.out]; rfl, p, HW.out⟩
end Go.Proofs.Ytcggcbfddgfigaa
