/- The program's answers, and the reference's: each call tells one matrix and one error. -/
import Derived.Test.YtcggcbfddgfigaaMtxAE
namespace Go.Proofs.Ytcggcbfddgfigaa
open Go.RowKit Go.Coop

theorem right_tabM {M : List (List UInt8)} (h : rightB M = true) : ∃ n k F, M = tabM n k F ∧ 1 ≤ n ∧ n ≤ 255 ∧ 1 ≤ k ∧ k ≤ 255 ∧ (M.headD []).length = k ∧ M.length = n := by
  unfold rightB at h
  simp only [Bool.and_eq_true, decide_eq_true_eq, List.all_eq_true, beq_iff_eq] at h
  obtain ⟨⟨⟨h1, h2⟩, h3, h4⟩, h5⟩ := h
  refine ⟨M.length, (M.headD []).length, litF M, ?_, h1, h2, h3, h4, rfl, rfl⟩
  apply List.ext_getElem?
  intro i
  by_cases hi : i < M.length
  · rw [tabM_at _ _ hi, List.getElem?_eq_getElem hi]
    congr 1
    have hl := h5 _ (List.getElem_mem hi)
    apply List.ext_getElem?
    intro j
    by_cases hj : j < (M.headD []).length
    · rw [rowL_at _ hj]
      unfold litF
      rw [List.getD_eq_getElem?_getD, List.getD_eq_getElem?_getD, List.getElem?_eq_getElem hi]
      simp only [Option.getD_some]
      rw [List.getElem?_eq_getElem (by omega)]
      rfl
    · rw [List.getElem?_eq_none (by omega), List.getElem?_eq_none (by rw [rowL_len]; omega)]
  · rw [List.getElem?_eq_none (by omega), List.getElem?_eq_none (by rw [tabM_len]; omega)]

/-- a matrix and an error are told -/
def Ans (w : World) (N : Nat) (M : List (List UInt8)) (v : Int) (e : Ending) (w' : World) : Prop :=
  ∃ A c, e = .returned (.tuple #[.slice A N c, .int .i64 v]) ∧ MR w' A N M ∧ Below w.heap.size w w'
theorem mr_nil (w : World) (A : Option Addr) : MR w A 0 [] := ⟨rfl, [], RdV.nil _ _, fun i r h => by simp at h⟩
theorem ans_not {w w' : World} {v : Int} {e : Ending} (h : NotM w v e w') : Ans w 0 [] v e w' := by
  obtain ⟨rfl, hb⟩ := h
  exact ⟨none, 0, rfl, mr_nil _ _, hb⟩
theorem ans_got {w w' : World} {n : Nat} {M : List (List UInt8)} {e : Ending} (h : GotM w n M e w') : Ans w n M 0 e w' := by
  obtain ⟨A, c, rfl, hm, hb⟩ := h
  exact ⟨A, c, rfl, hm.mr, hb⟩
theorem ans_gotR {w w' : World} {n : Nat} {M : List (List UInt8)} {e : Ending} (h : GotR w n M e w') : Ans w n M 0 e w' := by
  obtain ⟨A, c, rfl, hm, hb⟩ := h
  exact ⟨A, c, rfl, hm, hb⟩

theorem mul_both (Ma Mb : List (List UInt8)) (n m : Nat) (hn : n ≤ 140737488355328) (hm : m ≤ 140737488355328) : ∃ (N : Nat) (M : List (List UInt8)) (v : Int), N ≤ 255 ∧
    (∀ (g : Nat) (A B : Option Addr) (c d bo br bo' br' : Nat) (w : World), FldAt w g → MO w bo br A n c Ma → MO w bo' br' B m d Mb → Calls Try.prog 14 #[.pointer (some ⟨g, 0, none⟩), .slice A n c, .slice B m d] w (Ans w N M v)) ∧
    (∀ (A B : Option Addr) (c d : Nat) (w : World), MR w A n Ma → MR w B m Mb → Calls Try.prog 21 #[.slice A n c, .slice B m d] w (Ans w N M v)) := by
  by_cases hs : rightB Ma = false ∨ rightB Mb = false ∨ (Ma.headD []).length ≠ Mb.length
  · exact ⟨0, [], 30, by omega, fun g A B c d bo br bo' br' w hf h1 h2 => (mul_shape g A n c Ma B m d Mb w hf h1 h2 hn hm hs).mono fun _ _ h => ans_not h, fun A B c d w h1 h2 => (rmulm_shape A n c Ma B m d Mb w h1 h2 hs).mono fun _ _ h => ans_not h⟩
  · have h1 : rightB Ma = true := by cases e : rightB Ma; exact absurd (.inl e) hs; rfl
    have h2 : rightB Mb = true := by cases e : rightB Mb; exact absurd (.inr (.inl e)) hs; rfl
    have h3 : (Ma.headD []).length = Mb.length := Classical.byContradiction fun e => hs (.inr (.inr e))
    obtain ⟨n1, k1, F, rfl, a1, a2, a3, a4, a5, a6⟩ := right_tabM h1
    obtain ⟨n2, k2, G, rfl, b1, b2, b3, b4, b5, b6⟩ := right_tabM h2
    rw [a5, b6] at h3
    subst h3
    refine ⟨n1, tabM n1 k2 (mulF k1 F G), 0, a2, fun g A B c d bo br bo' br' w hf g1 g2 => ?_, fun A B c d w g1 g2 => ?_⟩
    · have e1 := g1.len
      have e2 := g2.len
      rw [tabM_len] at e1 e2
      subst e1 e2
      exact (mul_yes g A n1 c k1 F B d k2 G w hf g1 g2 a1 a2 a3 a4 b3 b4).mono fun _ _ h => ans_got h
    · have e1 := g1.len
      have e2 := g2.len
      rw [tabM_len] at e1 e2
      subst e1 e2
      exact (rmulm_yes A n1 c k1 F B d k2 G w g1 g2 a1 a2 a3 a4 b3 b4).mono fun _ _ h => ans_got h
theorem invert_both (Ma : List (List UInt8)) (n : Nat) (hn : n ≤ 140737488355328) : ∃ (N : Nat) (M : List (List UInt8)) (v : Int), N ≤ 255 ∧
    (∀ (g : Nat) (A : Option Addr) (c bo br : Nat) (w : World), FldAt w g → MO w bo br A n c Ma → Calls Try.prog 15 #[.pointer (some ⟨g, 0, none⟩), .slice A n c] w (Ans w N M v)) ∧
    (∀ (A : Option Addr) (c : Nat) (w : World), MR w A n Ma → Calls Try.prog 22 #[.slice A n c] w (Ans w N M v)) := by
  by_cases hs : rightB Ma = false ∨ (Ma.headD []).length ≠ Ma.length
  · exact ⟨0, [], 30, by omega, fun g A c bo br w hf h1 => (invert_shape g A n c Ma w hf h1 hn hs).mono fun _ _ h => ans_not h, fun A c w h1 => (rinvert_shape A n c Ma w h1 hs).mono fun _ _ h => ans_not h⟩
  · have h1 : rightB Ma = true := by cases e : rightB Ma; exact absurd (.inl e) hs; rfl
    have h3 : (Ma.headD []).length = Ma.length := Classical.byContradiction fun e => hs (.inr e)
    obtain ⟨n1, k1, F, rfl, a1, a2, a3, a4, a5, a6⟩ := right_tabM h1
    rw [a5, a6] at h3
    subst h3
    by_cases hr : rankF k1 k1 F unitF = k1
    · refine ⟨k1, tabM k1 k1 (besF k1 k1 F unitF), 0, a2, fun g A c bo br w hf g1 => ?_, fun A c w g1 => ?_⟩
      · have e1 := g1.len
        rw [tabM_len] at e1
        subst e1
        exact (invert_any g A k1 c F w hf g1 a1 a2).mono fun _ _ h => ans_got (h.resolve_right fun x => x.1 hr).2
      · have e1 := g1.len
        rw [tabM_len] at e1
        subst e1
        exact (rinvert_any A k1 c F w g1 a1 a2).mono fun _ _ h => ans_gotR (h.resolve_right fun x => x.1 hr).2
    · refine ⟨0, [], 31, by omega, fun g A c bo br w hf g1 => ?_, fun A c w g1 => ?_⟩
      · have e1 := g1.len
        rw [tabM_len] at e1
        subst e1
        exact (invert_any g A k1 c F w hf g1 a1 a2).mono fun _ _ h => ans_not (h.resolve_left fun x => hr x.1).2
      · have e1 := g1.len
        rw [tabM_len] at e1
        subst e1
        exact (rinvert_any A k1 c F w g1 a1 a2).mono fun _ _ h => ans_not (h.resolve_left fun x => hr x.1).2
theorem pick_both (Ma : List (List UInt8)) (n : Nat) (ls : List Int) (m : Nat) (hn : n ≤ 140737488355328) (hm : m ≤ 20) (hls : ∀ x ∈ ls, -9223372036854775808 ≤ x ∧ x ≤ 9223372036854775807) : ∃ (N : Nat) (M : List (List UInt8)) (v : Int), N ≤ 255 ∧
    (∀ (A R : Option Addr) (c d bo br : Nat) (w : World), MO w bo br A n c Ma → RdV w R m (ivs ls) → Calls Try.prog 16 #[.slice A n c, .slice R m d] w (Ans w N M v)) ∧
    (∀ (A R : Option Addr) (c d : Nat) (w : World), MR w A n Ma → RdV w R m (ivs ls) → Calls Try.prog 23 #[.slice A n c, .slice R m d] w (Ans w N M v)) := by
  by_cases h1 : rightB Ma = false
  · exact ⟨0, [], 30, by omega, fun A R c d bo br w g1 _ => (pick_shape A n c Ma R m d w g1 hn h1).mono fun _ _ h => ans_not h, fun A R c d w g1 _ => (rpick_shape A n c Ma R m d w g1 h1).mono fun _ _ h => ans_not h⟩
  have h1' : rightB Ma = true := by simpa using h1
  by_cases h2 : m < 1
  · exact ⟨0, [], 2, by omega, fun A R c d bo br w g1 _ => (pick_len A n c Ma R m d w g1 hn h1' (.inl h2)).mono fun _ _ h => ans_not h, fun A R c d w g1 _ => (rpick_len A n c Ma R m d w g1 h1' h2).mono fun _ _ h => ans_not h⟩
  by_cases h3 : ∀ x ∈ ls, 0 ≤ x ∧ x < Ma.length
  · exact ⟨m, pickL Ma ls, 0, by omega, fun A R c d bo br w g1 g2 => (pick_any A n c Ma R m d ls w g1 h1' g2 (by omega) (by omega) hls).mono fun _ _ h => ans_got (h.resolve_right fun x => x.1 h3).2,
      fun A R c d w g1 g2 => (rpick_any A n c Ma R m d ls w g1 h1' g2 (by omega) (by omega) hls).mono fun _ _ h => ans_got (h.resolve_right fun x => x.1 h3).2⟩
  · exact ⟨0, [], 2, by omega, fun A R c d bo br w g1 g2 => (pick_any A n c Ma R m d ls w g1 h1' g2 (by omega) (by omega) hls).mono fun _ _ h => ans_not (h.resolve_left fun x => h3 x.1).2,
      fun A R c d w g1 g2 => (rpick_any A n c Ma R m d ls w g1 h1' g2 (by omega) (by omega) hls).mono fun _ _ h => ans_not (h.resolve_left fun x => h3 x.1).2⟩
/-- a number is told -/
def Num (w : World) (r : Int) (e : Ending) (w' : World) : Prop := e = .returned (.int .i64 r) ∧ Below w.heap.size w w'
theorem num_still {w w' : World} {r : Int} {e : Ending} (h : Still w (.int .i64 r) e w') : Num w r e w' := by
  obtain ⟨rfl, j, rfl⟩ := h
  exact ⟨rfl, below_drewN w j⟩
theorem rank_both (Ma : List (List UInt8)) (n : Nat) (hn : n ≤ 140737488355328) : ∃ r : Int,
    (∀ (g : Nat) (A : Option Addr) (c bo br : Nat) (w : World), FldAt w g → MO w bo br A n c Ma → Calls Try.prog 17 #[.pointer (some ⟨g, 0, none⟩), .slice A n c] w (Num w r)) ∧
    (∀ (A : Option Addr) (c : Nat) (w : World), MR w A n Ma → Calls Try.prog 27 #[.slice A n c] w (Num w r)) := by
  by_cases h1 : rightB Ma = false
  · exact ⟨0, fun g A c bo br w hf g1 => (rank_wrong g A n c Ma w hf g1 hn h1).mono fun _ _ h => num_still h, fun A c w g1 => (rrank_wrong A n c Ma w g1 h1).mono fun _ _ h => num_still h⟩
  · obtain ⟨n1, k1, F, rfl, a1, a2, a3, a4, a5, a6⟩ := right_tabM (show rightB Ma = true by simpa using h1)
    refine ⟨(rankF n1 k1 F unitF : Nat), fun g A c bo br w hf g1 => ?_, fun A c w g1 => ?_⟩
    · have e1 := g1.len
      rw [tabM_len] at e1
      subst e1
      exact rank_any g A n1 c k1 F w hf g1 a1 a2 a3 a4
    · have e1 := g1.len
      rw [tabM_len] at e1
      subst e1
      exact rrank_any A n1 c k1 F w g1 a1 a2 a3 a4
theorem unit_both (x : Int) (hx : x ≤ 30) : ∃ (N : Nat) (M : List (List UInt8)) (v : Int), N ≤ 255 ∧ (∀ w, Calls Try.prog 12 #[.int .i64 x] w (Ans w N M v)) ∧ (∀ w, Calls Try.prog 28 #[.int .i64 x] w (Ans w N M v)) := by
  by_cases h : x < 1
  · exact ⟨0, [], 2, by omega, fun w => (unit_no x w (.inl h)).mono fun _ _ h => ans_not h, fun w => (runit_low x w h).mono fun _ _ h => ans_not h⟩
  · obtain ⟨n, rfl⟩ := Int.eq_ofNat_of_zero_le (show 0 ≤ x by omega)
    exact ⟨n, tabM n n unitF, 0, by omega, fun w => (unit_yes n w (by omega) (by omega)).mono fun _ _ h => ans_got h, fun w => (runit_yes n w (by omega) (by omega)).mono fun _ _ h => ans_got h⟩
theorem cauchy_both (x y : Int) (hx : x ≤ 30) (hy : y ≤ 30) (hx' : -9223372036854775808 ≤ x) (hy' : -9223372036854775808 ≤ y) : ∃ (N : Nat) (M : List (List UInt8)) (v : Int), N ≤ 255 ∧ (∀ g w, FldAt w g → Calls Try.prog 13 #[.pointer (some ⟨g, 0, none⟩), .int .i64 x, .int .i64 y] w (Ans w N M v)) ∧ (∀ w, Calls Try.prog 29 #[.int .i64 x, .int .i64 y] w (Ans w N M v)) := by
  by_cases h : x < 1 ∨ y < 1
  · exact ⟨0, [], 2, by omega, fun g w hf => (cauchy_arg g x y w hf hx' (by omega) hy' (by omega) (by omega)).mono fun _ _ h => ans_not h, fun w => (rcauchy_arg x y w h).mono fun _ _ h => ans_not h⟩
  · obtain ⟨n, rfl⟩ := Int.eq_ofNat_of_zero_le (show 0 ≤ x by omega)
    obtain ⟨k, rfl⟩ := Int.eq_ofNat_of_zero_le (show 0 ≤ y by omega)
    exact ⟨n, tabM n k (cauF k), 0, by omega, fun g w hf => (cauchy_yes g n k w hf (by omega) (by omega) (by omega)).mono fun _ _ h => ans_got h, fun w => (rcauchy_yes n k w (by omega) (by omega) (by omega) (by omega)).mono fun _ _ h => ans_got h⟩
end Go.Proofs.Ytcggcbfddgfigaa
