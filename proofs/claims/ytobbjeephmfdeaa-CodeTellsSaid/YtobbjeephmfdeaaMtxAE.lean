/- The reference's Invert and Rank; which matrices are small. -/
import Derived.Test.YtobbjeephmfdeaaMtxAD
namespace Go.Proofs.Ytobbjeephmfdeaa
open Go.RowKit Go.Coop
set_option maxRecDepth 100000

/-- a matrix is told to be read · as the program's, but for what is owned -/
def GotR (w : World) (n : Nat) (M : List (List UInt8)) (e : Ending) (w' : World) : Prop :=
  ∃ A c, e = .returned (.tuple #[.slice A n c, .int .i64 0]) ∧ MR w' A n M ∧ Below w.heap.size w w'

theorem rinvert_shape (A : Option Addr) (n c : Nat) (M : List (List UInt8)) (w : World) (h : MR w A n M) (hr : rightB M = false ∨ (M.headD []).length ≠ M.length) :
    Calls Try.prog 62 #[.slice A n c] w (NotM w 30) := by
  have HM := Lib.hid h
  clear h
  have K1 := rright_any A n c M w HM.out
  by_cases h1 : rightB M = false
  · rw [h1] at K1
    go_enter Try.func62, Try.ntmps62
    go_wp2_with fail
    refine K1.mono ?_
    rintro e w' ⟨rfl, j, rfl⟩
    clear K1
    go_wp2
    go_ret2
    exact ⟨rfl, below_drewN w j⟩
  have h1' : rightB M = true := by simpa using h1
  rw [h1'] at K1
  have hn1 : 1 ≤ n := by
    have := h1'
    unfold rightB at this
    simp only [Bool.and_eq_true, decide_eq_true_eq] at this
    have := this.1.1
    rw [HM.out.len] at this
    exact this.1
  have h3 : (M.headD []).length ≠ n := by
    rcases hr with e | e
    · exact absurd e h1
    · rwa [HM.out.len] at e
  obtain ⟨ad, Ba, da, ra, rfl, _, hra, hca, _⟩ := HM.out.row (show 0 < n by omega)
  rw [headD_at hra] at h3
  obtain ⟨L, hL⟩ : ∃ L, ra.length = L := ⟨_, rfl⟩
  rw [hL] at hca h3
  have hq1 : ((L : Int) == (n : Int)) = false := beq_eq_false_iff_ne.2 (by omega)
  have HC := Lib.hid (show w.cell? ad = some (.slice Ba L da) from hca)
  have hn0 : (0 : Int) < n := by omega
  have hn0' : 0 < n := by omega
  clear hL hra hca
  go_enter Try.func62, Try.ntmps62
  go_wp2_with fail
  refine K1.mono ?_
  rintro e w' ⟨rfl, j, hw⟩
  have hc : w'.cell? ad = some (.slice Ba L da) := by rw [hw]; exact HC.out
  have HW := Lib.hid hw
  clear K1 hw
  go_wp2
  go_ret2
  exact ⟨rfl, by rw [HW.out]; exact below_drewN w j⟩

def RInverted (w : World) (n : Nat) (F : Fn2) (e : Ending) (w' : World) : Prop :=
  (rankF n n F unitF = n ∧ GotR w n (tabM n n (besF n n F unitF)) e w') ∨ (rankF n n F unitF ≠ n ∧ NotM w 31 e w')
set_option maxRecDepth 100000 in
theorem rinvert_any (A : Option Addr) (n c : Nat) (F : Fn2) (w : World) (h : MR w A n (tabM n n F)) (hn1 : 1 ≤ n) (hn2 : n ≤ 255) :
    Calls Try.prog 62 #[.slice A n c] w (RInverted w n F) := by
  have K1 := rright_any A n c _ w h
  rw [right_tab hn1 hn2 hn1 hn2] at K1
  have HM := Lib.hid h
  obtain ⟨ad, B, d, rfl, _, hca, _⟩ := h.tab (show 0 < n by omega)
  have HC := Lib.hid (show w.cell? ad = some (.slice B n d) from hca)
  have hn0 : (0 : Int) < n := by omega
  have hn0' : 0 < n := by omega
  clear h hca
  go_enter Try.func62, Try.ntmps62
  go_wp2_with fail
  refine K1.mono ?_
  rintro e w1 ⟨rfl, j, hw⟩
  have hc : w1.cell? ad = some (.slice B n d) := by rw [hw]; exact HC.out
  have HB1 : Hid (Below w.heap.size w w1 ∧ w1.heap.size = w.heap.size) := by rw [hw]; exact ⟨below_drewN w j, rfl⟩
  clear K1 hw HC
  go_wp2_with fail
  refine (runit_yes n w1 hn1 hn2).mono ?_
  rintro e w2 ⟨A2, c2, rfl, hM2, hB2⟩
  have HU2 := Lib.hid hM2.mr
  have HB2 : Hid (Below w.heap.size w w2) := HB1.out.1.trans (hB2.mono (by have := HB1.out.2; omega))
  clear hM2 hB2 hc
  go_wp2_with fail
  refine (steps_any (some ad) n c n F A2 c2 unitF w2 (HM.out.below HB2.out (Nat.le_refl _)) HU2.out hn1 hn2 hn1 hn2).mono ?_
  rintro e w3 ⟨A3, B3, c3, c3', rfl, hM3, hB3⟩
  have HM3 := Lib.hid hM3
  have HB3 : Hid (Below w.heap.size w w3) := HB2.out.trans (hB3.mono HB2.out.size)
  have hle := (rankF_le n n F unitF).1
  clear hM3 hB3
  generalize hrk : rankF n n F unitF = r at *
  by_cases hr : r = n
  · subst hr
    go_wp2
    go_ret2
    exact .inl ⟨hrk, _, _, rfl, HM3.out, HB3.out⟩
  · have hlt : r < n := by omega
    go_wp2
    go_ret2
    exact .inr ⟨by rw [hrk]; exact hr, rfl, HB3.out⟩

end Go.Proofs.Ytobbjeephmfdeaa
