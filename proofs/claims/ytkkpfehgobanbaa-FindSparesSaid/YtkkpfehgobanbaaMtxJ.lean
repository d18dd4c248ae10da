/- Invert, Rank. -/
import Derived.Test.YtkkpfehgobanbaaMtxI
namespace Go.Proofs.Ytkkpfehgobanbaa
open Go.RowKit Go.Coop
set_option maxRecDepth 100000

theorem But.below {gs : List Nat} {w w' : World} {B : Nat} (h : But gs w w') (hg : ∀ g, g ∈ gs → B ≤ g) (hB : B ≤ w.heap.size) : Below B w w' :=
  ⟨h.os, h.tape, h.output, h.size, fun k hk => h.block k (by omega) fun hm => by have := hg k hm; omega⟩

theorem invert_shape {bo br : Nat} (g : Nat) (A : Option Addr) (n c : Nat) (M : List (List UInt8)) (w : World) (hf : FldAt w g) (h : MO w bo br A n c M) (hn : n ≤ 140737488355328)
    (hr : rightB M = false ∨ (M.headD []).length ≠ M.length) :
    Calls Try.prog 70 #[.pointer (some ⟨g, 0, none⟩), .slice A n c] w (NotM w 30) := by
  have HF := Lib.hid hf
  have HM := Lib.hid h
  clear hf h
  by_cases h1 : rightB M = false
  · go_enter Try.func70, Try.ntmps70
    go_wp2_with fail
    refine (mmade_yes _ _ HF.out).mono ?_
    rintro e w' ⟨rfl, n0, rfl⟩
    go_wp2_with fail
    have K := right_any A n c M (w.drewN n0) (HM.out.drewN n0) hn
    rw [h1] at K
    refine K.mono ?_
    rintro e w' ⟨rfl, rfl⟩
    clear K
    go_wp2
    go_ret2
    exact ⟨rfl, ⟨rfl, rfl, rfl, Nat.le_refl _, fun _ _ => rfl⟩⟩
  have h1' : rightB M = true := by simpa using h1
  have hn1 : 1 ≤ n := by
    have := h1'
    unfold rightB at this
    simp only [Bool.and_eq_true, decide_eq_true_eq] at this
    have := this.1.1
    rw [HM.out.len] at this
    exact this.1
  have h3 : (M.headD []).length ≠ n := by
    rcases hr with e | e
    · exact absurd e h1
    · rwa [HM.out.len] at e
  obtain ⟨ga, Ba, da, ra, rfl, _, _, _, hra, hca, _⟩ := HM.out.row (show 0 < n by omega)
  rw [headD_at hra] at h3
  obtain ⟨L, hL⟩ : ∃ L, ra.length = L := ⟨_, rfl⟩
  rw [hL] at hca h3
  have hq1 : ((L : Int) == (n : Int)) = false := beq_eq_false_iff_ne.2 (by omega)
  have HC := Lib.hid hca
  clear hL hra hca
  go_enter Try.func70, Try.ntmps70
  go_wp2_with fail
  refine (mmade_yes _ _ HF.out).mono ?_
  rintro e w' ⟨rfl, n0, rfl⟩
  go_wp2_with fail
  have K := right_any (some ⟨ga, 0, none⟩) n c M (w.drewN n0) (HM.out.drewN n0) hn
  rw [h1'] at K
  refine K.mono ?_
  rintro e w' ⟨rfl, rfl⟩
  clear K
  have hc : (w.drewN n0).cell? ⟨ga, 0, none⟩ = some (.slice Ba L da) := HC.out
  go_wp2
  go_ret2
  exact ⟨rfl, ⟨rfl, rfl, rfl, Nat.le_refl _, fun _ _ => rfl⟩⟩

/-- the inverse, or that there is none -/
def Inverted (w : World) (n : Nat) (F : Fn2) (e : Ending) (w' : World) : Prop :=
  (rankF n n F unitF = n ∧ GotM w n (tabM n n (besF n n F unitF)) e w') ∨ (rankF n n F unitF ≠ n ∧ NotM w 31 e w')

set_option maxRecDepth 100000 in
theorem invert_any {bo br : Nat} (g : Nat) (A : Option Addr) (n c : Nat) (F : Fn2) (w : World) (hf : FldAt w g) (h : MO w bo br A n c (tabM n n F)) (hn1 : 1 ≤ n) (hn2 : n ≤ 255) :
    Calls Try.prog 70 #[.pointer (some ⟨g, 0, none⟩), .slice A n c] w (Inverted w n F) := by
  obtain ⟨ga, Ba, da, ra, rfl, _, _, _, hra, hca, _⟩ := h.row (show 0 < n by omega)
  rw [tabM_at n F (show 0 < n by omega)] at hra
  injection hra with hra
  rw [← hra, rowL_len] at hca
  have HF := Lib.hid hf
  have HM := Lib.hid h
  have HC := Lib.hid hca
  clear hf h hca hra
  go_enter Try.func70, Try.ntmps70
  go_wp2_with fail
  refine (mmade_yes _ _ HF.out).mono ?_
  rintro e w' ⟨rfl, n0, hw0⟩
  have HF0 : Hid (FldAt w' g) := by show FldAt w' g; rw [hw0]; exact HF.out.drewN n0
  have HM0 : Hid (MO w' bo br (some ⟨ga, 0, none⟩) n c (tabM n n F)) := by show MO _ _ _ _ _ _ _; rw [hw0]; exact HM.out.drewN n0
  have hca : w'.cell? ⟨ga, 0, none⟩ = some (.slice Ba n da) := by rw [hw0]; exact HC.out
  have HB0 : Hid (Below w.heap.size w w' ∧ w'.heap.size = w.heap.size) := by rw [hw0]; exact ⟨⟨rfl, rfl, rfl, Nat.le_refl _, fun _ _ => rfl⟩, rfl⟩
  clear HF HM HC hw0
  go_wp2_with fail
  refine (right_yes _ n c n F _ HM0.out hn1 hn2 hn1 hn2).mono ?_
  rintro e w1 ⟨rfl, rfl⟩
  go_wp2_with fail
  refine (unit_yes n _ hn1 hn2).mono ?_
  rintro e w1 ⟨A1, c1, rfl, hM1, hB1⟩
  obtain ⟨g1, _, _, _, rfl, hg1, hl1, _⟩ := hM1.row (show 0 < n by omega)
  have HM1 := Lib.hid hM1
  have HB1 := Lib.hid hB1
  clear hM1 hB1
  go_wp2_with fail
  refine (clone_any _ n c _ w1 (HM0.out.below HB1.out (Nat.le_refl _)) (by omega) hn2).mono ?_
  rintro e w2 ⟨A2, c2, rfl, hM2, hB2⟩
  obtain ⟨g2, _, _, _, rfl, hg2, hl2, _⟩ := hM2.row (show 0 < n by omega)
  have HM2 := Lib.hid (hM2.lower (Nat.zero_le _) (Nat.zero_le _))
  have HN2 := Lib.hid (HM1.out.below hB2 (Nat.le_refl _))
  have HB2 := Lib.hid hB2
  have HF2 := Lib.hid ((HF0.out.below HB1.out HF0.out.lt).below hB2 (Nat.lt_of_lt_of_le HF0.out.lt HB1.out.size))
  have hs1 := HB1.out.size
  have hs2 := hB2.size
  clear hM2 hB2
  go_wp2_with fail
  refine (reduce_any g g2 g1 n c2 c1 n n F unitF w2 HF2.out HM2.out HN2.out (by omega) hn1 hn2 hn2 hn2 (Nat.zero_le _) (by omega)).mono ?_
  rintro e w3 ⟨rfl, hM3, hB3⟩
  have hle := (rankF_le n n F unitF).1
  have HM3 := Lib.hid hM3
  have HB3 : Hid (Below w.heap.size w w3) := by
    have e := HB0.out.2
    refine HB0.out.1.trans ((HB1.out.trans (HB2.out.mono hs1)).mono (by omega) |>.trans (hB3.below (fun g hg => ?_) (by omega)))
    simp at hg
    omega
  have HE := HB0.out.2
  clear hM3 hB3 hca
  generalize hrk : rankF n n F unitF = r at *
  by_cases hr : r = n
  · subst hr
    go_wp2
    go_ret2
    refine .inl ⟨hrk, _, _, rfl, ?_, HB3.out⟩
    rw [← HE]
    exact HM3.out
  · have hlt : r < n := by omega
    go_wp2
    go_ret2
    exact .inr ⟨by rw [hrk]; exact hr, rfl, HB3.out⟩
end Go.Proofs.Ytkkpfehgobanbaa
