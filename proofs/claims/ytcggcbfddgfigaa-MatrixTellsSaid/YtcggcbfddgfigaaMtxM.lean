/- The chapter's examples: awake. -/
import Derived.Test.YtcggcbfddgfigaaMtxL
namespace Go.Proofs.Ytcggcbfddgfigaa
open Go.RowKit Go.Coop

def litF (M : List (List UInt8)) : Fn2 := fun i j => (M.getD i []).getD j 0
theorem v1 : tabM 1 2 (cauF 2) = [[142, 244]] := by decide +kernel
theorem v2 : tabM 1 1 (mulF 2 (litF [[1, 2]]) (litF [[3], [4]])) = [[11]] := by decide +kernel
theorem v3 : rankF 2 2 (litF [[1, 1], [1, 0]]) unitF = 2 := by decide +kernel
theorem v4 : tabM 2 2 (besF 2 2 (litF [[1, 1], [1, 0]]) unitF) = [[0, 1], [1, 1]] := by decide +kernel
theorem v5 : rankF 2 2 (litF [[1, 1], [1, 1]]) unitF = 1 := by decide +kernel
theorem v6 : tabM 2 2 unitF = [[1, 0], [0, 1]] := by decide +kernel
theorem v7 : [[1, 2]] = tabM 1 2 (litF [[1, 2]]) := by decide +kernel
theorem v8 : [[3], [4]] = tabM 2 1 (litF [[3], [4]]) := by decide +kernel
theorem v9 : [[1, 1], [1, 0]] = tabM 2 2 (litF [[1, 1], [1, 0]]) := by decide +kernel
theorem v10 : [[1, 1], [1, 1]] = tabM 2 2 (litF [[1, 1], [1, 1]]) := by decide +kernel
theorem v11 : rightB (tabM 2 2 unitF) = true := by decide +kernel
theorem v12 : pickL (tabM 2 2 unitF) [1, 1] = [[0, 1], [0, 1]] := by decide +kernel

theorem lit_one {w : World} {br k d : Nat} {B : Option Addr} {r : List UInt8} (h : Own w br 5 B k d r) : MO (w.alloc (.cells #[.slice B k d] 26)) w.heap.size br (some ⟨w.heap.size, 0, none⟩) 1 1 [r] := by
  refine ⟨rfl, [.slice B k d], ⟨rfl, rfl, .inr ⟨w.heap.size, 1, #[.slice B k d], rfl, Nat.le_refl _, heap_alloc_new w _, Nat.le_refl _, by simp [maxLen], rfl, rfl⟩⟩, fun i x hi => ?_⟩
  match i, hi with
  | 0, hi =>
    simp at hi
    subst hi
    rw [h.len]
    exact ⟨B, d, rfl, h.alloc _⟩
theorem lit_two {w : World} {br k d k' d' : Nat} {B B' : Option Addr} {r r' : List UInt8} (h : Own w br 5 B k d r) (h' : Own w br 5 B' k' d' r') : MO (w.alloc (.cells #[.slice B k d, .slice B' k' d'] 26)) w.heap.size br (some ⟨w.heap.size, 0, none⟩) 2 2 [r, r'] := by
  refine ⟨rfl, [.slice B k d, .slice B' k' d'], ⟨rfl, rfl, .inr ⟨w.heap.size, 2, #[.slice B k d, .slice B' k' d'], rfl, Nat.le_refl _, heap_alloc_new w _, Nat.le_refl _, by simp [maxLen], rfl, rfl⟩⟩, fun i x hi => ?_⟩
  match i, hi with
  | 0, hi =>
    simp at hi
    subst hi
    rw [h.len]
    exact ⟨B, d, rfl, h.alloc _⟩
  | 1, hi =>
    simp at hi
    subst hi
    rw [h'.len]
    exact ⟨B', d', rfl, h'.alloc _⟩
/-- a matrix of one row, of two rows, typed out -/
theorem mo1 (w : World) (l : List UInt8) (k : Nat) (hk : l.length = k) (hm : k ≤ maxLen := by decide) :
    MO ((w.alloc (.cells (bvs l).toArray 5)).alloc (.cells #[.slice (some ⟨w.heap.size, 0, none⟩) k k] 26)) (w.heap.size + 1) w.heap.size (some ⟨w.heap.size + 1, 0, none⟩) 1 1 [l] := by
  have := lit_one (own_new w l k hk hm)
  rwa [size_alloc] at this
theorem mo2 (w : World) (l l' : List UInt8) (k k' : Nat) (hk : l.length = k) (hk' : l'.length = k') (hm : k ≤ maxLen := by decide) (hm' : k' ≤ maxLen := by decide) :
    MO (((w.alloc (.cells (bvs l).toArray 5)).alloc (.cells (bvs l').toArray 5)).alloc (.cells #[.slice (some ⟨w.heap.size, 0, none⟩) k k, .slice (some ⟨w.heap.size + 1, 0, none⟩) k' k'] 26)) (w.heap.size + 2) w.heap.size (some ⟨w.heap.size + 2, 0, none⟩) 2 2 [l, l'] := by
  have h1 := own_new (w.alloc (.cells (bvs l).toArray 5)) l' k' hk' hm'
  have h := lit_two ((own_new w l k hk hm).alloc (.cells (bvs l').toArray 5)) (h1.lower (by simp))
  simp only [size_alloc] at h
  exact h

set_option maxHeartbeats 1000000 in
set_option maxRecDepth 100000 in
theorem awake_any (w : World) : Calls Try.prog 18 #[] w fun e w' => e = .returned (.bool true) ∧ Below w.heap.size w w' := by
  go_enter Try.func18, Try.ntmps18
  go_wp2_with fail
  refine (new_any _).mono ?_
  rintro e w1 ⟨g, rfl, hF, hg, hB⟩
  have HF1 := Lib.hid hF
  have HB1 := Lib.hid hB
  clear hF hB
  go_wp2_with fail
  refine (unit_yes 2 w1 (by omega) (by omega)).mono ?_
  rintro e w2 ⟨Aa, ca, rfl, hM, hB⟩
  have Ha2 := Lib.hid hM
  have HF2 := Lib.hid (HF1.out.below hB HF1.out.lt)
  have HB2 := Lib.hid (HB1.out.trans (hB.mono HB1.out.size))
  clear hM hB HF1 HB1
  go_wp2_with fail
  refine (cauchy_yes g 1 2 w2 HF2.out (by omega) (by omega) (by omega)).mono ?_
  rintro e w3 ⟨Ac, cc, rfl, hM, hB⟩
  rw [v1] at hM
  have Hc3 := Lib.hid hM.mr
  have Ha3 := Lib.hid (Ha2.out.below hB (Nat.le_refl _))
  have HF3 := Lib.hid (HF2.out.below hB HF2.out.lt)
  have HB3 := Lib.hid (HB2.out.trans (hB.mono HB2.out.size))
  clear hM hB HF2 HB2 Ha2
  go_wp2_with fail
  refine (mul_yes g _ 1 1 2 (litF [[1, 2]]) _ 2 1 (litF [[3], [4]]) _ (by exact ((((HF3.out.alloc _).alloc _).alloc _).alloc _).alloc _) (by rw [← v7]; exact (((mo1 w3 [1, 2] 2 rfl).alloc _).alloc _).alloc _) (by rw [← v8]; have := mo2 ((w3.alloc (.cells (bvs [1, 2]).toArray 5)).alloc (.cells #[.slice (some ⟨w3.heap.size, 0, none⟩) 2 2] 26)) [3] [4] 1 1 rfl rfl; simp only [size_alloc] at this; exact this) (by omega) (by omega) (by omega) (by omega) (by omega) (by omega)).mono ?_
  rintro e w4 ⟨Ae, ce, rfl, hM, hB⟩
  rw [v2] at hM
  have hW : Below w3.heap.size w3 w4 := (((((((Below.refl w3.heap.size w3).alloc (Nat.le_refl _) _).alloc (by simp) _).alloc (by simp; omega) _).alloc (by simp; omega) _).alloc (by simp; omega) _)).trans (hB.mono (by simp; omega))
  have He4 := Lib.hid hM.mr
  have Ha4 := Lib.hid (Ha3.out.below hW (Nat.le_refl _))
  have Hc4 := Lib.hid (Hc3.out.below hW (Nat.le_refl _))
  have HF4 := Lib.hid (HF3.out.below hW HF3.out.lt)
  have HB4 := Lib.hid (HB3.out.trans (hW.mono HB3.out.size))
  clear hM hB hW HF3 HB3 Ha3 Hc3
  go_wp2_with fail
  refine (invert_any g _ 2 2 (litF [[1, 1], [1, 0]]) _ (by exact ((HF4.out.alloc _).alloc _).alloc _) (by rw [← v9]; exact mo2 w4 [1, 1] [1, 0] 2 2 rfl rfl) (by omega) (by omega)).mono ?_
  rintro e w5 hI
  have hI := hI.resolve_right (fun h => h.1 v3)
  obtain ⟨_, Ah, ch, rfl, hM, hB⟩ := hI
  rw [v4] at hM
  have hW : Below w4.heap.size w4 w5 := ((((Below.refl w4.heap.size w4).alloc (Nat.le_refl _) _).alloc (by simp) _).alloc (by simp; omega) _).trans (hB.mono (by simp; omega))
  have Hh5 := Lib.hid hM.mr
  have Ha5 := Lib.hid (Ha4.out.below hW (Nat.le_refl _))
  have Hc5 := Lib.hid (Hc4.out.below hW (Nat.le_refl _))
  have He5 := Lib.hid (He4.out.below hW (Nat.le_refl _))
  have HF5 := Lib.hid (HF4.out.below hW HF4.out.lt)
  have HB5 := Lib.hid (HB4.out.trans (hW.mono HB4.out.size))
  clear hM hB hW HF4 HB4 Ha4 Hc4 He4
  go_wp2_with fail
  refine (invert_any g _ 2 2 (litF [[1, 1], [1, 1]]) _ (by exact ((HF5.out.alloc _).alloc _).alloc _) (by rw [← v10]; exact mo2 w5 [1, 1] [1, 1] 2 2 rfl rfl) (by omega) (by omega)).mono ?_
  rintro e w6 hI
  have hI := hI.resolve_left (fun h => by have := v5.symm.trans h.1; omega)
  obtain ⟨_, rfl, hB⟩ := hI
  have hW : Below w5.heap.size w5 w6 := ((((Below.refl w5.heap.size w5).alloc (Nat.le_refl _) _).alloc (by simp) _).alloc (by simp; omega) _).trans (hB.mono (by simp; omega))
  have Ha6 := Lib.hid (Ha5.out.below hW (Nat.le_refl _))
  have Hc6 := Lib.hid (Hc5.out.below hW (Nat.le_refl _))
  have He6 := Lib.hid (He5.out.below hW (Nat.le_refl _))
  have Hh6 := Lib.hid (Hh5.out.below hW (Nat.le_refl _))
  have HF6 := Lib.hid (HF5.out.below hW HF5.out.lt)
  have HB6 := Lib.hid (HB5.out.trans (hW.mono HB5.out.size))
  clear hB hW HF5 HB5 Ha5 Hc5 He5 Hh5
  go_wp2_with fail
  refine (pick_any _ 2 ca _ _ 2 2 [1, 1] _ (by exact Ha6.out.alloc _) v11 (by exact RdV.new w6 [.int .i64 1, .int .i64 1] 3 (0, 0)) (by omega) (by omega) (by intro x hx; simp at hx; omega)).mono ?_
  rintro e w7 hI
  have hI := hI.resolve_right (fun h => h.1 (by intro x hx; simp at hx; subst hx; simp [tabM_len]))
  obtain ⟨_, Ak, ck, rfl, hM, hB⟩ := hI
  rw [v12] at hM
  have hW : Below w6.heap.size w6 w7 := ((Below.refl w6.heap.size w6).alloc (Nat.le_refl _) _).trans (hB.mono (by simp))
  have Hk7 := Lib.hid hM.mr
  have Hc7 := Lib.hid (Hc6.out.below hW (Nat.le_refl _))
  have He7 := Lib.hid (He6.out.below hW (Nat.le_refl _))
  have Hh7 := Lib.hid (Hh6.out.below hW (Nat.le_refl _))
  have Ha7 : Hid (MR w7 Aa 2 [[1, 0], [0, 1]]) := by have := (Ha6.out.below hW (Nat.le_refl _)).mr; rwa [v6] at this
  have HF7 := Lib.hid (HF6.out.below hW HF6.out.lt)
  have HB7 := Lib.hid (HB6.out.trans (hW.mono HB6.out.size))
  clear hM hB hW HF6 HB6 Ha6 Hc6 He6 Hh6
  go_wp2_with fail
  refine (is_yes Aa 2 ca [[1, 0], [0, 1]] _ 2 _ (by exact Ha7.out.below ((((Below.refl w7.heap.size w7).alloc (Nat.le_refl _) _).alloc (by simp) _).alloc (by simp; omega) _) (Nat.le_refl _)) (by exact (mo2 w7 [1, 0] [0, 1] 2 2 rfl rfl).mr) (by omega)).mono ?_
  rintro e w8 ⟨rfl, n8, hw⟩
  have hW : Below w7.heap.size w7 w8 := by rw [hw]; exact (((((Below.refl w7.heap.size w7).alloc (Nat.le_refl _) _).alloc (by simp) _).alloc (by simp; omega) _).trans ⟨rfl, rfl, rfl, Nat.le_refl _, fun _ _ => rfl⟩)
  clear hw
  have Hc8 := Lib.hid (Hc7.out.below hW (Nat.le_refl _))
  have He8 := Lib.hid (He7.out.below hW (Nat.le_refl _))
  have Hh8 := Lib.hid (Hh7.out.below hW (Nat.le_refl _))
  have Hk8 := Lib.hid (Hk7.out.below hW (Nat.le_refl _))
  have HF8 := Lib.hid (HF7.out.below hW HF7.out.lt)
  have HB8 := Lib.hid (HB7.out.trans (hW.mono HB7.out.size))
  clear hW HF7 HB7 Hc7 He7 Hh7 Hk7
  go_wp2_with fail
  refine (is_yes Ac 1 cc [[142, 244]] _ 1 _ (by exact Hc8.out.below (((Below.refl w8.heap.size w8).alloc (Nat.le_refl _) _).alloc (by simp) _) (Nat.le_refl _)) (by exact (mo1 w8 [142, 244] 2 rfl).mr) (by omega)).mono ?_
  rintro e w9 ⟨rfl, n9, hw⟩
  have hW : Below w8.heap.size w8 w9 := by rw [hw]; exact ((((Below.refl w8.heap.size w8).alloc (Nat.le_refl _) _).alloc (by simp) _).trans ⟨rfl, rfl, rfl, Nat.le_refl _, fun _ _ => rfl⟩)
  clear hw
  have He9 := Lib.hid (He8.out.below hW (Nat.le_refl _))
  have Hh9 := Lib.hid (Hh8.out.below hW (Nat.le_refl _))
  have Hk9 := Lib.hid (Hk8.out.below hW (Nat.le_refl _))
  have HF9 := Lib.hid (HF8.out.below hW HF8.out.lt)
  have HB9 := Lib.hid (HB8.out.trans (hW.mono HB8.out.size))
  clear hW HF8 HB8 He8 Hh8 Hk8
  go_wp2_with fail
  refine (is_yes Ae 1 ce [[11]] _ 1 _ (by exact He9.out.below (((Below.refl w9.heap.size w9).alloc (Nat.le_refl _) _).alloc (by simp) _) (Nat.le_refl _)) (by exact (mo1 w9 [11] 1 rfl).mr) (by omega)).mono ?_
  rintro e w10 ⟨rfl, n10, hw⟩
  have hW : Below w9.heap.size w9 w10 := by rw [hw]; exact ((((Below.refl w9.heap.size w9).alloc (Nat.le_refl _) _).alloc (by simp) _).trans ⟨rfl, rfl, rfl, Nat.le_refl _, fun _ _ => rfl⟩)
  clear hw
  have Hh10 := Lib.hid (Hh9.out.below hW (Nat.le_refl _))
  have Hk10 := Lib.hid (Hk9.out.below hW (Nat.le_refl _))
  have HF10 := Lib.hid (HF9.out.below hW HF9.out.lt)
  have HB10 := Lib.hid (HB9.out.trans (hW.mono HB9.out.size))
  clear hW HF9 HB9 Hh9 Hk9
  go_wp2_with fail
  refine (is_yes Ah 2 ch [[0, 1], [1, 1]] _ 2 _ (by exact Hh10.out.below ((((Below.refl w10.heap.size w10).alloc (Nat.le_refl _) _).alloc (by simp) _).alloc (by simp; omega) _) (Nat.le_refl _)) (by exact (mo2 w10 [0, 1] [1, 1] 2 2 rfl rfl).mr) (by omega)).mono ?_
  rintro e w11 ⟨rfl, n11, hw⟩
  have hW : Below w10.heap.size w10 w11 := by rw [hw]; exact (((((Below.refl w10.heap.size w10).alloc (Nat.le_refl _) _).alloc (by simp) _).alloc (by simp; omega) _).trans ⟨rfl, rfl, rfl, Nat.le_refl _, fun _ _ => rfl⟩)
  clear hw
  have Hk11 := Lib.hid (Hk10.out.below hW (Nat.le_refl _))
  have HF11 := Lib.hid (HF10.out.below hW HF10.out.lt)
  have HB11 := Lib.hid (HB10.out.trans (hW.mono HB10.out.size))
  clear hW HF10 HB10 Hk10
  go_wp2_with fail
  refine (rank_any g _ 2 2 2 (litF [[1, 1], [1, 1]]) _ (by exact ((HF11.out.alloc _).alloc _).alloc _) (by rw [← v10]; exact mo2 w11 [1, 1] [1, 1] 2 2 rfl rfl) (by omega) (by omega) (by omega) (by omega)).mono ?_
  rintro e w12 ⟨rfl, hB⟩
  rw [v5]
  have hW : Below w11.heap.size w11 w12 := ((((Below.refl w11.heap.size w11).alloc (Nat.le_refl _) _).alloc (by simp) _).alloc (by simp; omega) _).trans (hB.mono (by simp; omega))
  have Hk12 := Lib.hid (Hk11.out.below hW (Nat.le_refl _))
  have HF12 := Lib.hid (HF11.out.below hW HF11.out.lt)
  have HB12 := Lib.hid (HB11.out.trans (hW.mono HB11.out.size))
  clear hB hW HF11 HB11 Hk11
  go_wp2_with fail
  refine (is_yes Ak 2 ck [[0, 1], [0, 1]] _ 2 _ (by exact Hk12.out.below ((((Below.refl w12.heap.size w12).alloc (Nat.le_refl _) _).alloc (by simp) _).alloc (by simp; omega) _) (Nat.le_refl _)) (by exact (mo2 w12 [0, 1] [0, 1] 2 2 rfl rfl).mr) (by omega)).mono ?_
  rintro e w13 ⟨rfl, n13, hw⟩
  have hW : Below w12.heap.size w12 w13 := by rw [hw]; exact (((((Below.refl w12.heap.size w12).alloc (Nat.le_refl _) _).alloc (by simp) _).alloc (by simp; omega) _).trans ⟨rfl, rfl, rfl, Nat.le_refl _, fun _ _ => rfl⟩)
  clear hw
  have HF13 := Lib.hid (HF12.out.below hW HF12.out.lt)
  have HB13 := Lib.hid (HB12.out.trans (hW.mono HB12.out.size))
  clear hW HF12 HB12 
  go_wp2
  go_ret
  exact ⟨rfl, HB13.out⟩
end Go.Proofs.Ytcggcbfddgfigaa
