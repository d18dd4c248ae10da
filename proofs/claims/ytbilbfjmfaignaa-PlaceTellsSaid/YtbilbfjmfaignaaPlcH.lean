/- First. -/
import Derived.Test.YtbilbfjmfaignaaPlcG
namespace Go.Proofs.Ytbilbfjmfaignaa
open Go.RowKit Go.Coop
set_option maxRecDepth 100000
theorem PL.zero {w : World} {z n : Nat} (h : w.heap[z]? = some (.cells (zrp n).toArray 30 (0, 0))) : PL w (some ⟨z, 0, none⟩) n (List.replicate n zPc) :=
  ⟨by simp, fun i p hi => by
    have hp := List.mem_of_getElem? hi
    rw [List.mem_replicate] at hp
    obtain ⟨_, rfl⟩ := hp
    refine ⟨⟨RdV.nil _ _, by simp [zPc]⟩, _, rfl, lt_of_block h, fun j v hj => ?_⟩
    rw [addr_at, Nat.zero_add, cell_of_row _ z _ _ 30 (0, 0) h, List.getElem?_toArray]
    exact pcs_get hi hj⟩
theorem own_far {W W' : World} {B g n c : Nat} {A : Option Addr} {vs l r : List Value} {x0 x1 : Value} (h : OwnV W B 3 A n c vs) (hb : But [g] W W') (hr : RowAt W g l x0 x1 r) : OwnV W' B 3 A n c vs :=
  h.but hb fun j hj hm => by
    simp at hm
    subst hm
    obtain ⟨cur, hc⟩ := h.typ hj
    exact ne_of_type hc hr (by decide) rfl
theorem but_new {gs : List Nat} {w W W' : World} {g : Nat} (h : But gs w W) (hb : But [g] W W') (hg : w.heap.size ≤ g) : But gs w W' :=
  h.trans' hb fun i hi => .inr (by simp at hi; subst hi; exact hg)
/-- what a call tells that makes placements: them, and an error -/
def Gave (w : World) (r : List Pl × Int) (e : Ending) (w' : World) : Prop := ∃ A n ps, e = .returned (.tuple #[.slice A n n, .int .i64 r.2]) ∧ PO w' w.heap.size A n n ps ∧ ps.map Pc.pl = r.1 ∧ n ≤ 1000 ∧ Below w.heap.size w w'
section
variable (w : World)
theorem first_no (nodes n groups : Int) (h : ¬ FirstOk nodes n groups) : Calls Try.prog 10 #[.int .i64 nodes, .int .i64 n, .int .i64 groups] w (Gave w ([], 2)) := by
  have hend : ∀ W, Below w.heap.size w W → Gave w ([], 2) (.returned (.tuple #[.slice none 0 0, .int .i64 2])) W := fun W hb => ⟨none, 0, [], rfl, PO.nil _ _, rfl, by omega, hb⟩
  have HE := Lib.hid hend
  clear hend
  by_cases c1 : 1 ≤ nodes ∧ nodes ≤ 256
  · have C1 := Lib.hid (decide_eq_true c1)
    by_cases hlt : nodes ≤ 255
    · skip
      by_cases c2 : 1 ≤ n ∧ n ≤ nodes
      · have C3 : Hid (decide (1 ≤ groups ∧ groups ≤ 1000) = false) := decide_eq_false (fun c3 => h ⟨c1, by omega, c3⟩)
        have C2 := Lib.hid (decide_eq_true c2)
        clear h c1 c2
        go_enter Try.func10, Try.ntmps10
        go_wp2_with fail
        refine (fits_q _ nodes 256 C1.out).mono ?_
        rintro e _ ⟨rfl, rfl⟩
        go_wp2_with fail
        refine (fits_q _ n nodes C2.out).mono ?_
        rintro e _ ⟨rfl, rfl⟩
        go_wp2_with fail
        refine (fits_q _ groups 1000 C3.out).mono ?_
        rintro e _ ⟨rfl, rfl⟩
        go_wp2
        go_ret2
        exact HE.out _ (((Below.refl _ _).alloc (Nat.le_refl _) _).alloc (by simp) _)
      · have C2 := Lib.hid (decide_eq_false c2)
        clear h c1 c2
        go_enter Try.func10, Try.ntmps10
        go_wp2_with fail
        refine (fits_q _ nodes 256 C1.out).mono ?_
        rintro e _ ⟨rfl, rfl⟩
        go_wp2_with fail
        refine (fits_q _ n nodes C2.out).mono ?_
        rintro e _ ⟨rfl, rfl⟩
        go_wp2
        go_ret2
        exact HE.out _ (((Below.refl _ _).alloc (Nat.le_refl _) _).alloc (by simp) _)
    · have hmin : (255 : Int) < nodes := by omega
      by_cases c2 : 1 ≤ n ∧ n ≤ 255
      · have C3 : Hid (decide (1 ≤ groups ∧ groups ≤ 1000) = false) := decide_eq_false (fun c3 => h ⟨c1, by omega, c3⟩)
        have C2 := Lib.hid (decide_eq_true c2)
        clear h c1 c2
        go_enter Try.func10, Try.ntmps10
        go_wp2_with fail
        refine (fits_q _ nodes 256 C1.out).mono ?_
        rintro e _ ⟨rfl, rfl⟩
        go_wp2_with fail
        refine (fits_q _ n 255 C2.out).mono ?_
        rintro e _ ⟨rfl, rfl⟩
        go_wp2_with fail
        refine (fits_q _ groups 1000 C3.out).mono ?_
        rintro e _ ⟨rfl, rfl⟩
        go_wp2
        go_ret2
        exact HE.out _ (((Below.refl _ _).alloc (Nat.le_refl _) _).alloc (by simp) _)
      · have C2 := Lib.hid (decide_eq_false c2)
        clear h c1 c2
        go_enter Try.func10, Try.ntmps10
        go_wp2_with fail
        refine (fits_q _ nodes 256 C1.out).mono ?_
        rintro e _ ⟨rfl, rfl⟩
        go_wp2_with fail
        refine (fits_q _ n 255 C2.out).mono ?_
        rintro e _ ⟨rfl, rfl⟩
        go_wp2
        go_ret2
        exact HE.out _ (((Below.refl _ _).alloc (Nat.le_refl _) _).alloc (by simp) _)
  · have C1 := Lib.hid (decide_eq_false c1)
    clear h c1
    go_enter Try.func10, Try.ntmps10
    go_wp2_with fail
    refine (fits_q _ nodes 256 C1.out).mono ?_
    rintro e _ ⟨rfl, rfl⟩
    go_wp2
    go_ret2
    exact HE.out _ (((Below.refl _ _).alloc (Nat.le_refl _) _).alloc (by simp) _)

set_option maxHeartbeats 1000000 in
theorem first_yes (nodes n groups : Nat) (c1 : 1 ≤ nodes ∧ nodes ≤ 256) (c2 : 1 ≤ n ∧ n ≤ 255 ∧ n ≤ nodes) (c3 : 1 ≤ groups ∧ groups ≤ 1000) : Calls Try.prog 10 #[.int .i64 (nodes : Int), .int .i64 (n : Int), .int .i64 (groups : Int)] w (Gave w (firstL nodes n groups, 0)) := by
  obtain ⟨w1, hw1⟩ : ∃ v, w.alloc (.cells #[.int .i64 (nodes : Int)] 3) = v := ⟨_, rfl⟩
  obtain ⟨w2, hw2⟩ : ∃ v, w1.alloc (.cells #[.int .i64 (n : Int)] 3) = v := ⟨_, rfl⟩
  obtain ⟨w3, hw3⟩ : ∃ v, w2.alloc (.cells (zrp groups).toArray 30) = v := ⟨_, rfl⟩
  obtain ⟨hb1, hx1⟩ := box_new hw1
  obtain ⟨hb2, hx2⟩ := box_new hw2
  obtain ⟨hb3, hx3⟩ := box_new hw3
  obtain ⟨b, hb⟩ : ∃ b, w.heap.size = b := ⟨_, rfl⟩
  obtain ⟨b', hb'⟩ : ∃ b, w1.heap.size = b := ⟨_, rfl⟩
  obtain ⟨z, hz⟩ : ∃ b, w2.heap.size = b := ⟨_, rfl⟩
  rw [hb] at hx1
  rw [hb'] at hx2
  rw [hz] at hx3
  have x1 : Box w1 b (.int .i64 (nodes : Int)) 3 := hx1
  have x2 : Box w2 b' (.int .i64 (n : Int)) 3 := hx2
  have x12 := x1.below hb2 (Nat.le_refl _)
  have x13 := x12.below hb3 (Nat.le_refl _)
  have x23 := x2.below hb3 (Nat.le_refl _)
  have hB2 : Below w.heap.size w w2 := hb1.trans (hb2.mono hb1.size)
  have hB3 : Below w.heap.size w w3 := hB2.trans (hb3.mono hB2.size)
  have k1 := x1.cell
  have k2 := x12.cell
  have k3 := x2.cell
  have mk := make24 groups (by omega)
  have C1 := Lib.hid (decide_eq_true (show 1 ≤ (nodes : Int) ∧ (nodes : Int) ≤ 256 by omega))
  have C3 := Lib.hid (decide_eq_true (show 1 ≤ (groups : Int) ∧ (groups : Int) ≤ 1000 by omega))
  have HC : Hid (Calls Try.prog 35 #[.slice (some ⟨z, 0, none⟩) groups groups, .func (.func 36) #[] #[.pointer (some ⟨b', 0, none⟩), .pointer (some ⟨b, 0, none⟩)]] w3 fun e w' => ∃ A' qs, e = .returned (.slice A' groups groups) ∧ PO w' w3.heap.size A' groups groups qs ∧ (qs.map Pc.pl = firstL nodes n groups ∧ Box w' b (.int .i64 (nodes : Int)) 3 ∧ Box w' b' (.int .i64 (n : Int)) 3) ∧ But [] w3 w') := by
    refine changed_first w3 (ps := List.replicate groups zPc) [] (fun k qs W => qs.map Pc.pl = firstL nodes n k ∧ Box W b (.int .i64 (nodes : Int)) 3 ∧ Box W b' (.int .i64 (n : Int)) 3) (by simp) (by omega) ?_ ?_ ?_
    · intro W hW
      exact PL.zero (hW.cells hx3 (by simp))
    · intro W hW
      exact ⟨rfl, x13.below hW (Nat.le_refl _), x23.below hW (Nat.le_refl _)⟩
    · intro W0 W k p qs g l r X c h
      obtain ⟨s1, s2, s3⟩ := h.st
      have hk : k < groups := by simpa using h.lt
      have y1 := s2.but h.but1 (by simp; exact ne_of_type s2 h.row0 (by decide))
      have y2 := s3.but h.but1 (by simp; exact ne_of_type s3 h.row0 (by decide))
      refine (cl_first W h.ll h.row y2 y1 (by omega) (by omega) (by omega) (by omega)).mono ?_
      rintro e w' ⟨rfl, A, c', hr, ho, hbt⟩
      have z1 := y1.but hbt (by simp; exact ne_of_type y1 h.row (by decide))
      have z2 := y2.but hbt (by simp; exact ne_of_type y2 h.row (by decide))
      refine ⟨⟨1, A, n, c', row1 nodes n k⟩, rfl, hr, fun x hx => ?_, ⟨?_, z1, z2⟩, but_new h.but hbt h.g0, by simp [h.len]⟩
      · rcases List.mem_append.1 hx with hx | hx
        · exact ⟨own_far (own_far (h.each x hx).1 h.but1 h.row0) hbt h.row, (h.each x hx).2⟩
        · simp at hx
          subst hx
          exact ⟨ho.lower' h.but.size, by simp only; omega⟩
      · rw [List.map_append, s1]
        simp [firstL, List.range_succ, Pc.pl]
  have HE := Lib.hid (And.intro hB3 c3.2)
  clear hx1 hx2 hx3 x1 x2 x12 x13 x23 hB2 hB3 hb1 hb2 hb3
  by_cases hlt : (nodes : Int) ≤ 255
  · skip
    have C2 := Lib.hid (decide_eq_true (show 1 ≤ (n : Int) ∧ (n : Int) ≤ (nodes : Int) by omega))
    go_enter Try.func10, Try.ntmps10
    go_wp2_with fail
    refine (fits_q _ (nodes : Int) 256 C1.out).mono ?_
    rintro e _ ⟨rfl, rfl⟩
    go_wp2_with fail
    refine (fits_q _ (n : Int) (nodes : Int) C2.out).mono ?_
    rintro e _ ⟨rfl, rfl⟩
    go_wp2_with fail
    refine (fits_q _ (groups : Int) 1000 C3.out).mono ?_
    rintro e _ ⟨rfl, rfl⟩
    go_wp2_with fail
    (try rw [hw1]); (try rw [hb]); (try rw [hw2]); (try rw [hb']); (try rw [hw3]); (try rw [hz])
    refine HC.out.mono ?_
    rintro e w4 ⟨A', qs, rfl, hpo, ⟨hq, _, _⟩, hbt⟩
    go_wp2
    go_ret2
    exact ⟨A', groups, qs, rfl, hpo.lower HE.out.1.size, hq, HE.out.2, HE.out.1.trans (hbt.none.mono HE.out.1.size)⟩
  · have hmin : (255 : Int) < (nodes : Int) := by omega
    have C2 := Lib.hid (decide_eq_true (show 1 ≤ (n : Int) ∧ (n : Int) ≤ 255 by omega))
    go_enter Try.func10, Try.ntmps10
    go_wp2_with fail
    refine (fits_q _ (nodes : Int) 256 C1.out).mono ?_
    rintro e _ ⟨rfl, rfl⟩
    go_wp2_with fail
    refine (fits_q _ (n : Int) 255 C2.out).mono ?_
    rintro e _ ⟨rfl, rfl⟩
    go_wp2_with fail
    refine (fits_q _ (groups : Int) 1000 C3.out).mono ?_
    rintro e _ ⟨rfl, rfl⟩
    go_wp2_with fail
    (try rw [hw1]); (try rw [hb]); (try rw [hw2]); (try rw [hb']); (try rw [hw3]); (try rw [hz])
    refine HC.out.mono ?_
    rintro e w4 ⟨A', qs, rfl, hpo, ⟨hq, _, _⟩, hbt⟩
    go_wp2
    go_ret2
    exact ⟨A', groups, qs, rfl, hpo.lower HE.out.1.size, hq, HE.out.2, HE.out.1.trans (hbt.none.mono HE.out.1.size)⟩
theorem first_is (nodes n groups : Int) : Calls Try.prog 10 #[.int .i64 nodes, .int .i64 n, .int .i64 groups] w (Gave w (firstP nodes n groups)) := by
  unfold firstP
  by_cases h : FirstOk nodes n groups
  · rw [if_pos h]
    obtain ⟨h1, h2, h3⟩ := h
    have := first_yes w nodes.toNat n.toNat groups.toNat (by omega) (by omega) (by omega)
    rw [Int.toNat_of_nonneg (by omega), Int.toNat_of_nonneg (by omega), Int.toNat_of_nonneg (by omega)] at this
    exact this
  · rw [if_neg h]
    exact first_no w nodes n groups h
end
end Go.Proofs.Ytbilbfjmfaignaa
