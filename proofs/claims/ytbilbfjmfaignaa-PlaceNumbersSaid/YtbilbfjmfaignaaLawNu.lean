/- PlaceNumbers' walk. -/
import Derived.Test.YtbilbfjmfaignaaReadB
namespace Go.Proofs.Ytbilbfjmfaignaa
open Go.RowKit Go.Coop
set_option maxRecDepth 100000
theorem PL.lit {w : World} {z : Nat} {ps : List Pc} (h : w.heap[z]? = some (.cells (pcs ps).toArray 30 (0, 0))) (hp : ∀ p ∈ ps, p.Ok w) : PL w (some ⟨z, 0, none⟩) ps.length ps :=
  ⟨rfl, fun i r hi => ⟨hp r (List.mem_of_getElem? hi), _, rfl, lt_of_block h, fun j v hj => by
    rw [addr_at, Nat.zero_add, cell_of_row _ z _ _ 30 (0, 0) h, List.getElem?_toArray]
    exact pcs_get hi hj⟩⟩
/-- three numbers -/
def tr3 (x : Int × Int × Int) : List Value := [.int .i64 x.1, .int .i64 x.2.1, .int .i64 x.2.2]
theorem tr3_get : ∀ {L : List (Int × Int × Int)} {i : Nat} {x : Int × Int × Int} {j : Nat} {v : Value}, L[i]? = some x → (tr3 x)[j]? = some v → (L.flatMap tr3)[i * 3 + j]? = some v
  | [], i, p, j, v, h, _ => by simp at h
  | q :: ps, 0, p, j, v, h, hj => by
    simp at h
    subst h
    have : j < (tr3 q).length := (List.getElem?_eq_some_iff.1 hj).1
    simp only [List.flatMap_cons]
    rw [Nat.zero_mul, Nat.zero_add, List.getElem?_append_left this, hj]
  | q :: ps, i + 1, p, j, v, h, hj => by
    have := tr3_get (L := ps) (i := i) (by simpa using h) hj
    simp only [List.flatMap_cons] at this ⊢
    have hl : (tr3 q).length = 3 := rfl
    rw [List.getElem?_append_right (by rw [hl]; omega), hl, show (i + 1) * 3 + j - 3 = i * 3 + j by omega, this]
abbrev X8 : List (Int × Int × Int) := [(0, 1, 1), (257, 1, 1), (3, 4, 1), (3, 0, 1), (256, 256, 1), (3, 1, 0), (3, 1, 1001), (-1, -1, -1)]
theorem x8_no : ∀ x ∈ X8, ¬ FirstOk x.1 x.2.1 x.2.2 := by decide
/-- the places that are none of five nodes -/
def P8 (z : Nat) : List Pc := [zPc, ⟨1, none, 0, 0, []⟩, ⟨0, some ⟨z, 0, none⟩, 1, 1, [0]⟩, ⟨1099511627777, some ⟨z + 1, 0, none⟩, 1, 1, [0]⟩, ⟨1, some ⟨z + 2, 0, none⟩, 2, 2, [0, 0]⟩, ⟨1, some ⟨z + 3, 0, none⟩, 1, 1, [5]⟩, ⟨1, some ⟨z + 4, 0, none⟩, 1, 1, [-1]⟩, ⟨1, some ⟨z + 5, 0, none⟩, 256, 256, List.replicate 256 0⟩]
theorem p8_no (z : Nat) : ∀ p ∈ P8 z, rightB 5 p.pl = false := by
  intro p hp
  simp [P8] at hp
  rcases hp with rfl | rfl | rfl | rfl | rfl | rfl | rfl | rfl <;> (unfold rightB; rw [decide_eq_false_iff_not]; unfold RightP; simp [Pc.pl, zPc, NodesOk])
def p8W (w : World) : World :=
  (((((((w.alloc (.cells ([0].map IV).toArray 3)).alloc (.cells ([0].map IV).toArray 3)).alloc (.cells ([0, 0].map IV).toArray 3)).alloc (.cells ([5].map IV).toArray 3)).alloc (.cells ([-1].map IV).toArray 3)).alloc (.cells (zr 256).toArray 3)).alloc (.cells (pcs (P8 w.heap.size)).toArray 30))
theorem p8_is (w : World) : Below w.heap.size w (p8W w) ∧ PL (p8W w) (some ⟨w.heap.size + 6, 0, none⟩) 8 (P8 w.heap.size) := by
  unfold p8W
  have step : ∀ (u : World) (l : List Int), ∃ v, u.alloc (.cells (l.map IV).toArray 3) = v ∧ v.heap.size = u.heap.size + 1 ∧ Below u.heap.size u v ∧ RdV v (some ⟨u.heap.size, 0, none⟩) l.length (l.map IV) := fun u l => ⟨_, rfl, by simp, (Below.refl _ _).alloc (Nat.le_refl _) _, ints_new u l⟩
  obtain ⟨w1, h1, z1, b1, r1⟩ := step w [0]
  rw [h1]
  obtain ⟨w2, h2, z2, b2, r2⟩ := step w1 [0]
  rw [h2]
  obtain ⟨w3, h3, z3, b3, r3⟩ := step w2 [0, 0]
  rw [h3]
  obtain ⟨w4, h4, z4, b4, r4⟩ := step w3 [5]
  rw [h4]
  obtain ⟨w5, h5, z5, b5, r5⟩ := step w4 [-1]
  rw [h5]
  obtain ⟨w6, h6, z6, b6, r6⟩ := step w5 (List.replicate 256 0)
  rw [show (zr 256).toArray = ((List.replicate 256 (0 : Int)).map IV).toArray from rfl, h6]
  obtain ⟨w7, h7⟩ : ∃ v, w6.alloc (.cells (pcs (P8 w.heap.size)).toArray 30) = v := ⟨_, rfl⟩
  rw [h7]
  obtain ⟨b7, x7⟩ := box_new h7
  have c6 := b6.trans (b7.mono b6.size)
  have c5 := b5.trans (c6.mono b5.size)
  have c4 := b4.trans (c5.mono b4.size)
  have c3 := b3.trans (c4.mono b3.size)
  have c2 := b2.trans (c3.mono b2.size)
  have c1 := b1.trans (c2.mono b1.size)
  rw [z1] at r2 z2
  rw [z2] at r3 z3
  rw [z3] at r4 z4
  rw [z4] at r5 z5
  rw [z5] at r6 z6
  rw [z6] at x7
  refine ⟨c1, PL.lit x7 ?_⟩
  have k1 := r1.below c2 (Nat.le_refl _)
  have k2 := r2.below c3 (Nat.le_refl _)
  have k3 := r3.below c4 (Nat.le_refl _)
  have k4 := r4.below c5 (Nat.le_refl _)
  have k5 := r5.below c6 (Nat.le_refl _)
  have k6 := r6.below b7 (Nat.le_refl _)
  rw [List.length_replicate] at k6
  intro p hp
  simp [P8] at hp
  rcases hp with rfl | rfl | rfl | rfl | rfl | rfl | rfl | rfl
  · exact ⟨RdV.nil _ _, by simp [zPc]⟩
  · exact ⟨RdV.nil _ _, by simp⟩
  · exact ⟨k1, by simp⟩
  · exact ⟨k2, by simp⟩
  · exact ⟨k3, by simp⟩
  · exact ⟨k4, by simp⟩
  · exact ⟨k5, by simp⟩
  · exact ⟨k6, by simp⟩
abbrev one : Pl := ⟨1099511627776, [7, 3]⟩
theorem mA : moveP [] 1 2 = ([], [], 2) := by kernel_rfl
theorem mB : moveP [zPc.pl] 1 2 = ([], [], 2) := by kernel_rfl
theorem mC : moveP [one] 7 2 = ([], [], 100) := by kernel_rfl
theorem mD : moveP [one] 9 2 = ([one], [], 0) := by kernel_rfl
theorem mE : moveP [one] 9 9 = ([], [], 100) := by kernel_rfl
theorem mF : moveP [one] (-1) 2 = ([], [], 100) := by kernel_rfl
theorem mG : moveP [one] 9 256 = ([], [], 100) := by kernel_rfl
theorem bN : bytesP [] = ([], 100) := by kernel_rfl
theorem rN : readP [] = ([], 100) := by kernel_rfl
theorem oN : ofP [] 1 = (⟨0, []⟩, false) := by kernel_rfl
theorem oG (L : List Pl) : ofP L (-1) = (⟨0, []⟩, false) := by unfold ofP; rw [if_pos (.inr (by omega))]
theorem i4 : idxP 4 [7, 3] = -1 := by kernel_rfl
theorem r8 : rightB 8 one = true := by kernel_rfl
theorem r7 : rightB 7 one = false := by kernel_rfl
theorem r257 : rightB 257 one = false := by kernel_rfl
theorem r0 : rightB 0 one = false := by kernel_rfl
theorem pl_zero {w : World} {A : Option Addr} {n : Nat} {ps : List Pc} (h : PL w A n ps) (he : ps.map Pc.pl = []) : n = 0 := by
  have h1 := h.len
  have h2 := congrArg List.length he
  rw [List.length_map] at h2
  rw [← h1, h2]
  rfl
section
variable (w : World)
set_option maxHeartbeats 8000000 in
theorem numbers_law : Calls Try.prog 3 #[] w (Told w true) := by
  obtain ⟨w1, hw1⟩ : ∃ v, w.alloc (.cells (X8.flatMap tr3).toArray 22) = v := ⟨_, rfl⟩
  obtain ⟨hb1, hx1⟩ := box_new hw1
  have HW := Lib.hid hw1
  obtain ⟨z, hz⟩ : ∃ z, w.heap.size = z := ⟨_, rfl⟩
  rw [hz] at hx1
  have HE := Lib.hid (And.intro hb1 hx1)
  have hz' := Lib.hid hz
  clear hb1 hx1 hw1 hz
  go_enter Try.func3, Try.ntmps3
  go_wp2
  change Code.wp Try.prog _ _ _ (w.alloc (.cells (X8.flatMap tr3).toArray 22))
  rw [HW.out]
  (try rw [hz'.out])
  go_loopw [1, 2, 3, 4, 49] (fun _ _ _ _ s49 wr => ∃ i : Nat, i ≤ 8 ∧ s49 = .int .i64 i ∧ Hid (Below w.heap.size w wr ∧ wr.heap[z]? = some (.cells (X8.flatMap tr3).toArray 22 (0, 0)))) (fun _ _ _ _ s49 _ => 8 - (Go.RowKit.intOf s49).toNat)
  case atStart => exact ⟨0, by omega, rfl, HE⟩
  case round =>
    clear HE HW
    obtain ⟨i, hi, rfl, HR⟩ := hrel
    by_cases hlt : i < 8
    · obtain ⟨x, hx⟩ : ∃ x, X8[i]? = some x := ⟨_, List.getElem?_eq_getElem (by simpa using hlt)⟩
      have hno := Lib.hid (x8_no x (mem_at hx))
      have c0 : wr.cell? ⟨z, i * 3, none⟩ = some (.int .i64 x.1) := by
        rw [cell_of_row wr z _ _ 22 (0, 0) HR.out.2, List.getElem?_toArray]
        exact tr3_get (j := 0) hx rfl
      have c1 : wr.cell? ⟨z, i * 3 + 1, none⟩ = some (.int .i64 x.2.1) := by
        rw [cell_of_row wr z _ _ 22 (0, 0) HR.out.2, List.getElem?_toArray]
        exact tr3_get (j := 1) hx rfl
      have c2 : wr.cell? ⟨z, i * 3 + 2, none⟩ = some (.int .i64 x.2.2) := by
        rw [cell_of_row wr z _ _ 22 (0, 0) HR.out.2, List.getElem?_toArray]
        exact tr3_get (j := 2) hx rfl
      obtain ⟨xa, xb, xc⟩ := x
      simp only at c0 c1 c2
      have hi1 : (0 : Int) ≤ (i : Int) := by omega
      have hi2 : (i : Int) < 8 := by omega
      have hw1 : IntKind.i64.wrap ((i : Int) + 1) = (i : Int) + 1 := IntWalk.i64_in _ (by omega)
      have HX := Lib.hid hlt
      clear hx hlt
      go_wp2_with fail
      refine (first_no _ xa xb xc hno.out).mono ?_
      rintro e w2 ⟨A2, n2, ps2, rfl, hpo, hq, _, hb2⟩
      have hn0 := pl_zero hpo.pl hq
      subst hn0
      have hBa : Below wr.heap.size wr w2 := ((Below.refl _ _).alloc (Nat.le_refl _) _ : Below wr.heap.size wr _).trans (hb2.mono (by simp))
      have HB := Lib.hid (And.intro (HR.out.1.trans (hBa.mono HR.out.1.size)) ((hBa.block _ (lt_of_block HR.out.2)).trans HR.out.2))
      clear hpo hq hb2 hBa c0 c1 c2
      go_wp2
      go_roundw
      case rel => exact ⟨i + 1, by have := HX.out; omega, by go_num, HB⟩
      case measure => have := HX.out; simp [Go.RowKit.intOf]; omega
    · obtain rfl : i = 8 := by omega
      have HF := Lib.hid HR.out.1
      clear HR hlt
      go_wp2_with fail
      refine (first_yes _ 256 255 1000 (by omega) (by omega) (by omega)).mono ?_
      rintro e w1 ⟨A1, n1, ps1, rfl, hpo, hpl, _, hb1⟩
      have hn1 := hpo.n_eq hpl
      rw [show (firstL 256 255 1000).length = 1000 by simp [firstL]] at hn1
      subst hn1
      obtain ⟨hb2, hP8⟩ := p8_is w1
      have H1 := Lib.hid (And.intro (HF.out.trans (hb1.mono HF.out.size)) (And.intro hpo.pl (And.intro hpl (And.intro hb2 hP8))))
      have mk : ∀ W : World, (Instr.makeSlice 28 (.int .i64 256) (.int .i64 256)).run Try.prog W = .ok (.slice (some ⟨W.heap.size, 0, none⟩) 256 256) (W.alloc (.cells (zr 256).toArray 3)) := fun W => make28 256 (by omega) W
      clear HF hpo hpl hb1 hb2 hP8
      go_wp2
      change Code.wp Try.prog _ _ _ (p8W w1)
      simp only [Nat.add_assoc, Nat.reduceAdd]
      generalize p8W w1 = w2 at *
      clear mk
      obtain ⟨z8, hz8⟩ : ∃ v, w1.heap.size + 6 = v := ⟨_, rfl⟩
      rw [hz8] at H1 ⊢
      clear hz8
      go_loopw [7, 8, 94] (fun _ _ s94 wr => ∃ i : Nat, i ≤ 8 ∧ s94 = .int .i64 i ∧ Hid (Below w2.heap.size w2 wr)) (fun _ _ s94 _ => 8 - (Go.RowKit.intOf s94).toNat)
      case atStart => exact ⟨0, by omega, rfl, (Below.refl _ _ : Below w2.heap.size w2 w2)⟩
      case round =>
        obtain ⟨i, hi, rfl, HB⟩ := hrel
        have hPr := H1.out.2.2.2.2.below HB.out (Nat.le_refl _)
        by_cases hlt : i < 8
        · obtain ⟨p, hp⟩ : ∃ p, (P8 w1.heap.size)[i]? = some p := ⟨_, List.getElem?_eq_getElem (by rw [hPr.len]; exact hlt)⟩
          have hno := Lib.hid (p8_no _ p (mem_at hp))
          obtain ⟨ad, hok, e9, hadl, hload, d0, d1⟩ := hPr.get' hp
          injection e9 with e9
          subst e9
          have hi1 : (0 : Int) ≤ (i : Int) := by omega
          have hi2 : (i : Int) < 8 := by omega
          have hw1 : IntKind.i64.wrap ((i : Int) + 1) = (i : Int) + 1 := IntWalk.i64_in _ (by omega)
          have HX := Lib.hid (And.intro hlt hok)
          rw [addr_at, Nat.zero_add] at d0 hload
          simp only [addr_at, Nat.zero_add] at d1
          clear hp hlt hok hadl hPr
          go_wp2_with fail
          refine (right_is _ 5 p.e (HX.out.2.rd.alloc _) HX.out.2.small hno.out).mono ?_
          rintro e w3 ⟨rfl, hb3⟩
          have HB3 := Lib.hid (HB.out.trans ((((Below.refl _ _).alloc (Nat.le_refl _) _ : Below _ _ _).trans (hb3.mono (by simp))).mono HB.out.size))
          clear hb3 d0 d1 hload
          go_wp2
          go_roundw
          case rel => exact ⟨i + 1, by have := HX.out.1; omega, by go_num, HB3⟩
          case measure => have := HX.out.1; simp [Go.RowKit.intOf]; omega
        · obtain rfl : i = 8 := by omega
          have hB2 := H1.out.1.trans (H1.out.2.2.2.1.mono H1.out.1.size)
          have HF := Lib.hid (And.intro (H1.out.2.1.below (H1.out.2.2.2.1.trans (HB.out.mono H1.out.2.2.2.1.size)) (Nat.le_refl _)) (And.intro H1.out.2.2.1 (hB2.trans (HB.out.mono hB2.size))))
          clear H1 HB hlt hPr hB2
          obtain ⟨w3, hw3⟩ : ∃ v, wr.alloc (.cells #[.int .i64 7, .int .i64 3] 3) = v := ⟨_, rfl⟩
          obtain ⟨hb3, _⟩ := box_new hw3
          obtain ⟨z9, hz9⟩ : ∃ v, wr.heap.size = v := ⟨_, rfl⟩
          have hr3 : RdV w3 (some ⟨z9, 0, none⟩) 2 ([7, 3].map IV) := by rw [← hw3, ← hz9]; exact ints_new wr [7, 3]
          obtain ⟨w4, hw4⟩ : ∃ v, w3.alloc (.cells #[.int .i64 1099511627776, .slice (some ⟨z9, 0, none⟩) 2 2] 30) = v := ⟨_, rfl⟩
          obtain ⟨hb4, hx4⟩ := box_new hw4
          obtain ⟨b9, hb9⟩ : ∃ v, w3.heap.size = v := ⟨_, rfl⟩
          rw [hb9] at hx4
          obtain rfl : b9 = z9 + 1 := by rw [← hb9, ← hw3, ← hz9]; simp
          have hb34 : Below wr.heap.size wr w4 := hb3.trans (hb4.mono hb3.size)
          have H0 := Lib.hid (And.intro (HF.out.1.below hb34 (Nat.le_refl _)) (And.intro HF.out.2.1 (And.intro (HF.out.2.2.trans (hb34.mono HF.out.2.2.size)) (And.intro (hr3.below hb4 (Nat.le_refl _)) hx4))))
          have HW := Lib.hid (And.intro hw3 (And.intro hz9 (And.intro hw4 hb9)))
          clear HF hw3 hb3 hz9 hr3 hw4 hb4 hx4 hb9 hb34
          go_wp2_with fail
          rw [HW.out.1, HW.out.2.1, HW.out.2.2.1]
          (try rw [HW.out.2.2.2])
          refine (move_is w4 (PL.nil _ none) (by simp) 1 2).mono ?_
          rintro e u10 ⟨A10, n10, qs10, G10, m10, mc10, rfl, hpo, hq, _, hG, _, hbu⟩
          have hmv : moveP (List.map Pc.pl []) 1 2 = _ := mA
          rw [hmv] at hq hG ⊢
          simp only at hq hG ⊢
          clear HW
          have hm0 : m10 = 0 := by have := hG.len; simpa using this.symm
          subst hm0
          have hn0 := pl_zero hpo.pl hq
          subst hn0
          clear hpo hq hG hmv
          have H1 := Lib.hid (And.intro (H0.out.1.below hbu (Nat.le_refl _)) (And.intro H0.out.2.1 (And.intro (H0.out.2.2.1.trans (hbu.mono H0.out.2.2.1.size)) (And.intro (H0.out.2.2.2.1.below hbu (Nat.le_refl _)) ((hbu.block _ (lt_of_block H0.out.2.2.2.2)).trans H0.out.2.2.2.2)))))
          clear H0
          clear hbu
          obtain ⟨v11, hv⟩ : ∃ v, u10.alloc (.cells #[.int .i64 0, .slice none 0 0] 30) = v := ⟨_, rfl⟩
          obtain ⟨hbv, hxv⟩ := box_new hv
          obtain ⟨y11, hy11⟩ : ∃ v, u10.heap.size = v := ⟨_, rfl⟩
          rw [hy11] at hxv
          have H2 := Lib.hid (And.intro (H1.out.1.below hbv (Nat.le_refl _)) (And.intro H1.out.2.1 (And.intro (H1.out.2.2.1.trans (hbv.mono H1.out.2.2.1.size)) (And.intro (H1.out.2.2.2.1.below hbv (Nat.le_refl _)) ((hbv.block _ (lt_of_block H1.out.2.2.2.2)).trans H1.out.2.2.2.2)))))
          clear H1
          have HV := Lib.hid (And.intro hv hy11)
          have HVX := Lib.hid hxv
          clear hv hbv hxv hy11
          go_wp2_with fail
          rw [HV.out.1]
          (try rw [HV.out.2])
          refine (move_is v11 (PL.lit (ps := [zPc]) HVX.out (fun p hp => by simp at hp; subst hp; exact ⟨RdV.nil _ _, by simp [zPc]⟩)) (by simp) 1 2).mono ?_
          rintro e u12 ⟨A12, n12, qs12, G12, m12, mc12, rfl, hpo, hq, _, hG, _, hbu⟩
          have hmv : moveP (List.map Pc.pl [zPc]) 1 2 = _ := mB
          rw [hmv] at hq hG ⊢
          simp only at hq hG ⊢
          clear HV HVX
          have hm0 : m12 = 0 := by have := hG.len; simpa using this.symm
          subst hm0
          have hn0 := pl_zero hpo.pl hq
          subst hn0
          clear hpo hq hG hmv
          have H3 := Lib.hid (And.intro (H2.out.1.below hbu (Nat.le_refl _)) (And.intro H2.out.2.1 (And.intro (H2.out.2.2.1.trans (hbu.mono H2.out.2.2.1.size)) (And.intro (H2.out.2.2.2.1.below hbu (Nat.le_refl _)) ((hbu.block _ (lt_of_block H2.out.2.2.2.2)).trans H2.out.2.2.2.2)))))
          clear H2
          clear hbu
          obtain ⟨⟨c0, c1⟩, _⟩ := two30 H3.out.2.2.2.2
          obtain ⟨v13, hv⟩ : ∃ v, u12.alloc (.cells #[.int .i64 1099511627776, .slice (some ⟨z9, 0, none⟩) 2 2] 30) = v := ⟨_, rfl⟩
          obtain ⟨hbv, hxv⟩ := box_new hv
          obtain ⟨y13, hy13⟩ : ∃ v, u12.heap.size = v := ⟨_, rfl⟩
          rw [hy13] at hxv
          have H4 := Lib.hid (And.intro (H3.out.1.below hbv (Nat.le_refl _)) (And.intro H3.out.2.1 (And.intro (H3.out.2.2.1.trans (hbv.mono H3.out.2.2.1.size)) (And.intro (H3.out.2.2.2.1.below hbv (Nat.le_refl _)) ((hbv.block _ (lt_of_block H3.out.2.2.2.2)).trans H3.out.2.2.2.2)))))
          clear H3
          have HV := Lib.hid (And.intro hv hy13)
          have HVX := Lib.hid hxv
          clear hv hbv hxv hy13
          go_wp2_with fail
          rw [HV.out.1]
          (try rw [HV.out.2])
          refine (move_is v13 (PL.lit (ps := [⟨1099511627776, some ⟨z9, 0, none⟩, 2, 2, [7, 3]⟩]) HVX.out (fun p hp => by simp at hp; subst hp; exact ⟨H4.out.2.2.2.1, by simp⟩)) (by simp) 7 2).mono ?_
          rintro e u14 ⟨A14, n14, qs14, G14, m14, mc14, rfl, hpo, hq, _, hG, _, hbu⟩
          have hmv : moveP (List.map Pc.pl [⟨1099511627776, some ⟨z9, 0, none⟩, 2, 2, [7, 3]⟩]) 7 2 = _ := mC
          rw [hmv] at hq hG ⊢
          simp only at hq hG ⊢
          clear HV HVX
          clear c0 c1
          have hm0 : m14 = 0 := by have := hG.len; simpa using this.symm
          subst hm0
          have hn0 := pl_zero hpo.pl hq
          subst hn0
          clear hpo hq hG hmv
          have H5 := Lib.hid (And.intro (H4.out.1.below hbu (Nat.le_refl _)) (And.intro H4.out.2.1 (And.intro (H4.out.2.2.1.trans (hbu.mono H4.out.2.2.1.size)) (And.intro (H4.out.2.2.2.1.below hbu (Nat.le_refl _)) ((hbu.block _ (lt_of_block H4.out.2.2.2.2)).trans H4.out.2.2.2.2)))))
          clear H4
          clear hbu
          obtain ⟨⟨c0, c1⟩, _⟩ := two30 H5.out.2.2.2.2
          obtain ⟨v15, hv⟩ : ∃ v, u14.alloc (.cells #[.int .i64 1099511627776, .slice (some ⟨z9, 0, none⟩) 2 2] 30) = v := ⟨_, rfl⟩
          obtain ⟨hbv, hxv⟩ := box_new hv
          obtain ⟨y15, hy15⟩ : ∃ v, u14.heap.size = v := ⟨_, rfl⟩
          rw [hy15] at hxv
          have H6 := Lib.hid (And.intro (H5.out.1.below hbv (Nat.le_refl _)) (And.intro H5.out.2.1 (And.intro (H5.out.2.2.1.trans (hbv.mono H5.out.2.2.1.size)) (And.intro (H5.out.2.2.2.1.below hbv (Nat.le_refl _)) ((hbv.block _ (lt_of_block H5.out.2.2.2.2)).trans H5.out.2.2.2.2)))))
          clear H5
          have HV := Lib.hid (And.intro hv hy15)
          have HVX := Lib.hid hxv
          clear hv hbv hxv hy15
          go_wp2_with fail
          rw [HV.out.1]
          (try rw [HV.out.2])
          refine (move_is v15 (PL.lit (ps := [⟨1099511627776, some ⟨z9, 0, none⟩, 2, 2, [7, 3]⟩]) HVX.out (fun p hp => by simp at hp; subst hp; exact ⟨H6.out.2.2.2.1, by simp⟩)) (by simp) 9 2).mono ?_
          rintro e u16 ⟨A16, n16, qs16, G16, m16, mc16, rfl, hpo, hq, _, hG, _, hbu⟩
          have hmv : moveP (List.map Pc.pl [⟨1099511627776, some ⟨z9, 0, none⟩, 2, 2, [7, 3]⟩]) 9 2 = _ := mD
          rw [hmv] at hq hG ⊢
          simp only at hq hG ⊢
          clear HV HVX
          clear c0 c1
          have hm0 : m16 = 0 := by have := hG.len; simpa using this.symm
          subst hm0
          have hn0 : n16 = 1 := by have h1 := hpo.len; have h2 := congrArg List.length hq; rw [List.length_map] at h2; rw [← h1, h2]; rfl
          subst hn0
          have HS6 := Lib.hid (And.intro (show ∀ V, Below u16.heap.size u16 V → PL V A16 1 qs16 from fun V hV => hpo.pl.below hV (Nat.le_refl _)) hq)
          clear hpo hq hG hmv
          have H7 := Lib.hid (And.intro (H6.out.1.below hbu (Nat.le_refl _)) (And.intro H6.out.2.1 (And.intro (H6.out.2.2.1.trans (hbu.mono H6.out.2.2.1.size)) (And.intro (H6.out.2.2.2.1.below hbu (Nat.le_refl _)) ((hbu.block _ (lt_of_block H6.out.2.2.2.2)).trans H6.out.2.2.2.2)))))
          clear H6
          have HS7 := Lib.hid (And.intro (HS6.out.1 _ (Below.refl _ _)) HS6.out.2)
          clear HS6
          clear hbu
          obtain ⟨⟨c0, c1⟩, _⟩ := two30 H7.out.2.2.2.2
          obtain ⟨v17, hv⟩ : ∃ v, u16.alloc (.cells #[.int .i64 1099511627776, .slice (some ⟨z9, 0, none⟩) 2 2] 30) = v := ⟨_, rfl⟩
          obtain ⟨hbv, hxv⟩ := box_new hv
          obtain ⟨y17, hy17⟩ : ∃ v, u16.heap.size = v := ⟨_, rfl⟩
          rw [hy17] at hxv
          have H8 := Lib.hid (And.intro (H7.out.1.below hbv (Nat.le_refl _)) (And.intro H7.out.2.1 (And.intro (H7.out.2.2.1.trans (hbv.mono H7.out.2.2.1.size)) (And.intro (H7.out.2.2.2.1.below hbv (Nat.le_refl _)) ((hbv.block _ (lt_of_block H7.out.2.2.2.2)).trans H7.out.2.2.2.2)))))
          have HS8 := Lib.hid (And.intro (HS7.out.1.below hbv (Nat.le_refl _)) HS7.out.2)
          clear HS7
          clear H7
          have HV := Lib.hid (And.intro hv hy17)
          have HVX := Lib.hid hxv
          clear hv hbv hxv hy17
          go_wp2_with fail
          rw [HV.out.1]
          (try rw [HV.out.2])
          refine (move_is v17 (PL.lit (ps := [⟨1099511627776, some ⟨z9, 0, none⟩, 2, 2, [7, 3]⟩]) HVX.out (fun p hp => by simp at hp; subst hp; exact ⟨H8.out.2.2.2.1, by simp⟩)) (by simp) 9 9).mono ?_
          rintro e u18 ⟨A18, n18, qs18, G18, m18, mc18, rfl, hpo, hq, _, hG, _, hbu⟩
          have hmv : moveP (List.map Pc.pl [⟨1099511627776, some ⟨z9, 0, none⟩, 2, 2, [7, 3]⟩]) 9 9 = _ := mE
          rw [hmv] at hq hG ⊢
          simp only at hq hG ⊢
          clear HV HVX
          clear c0 c1
          have hm0 : m18 = 0 := by have := hG.len; simpa using this.symm
          subst hm0
          have hn0 := pl_zero hpo.pl hq
          subst hn0
          clear hpo hq hG hmv
          have H9 := Lib.hid (And.intro (H8.out.1.below hbu (Nat.le_refl _)) (And.intro H8.out.2.1 (And.intro (H8.out.2.2.1.trans (hbu.mono H8.out.2.2.1.size)) (And.intro (H8.out.2.2.2.1.below hbu (Nat.le_refl _)) ((hbu.block _ (lt_of_block H8.out.2.2.2.2)).trans H8.out.2.2.2.2)))))
          have HS9 := Lib.hid (And.intro (HS8.out.1.below hbu (Nat.le_refl _)) HS8.out.2)
          clear HS8
          clear H8
          clear hbu
          obtain ⟨⟨c0, c1⟩, _⟩ := two30 H9.out.2.2.2.2
          obtain ⟨v19, hv⟩ : ∃ v, u18.alloc (.cells #[.int .i64 1099511627776, .slice (some ⟨z9, 0, none⟩) 2 2] 30) = v := ⟨_, rfl⟩
          obtain ⟨hbv, hxv⟩ := box_new hv
          obtain ⟨y19, hy19⟩ : ∃ v, u18.heap.size = v := ⟨_, rfl⟩
          rw [hy19] at hxv
          have H10 := Lib.hid (And.intro (H9.out.1.below hbv (Nat.le_refl _)) (And.intro H9.out.2.1 (And.intro (H9.out.2.2.1.trans (hbv.mono H9.out.2.2.1.size)) (And.intro (H9.out.2.2.2.1.below hbv (Nat.le_refl _)) ((hbv.block _ (lt_of_block H9.out.2.2.2.2)).trans H9.out.2.2.2.2)))))
          have HS10 := Lib.hid (And.intro (HS9.out.1.below hbv (Nat.le_refl _)) HS9.out.2)
          clear HS9
          clear H9
          have HV := Lib.hid (And.intro hv hy19)
          have HVX := Lib.hid hxv
          clear hv hbv hxv hy19
          go_wp2_with fail
          rw [HV.out.1]
          (try rw [HV.out.2])
          refine (move_is v19 (PL.lit (ps := [⟨1099511627776, some ⟨z9, 0, none⟩, 2, 2, [7, 3]⟩]) HVX.out (fun p hp => by simp at hp; subst hp; exact ⟨H10.out.2.2.2.1, by simp⟩)) (by simp) (-1) 2).mono ?_
          rintro e u20 ⟨A20, n20, qs20, G20, m20, mc20, rfl, hpo, hq, _, hG, _, hbu⟩
          have hmv : moveP (List.map Pc.pl [⟨1099511627776, some ⟨z9, 0, none⟩, 2, 2, [7, 3]⟩]) (-1) 2 = _ := mF
          rw [hmv] at hq hG ⊢
          simp only at hq hG ⊢
          clear HV HVX
          clear c0 c1
          have hm0 : m20 = 0 := by have := hG.len; simpa using this.symm
          subst hm0
          have hn0 := pl_zero hpo.pl hq
          subst hn0
          clear hpo hq hG hmv
          have H11 := Lib.hid (And.intro (H10.out.1.below hbu (Nat.le_refl _)) (And.intro H10.out.2.1 (And.intro (H10.out.2.2.1.trans (hbu.mono H10.out.2.2.1.size)) (And.intro (H10.out.2.2.2.1.below hbu (Nat.le_refl _)) ((hbu.block _ (lt_of_block H10.out.2.2.2.2)).trans H10.out.2.2.2.2)))))
          have HS11 := Lib.hid (And.intro (HS10.out.1.below hbu (Nat.le_refl _)) HS10.out.2)
          clear HS10
          clear H10
          clear hbu
          obtain ⟨⟨c0, c1⟩, _⟩ := two30 H11.out.2.2.2.2
          obtain ⟨v21, hv⟩ : ∃ v, u20.alloc (.cells #[.int .i64 1099511627776, .slice (some ⟨z9, 0, none⟩) 2 2] 30) = v := ⟨_, rfl⟩
          obtain ⟨hbv, hxv⟩ := box_new hv
          obtain ⟨y21, hy21⟩ : ∃ v, u20.heap.size = v := ⟨_, rfl⟩
          rw [hy21] at hxv
          have H12 := Lib.hid (And.intro (H11.out.1.below hbv (Nat.le_refl _)) (And.intro H11.out.2.1 (And.intro (H11.out.2.2.1.trans (hbv.mono H11.out.2.2.1.size)) (And.intro (H11.out.2.2.2.1.below hbv (Nat.le_refl _)) ((hbv.block _ (lt_of_block H11.out.2.2.2.2)).trans H11.out.2.2.2.2)))))
          have HS12 := Lib.hid (And.intro (HS11.out.1.below hbv (Nat.le_refl _)) HS11.out.2)
          clear HS11
          clear H11
          have HV := Lib.hid (And.intro hv hy21)
          have HVX := Lib.hid hxv
          clear hv hbv hxv hy21
          go_wp2_with fail
          rw [HV.out.1]
          (try rw [HV.out.2])
          refine (move_is v21 (PL.lit (ps := [⟨1099511627776, some ⟨z9, 0, none⟩, 2, 2, [7, 3]⟩]) HVX.out (fun p hp => by simp at hp; subst hp; exact ⟨H12.out.2.2.2.1, by simp⟩)) (by simp) 9 256).mono ?_
          rintro e u22 ⟨A22, n22, qs22, G22, m22, mc22, rfl, hpo, hq, _, hG, _, hbu⟩
          have hmv : moveP (List.map Pc.pl [⟨1099511627776, some ⟨z9, 0, none⟩, 2, 2, [7, 3]⟩]) 9 256 = _ := mG
          rw [hmv] at hq hG ⊢
          simp only at hq hG ⊢
          clear HV HVX
          clear c0 c1
          have hm0 : m22 = 0 := by have := hG.len; simpa using this.symm
          subst hm0
          have hn0 := pl_zero hpo.pl hq
          subst hn0
          clear hpo hq hG hmv
          have H13 := Lib.hid (And.intro (H12.out.1.below hbu (Nat.le_refl _)) (And.intro H12.out.2.1 (And.intro (H12.out.2.2.1.trans (hbu.mono H12.out.2.2.1.size)) (And.intro (H12.out.2.2.2.1.below hbu (Nat.le_refl _)) ((hbu.block _ (lt_of_block H12.out.2.2.2.2)).trans H12.out.2.2.2.2)))))
          have HS13 := Lib.hid (And.intro (HS12.out.1.below hbu (Nat.le_refl _)) HS12.out.2)
          clear HS12
          clear H12
          clear hbu
          go_wp2_with fail
          refine (bytes_is u22 (PL.nil _ none) (by omega)).mono ?_
          rintro e t1 ⟨Ab, cb, rfl, _, _, hbu⟩
          have hbn : bytesP (List.map Pc.pl []) = _ := bN
          rw [hbn]
          simp only [List.length_nil]
          clear hbn
          have H14 := Lib.hid (And.intro (H13.out.1.below hbu (Nat.le_refl _)) (And.intro H13.out.2.1 (And.intro (H13.out.2.2.1.trans (hbu.mono H13.out.2.2.1.size)) (And.intro (H13.out.2.2.2.1.below hbu (Nat.le_refl _)) ((hbu.block _ (lt_of_block H13.out.2.2.2.2)).trans H13.out.2.2.2.2)))))
          have HS14 := Lib.hid (And.intro (HS13.out.1.below hbu (Nat.le_refl _)) HS13.out.2)
          clear HS13
          clear H13
          clear hbu
          go_wp2_with fail
          refine (read_is t1 (Rd.nil _ none) (by omega) (Nat.le_refl _)).mono ?_
          rintro e t2 ⟨Ar, nr, qr, rfl, hpo, hq, _, hbu⟩
          rw [rN] at hq ⊢
          simp only at hq ⊢
          have hn0 := pl_zero hpo.pl hq
          subst hn0
          clear hpo hq
          have H15 := Lib.hid (And.intro (H14.out.1.below hbu (Nat.le_refl _)) (And.intro H14.out.2.1 (And.intro (H14.out.2.2.1.trans (hbu.mono H14.out.2.2.1.size)) (And.intro (H14.out.2.2.2.1.below hbu (Nat.le_refl _)) ((hbu.block _ (lt_of_block H14.out.2.2.2.2)).trans H14.out.2.2.2.2)))))
          have HS15 := Lib.hid (And.intro (HS14.out.1.below hbu (Nat.le_refl _)) HS14.out.2)
          clear HS14
          clear H14
          clear hbu
          go_wp2_with fail
          refine (of_is t2 (PL.nil _ none) (by omega) 1 (by omega)).mono ?_
          rintro e t3 ⟨Xo, co, rfl, _, hbu⟩
          have hbn : ofP (List.map Pc.pl []) 1 = _ := oN
          rw [hbn]
          simp only [List.length_nil]
          clear hbn
          have H16 := Lib.hid (And.intro (H15.out.1.below hbu (Nat.le_refl _)) (And.intro H15.out.2.1 (And.intro (H15.out.2.2.1.trans (hbu.mono H15.out.2.2.1.size)) (And.intro (H15.out.2.2.2.1.below hbu (Nat.le_refl _)) ((hbu.block _ (lt_of_block H15.out.2.2.2.2)).trans H15.out.2.2.2.2)))))
          have HS16 := Lib.hid (And.intro (HS15.out.1.below hbu (Nat.le_refl _)) HS15.out.2)
          clear HS15
          clear H15
          clear hbu
          obtain ⟨v23, hv⟩ : ∃ v, t3.alloc (.cells #[.int .i64 0, .slice Xo 0 co] 30) = v := ⟨_, rfl⟩
          obtain ⟨hbv, hxv⟩ := box_new hv
          obtain ⟨y23, hy23⟩ : ∃ v, t3.heap.size = v := ⟨_, rfl⟩
          rw [hy23] at hxv
          have H17 := Lib.hid (And.intro (H16.out.1.below hbv (Nat.le_refl _)) (And.intro H16.out.2.1 (And.intro (H16.out.2.2.1.trans (hbv.mono H16.out.2.2.1.size)) (And.intro (H16.out.2.2.2.1.below hbv (Nat.le_refl _)) ((hbv.block _ (lt_of_block H16.out.2.2.2.2)).trans H16.out.2.2.2.2)))))
          have HS17 := Lib.hid (And.intro (HS16.out.1.below hbv (Nat.le_refl _)) HS16.out.2)
          clear HS16
          clear H16
          have HV := Lib.hid (And.intro hv hy23)
          have HVX := Lib.hid hxv
          clear hv hbv hxv hy23
          go_wp2_with fail
          rw [HV.out.1]
          (try rw [HV.out.2])
          refine (of_is v23 H17.out.1 (by omega) (-1) (by omega)).mono ?_
          rintro e t4 ⟨Xp, cp, rfl, _, hbu⟩
          rw [oG]
          simp only [List.length_nil]
          clear HV HVX
          have H18 := Lib.hid (And.intro (H17.out.1.below hbu (Nat.le_refl _)) (And.intro H17.out.2.1 (And.intro (H17.out.2.2.1.trans (hbu.mono H17.out.2.2.1.size)) (And.intro (H17.out.2.2.2.1.below hbu (Nat.le_refl _)) ((hbu.block _ (lt_of_block H17.out.2.2.2.2)).trans H17.out.2.2.2.2)))))
          have HS18 := Lib.hid (And.intro (HS17.out.1.below hbu (Nat.le_refl _)) HS17.out.2)
          clear HS17
          clear H17
          clear hbu
          obtain ⟨v24, hv⟩ : ∃ v, t4.alloc (.cells #[.int .i64 0, .slice Xp 0 cp] 30) = v := ⟨_, rfl⟩
          obtain ⟨hbv, hxv⟩ := box_new hv
          obtain ⟨y24, hy24⟩ : ∃ v, t4.heap.size = v := ⟨_, rfl⟩
          rw [hy24] at hxv
          have H19 := Lib.hid (And.intro (H18.out.1.below hbv (Nat.le_refl _)) (And.intro H18.out.2.1 (And.intro (H18.out.2.2.1.trans (hbv.mono H18.out.2.2.1.size)) (And.intro (H18.out.2.2.2.1.below hbv (Nat.le_refl _)) ((hbv.block _ (lt_of_block H18.out.2.2.2.2)).trans H18.out.2.2.2.2)))))
          have HS19 := Lib.hid (And.intro (HS18.out.1.below hbv (Nat.le_refl _)) HS18.out.2)
          clear HS18
          clear H18
          have HV := Lib.hid (And.intro hv hy24)
          have HVX := Lib.hid hxv
          clear hv hbv hxv hy24
          obtain ⟨pg, hpg⟩ : ∃ p, ps1[999]? = some p := ⟨_, List.getElem?_eq_getElem (by rw [H19.out.1.len]; omega)⟩
          have hpgl : pg.pl = ⟨1, row1 256 255 999⟩ := by
            have h1 := congrArg (fun l => l[999]?) H19.out.2.1
            rw [List.getElem?_map, hpg] at h1
            have h2 : (firstL 256 255 1000)[999]? = some ⟨1, row1 256 255 999⟩ := by unfold firstL; rw [List.getElem?_map, List.getElem?_range (by omega)]; rfl
            rw [h2] at h1
            injection h1
          obtain ⟨ag, okg, e9, _, hlg, g0, g1⟩ := H19.out.1.get' hpg
          have hrg : rightB 256 pg.pl = true := by
            rw [hpgl]
            exact decide_eq_true ⟨by omega, by simp, by simp only [row1_len]; omega, row1_ok (nodes := 256) (n := 255) 999 (by omega) (by omega)⟩
          have HGr := Lib.hid (And.intro okg hrg)
          subst e9
          have ea : ag.add (999 * 2) = ⟨ag.block, ag.off + 1998, none⟩ := by unfold Addr.add; simp
          rw [ea] at hlg g0 g1
          simp only at g1
          have g2 := g1
          simp only [Nat.add_assoc, Nat.reduceAdd] at g2
          clear ea
          clear hpg hpgl okg hrg
          have hvv := HV.out.1
          have hyy := HV.out.2
          go_wp2_with fail
          (try rw [HV.out.1])
          (try rw [HV.out.2])
          refine (right_is v24 256 pg.e HGr.out.1.rd HGr.out.1.small HGr.out.2).mono ?_
          rintro e t5 ⟨rfl, hbu⟩
          clear HV HVX HGr hlg g0 g1 g2 hvv hyy
          have H20 := Lib.hid (And.intro (H19.out.1.below hbu (Nat.le_refl _)) (And.intro H19.out.2.1 (And.intro (H19.out.2.2.1.trans (hbu.mono H19.out.2.2.1.size)) (And.intro (H19.out.2.2.2.1.below hbu (Nat.le_refl _)) ((hbu.block _ (lt_of_block H19.out.2.2.2.2)).trans H19.out.2.2.2.2)))))
          have HS20 := Lib.hid (And.intro (HS19.out.1.below hbu (Nat.le_refl _)) HS19.out.2)
          clear HS19
          clear H19
          clear hbu
          obtain ⟨⟨c0, c1⟩, _⟩ := two30 H20.out.2.2.2.2
          go_wp2_with fail
          refine (right_is t5 8 1099511627776 H20.out.2.2.2.1 (by omega) r8).mono ?_
          rintro e r0w ⟨rfl, hbu⟩
          clear c0 c1
          have H21 := Lib.hid (And.intro (H20.out.1.below hbu (Nat.le_refl _)) (And.intro H20.out.2.1 (And.intro (H20.out.2.2.1.trans (hbu.mono H20.out.2.2.1.size)) (And.intro (H20.out.2.2.2.1.below hbu (Nat.le_refl _)) ((hbu.block _ (lt_of_block H20.out.2.2.2.2)).trans H20.out.2.2.2.2)))))
          have HS21 := Lib.hid (And.intro (HS20.out.1.below hbu (Nat.le_refl _)) HS20.out.2)
          clear HS20
          clear H20
          clear hbu
          obtain ⟨⟨c0, c1⟩, _⟩ := two30 H21.out.2.2.2.2
          go_wp2_with fail
          refine (right_is r0w 7 1099511627776 H21.out.2.2.2.1 (by omega) r7).mono ?_
          rintro e r1w ⟨rfl, hbu⟩
          clear c0 c1
          have H22 := Lib.hid (And.intro (H21.out.1.below hbu (Nat.le_refl _)) (And.intro H21.out.2.1 (And.intro (H21.out.2.2.1.trans (hbu.mono H21.out.2.2.1.size)) (And.intro (H21.out.2.2.2.1.below hbu (Nat.le_refl _)) ((hbu.block _ (lt_of_block H21.out.2.2.2.2)).trans H21.out.2.2.2.2)))))
          have HS22 := Lib.hid (And.intro (HS21.out.1.below hbu (Nat.le_refl _)) HS21.out.2)
          clear HS21
          clear H21
          clear hbu
          obtain ⟨⟨c0, c1⟩, _⟩ := two30 H22.out.2.2.2.2
          go_wp2_with fail
          refine (right_is r1w 257 1099511627776 H22.out.2.2.2.1 (by omega) r257).mono ?_
          rintro e r2w ⟨rfl, hbu⟩
          clear c0 c1
          have H23 := Lib.hid (And.intro (H22.out.1.below hbu (Nat.le_refl _)) (And.intro H22.out.2.1 (And.intro (H22.out.2.2.1.trans (hbu.mono H22.out.2.2.1.size)) (And.intro (H22.out.2.2.2.1.below hbu (Nat.le_refl _)) ((hbu.block _ (lt_of_block H22.out.2.2.2.2)).trans H22.out.2.2.2.2)))))
          have HS23 := Lib.hid (And.intro (HS22.out.1.below hbu (Nat.le_refl _)) HS22.out.2)
          clear HS22
          clear H22
          clear hbu
          obtain ⟨⟨c0, c1⟩, _⟩ := two30 H23.out.2.2.2.2
          go_wp2_with fail
          refine (right_is r2w 0 1099511627776 H23.out.2.2.2.1 (by omega) r0).mono ?_
          rintro e r3w ⟨rfl, hbu⟩
          clear c0 c1
          have H24 := Lib.hid (And.intro (H23.out.1.below hbu (Nat.le_refl _)) (And.intro H23.out.2.1 (And.intro (H23.out.2.2.1.trans (hbu.mono H23.out.2.2.1.size)) (And.intro (H23.out.2.2.2.1.below hbu (Nat.le_refl _)) ((hbu.block _ (lt_of_block H23.out.2.2.2.2)).trans H23.out.2.2.2.2)))))
          have HS24 := Lib.hid (And.intro (HS23.out.1.below hbu (Nat.le_refl _)) HS23.out.2)
          clear HS23
          clear H23
          clear hbu
          obtain ⟨q1, hq1⟩ : ∃ v, r3w.alloc (.cells ([1099511627776].map IV).toArray 3) = v := ⟨_, rfl⟩
          obtain ⟨bq1, _⟩ := box_new hq1
          have rq1 := ints_new r3w [1099511627776]
          rw [hq1] at rq1
          obtain ⟨q2, hq2⟩ : ∃ v, q1.alloc (.cells ([7, 3].map IV).toArray 3) = v := ⟨_, rfl⟩
          obtain ⟨bq2, _⟩ := box_new hq2
          have rq2 := ints_new q1 [7, 3]
          rw [hq2] at rq2
          obtain ⟨q3, hq3⟩ : ∃ v, q2.alloc (.cells #[.slice (some ⟨q1.heap.size, 0, none⟩) 2 2] 28) = v := ⟨_, rfl⟩
          obtain ⟨bq3, _⟩ := box_new hq3
          have rq3 : RdV q3 (some ⟨q2.heap.size, 0, none⟩) 1 [.slice (some ⟨q1.heap.size, 0, none⟩) 2 2] := by rw [← hq3]; exact RdV.new q2 [.slice (some ⟨q1.heap.size, 0, none⟩) 2 2] 28 (0, 0)
          have sz1 : q1.heap.size = r3w.heap.size + 1 := by rw [← hq1]; simp
          have sz2 : q2.heap.size = q1.heap.size + 1 := by rw [← hq2]; simp
          have hb13 : Below r3w.heap.size r3w q3 := bq1.trans ((bq2.trans (bq3.mono bq2.size)).mono bq1.size)
          have H25 := Lib.hid (And.intro (H24.out.1.below hb13 (Nat.le_refl _)) (And.intro H24.out.2.1 (And.intro (H24.out.2.2.1.trans (hb13.mono H24.out.2.2.1.size)) (And.intro (H24.out.2.2.2.1.below hb13 (Nat.le_refl _)) ((hb13.block _ (lt_of_block H24.out.2.2.2.2)).trans H24.out.2.2.2.2)))))
          have HS25 := Lib.hid (And.intro (HS24.out.1.below hb13 (Nat.le_refl _)) HS24.out.2)
          clear HS24
          clear H24
          have hC := has_true q3 (ps := qs16) (qs := [⟨0, some ⟨q1.heap.size, 0, none⟩, 2, 2, [7, 3]⟩]) (ca := 1) (ce := 1) (cf := 1) HS25.out.1 (E := some ⟨r3w.heap.size, 0, none⟩) (by
            have e : (qs16.map fun p => IV p.e) = [1099511627776].map IV := by
              have := congrArg (List.map fun p => IV p.e) HS25.out.2
              rwa [List.map_map] at this
            rw [e]
            exact rq1.below (bq2.trans (bq3.mono bq2.size)) (Nat.le_refl _)) rq3 (by
            intro q hq
            simp at hq
            subst hq
            exact ⟨rq2.below bq3 (Nat.le_refl _), by simp⟩) (by
            have := congrArg (List.map fun p => p.l) HS25.out.2
            rw [List.map_map] at this
            exact this.symm) (by omega)
          have HC := Lib.hid hC
          have HWW := Lib.hid (And.intro hq1 (And.intro hq2 (And.intro hq3 (And.intro sz1 sz2))))
          clear hq1 bq1 rq1 hq2 bq2 rq2 hq3 bq3 rq3 sz1 sz2 hb13 hC
          go_wp2_with fail
          change Calls Try.prog 16 _ (((r3w.alloc (.cells ([1099511627776].map IV).toArray 3)).alloc (.cells ([7, 3].map IV).toArray 3)).alloc (.cells #[.slice (some ⟨r3w.heap.size + 1, 0, none⟩) 2 2] 28)) _
          rw [HWW.out.1, HWW.out.2.1, ← HWW.out.2.2.2.1, HWW.out.2.2.1]
          (try rw [← HWW.out.2.2.2.2])
          refine HC.out.mono ?_
          rintro e q4 ⟨rfl, d4, hq4⟩
          have hbu : Below q3.heap.size q3 q4 := by rw [hq4]; exact ⟨rfl, rfl, rfl, Nat.le_refl _, fun _ _ => rfl⟩
          clear HC HWW hq4
          have H26 := Lib.hid (And.intro (H25.out.1.below hbu (Nat.le_refl _)) (And.intro H25.out.2.1 (And.intro (H25.out.2.2.1.trans (hbu.mono H25.out.2.2.1.size)) (And.intro (H25.out.2.2.2.1.below hbu (Nat.le_refl _)) ((hbu.block _ (lt_of_block H25.out.2.2.2.2)).trans H25.out.2.2.2.2)))))
          have HS26 := Lib.hid (And.intro (HS25.out.1.below hbu (Nat.le_refl _)) HS25.out.2)
          clear HS25
          clear H25
          clear hbu
          obtain ⟨⟨c0, c1⟩, _⟩ := two30 H26.out.2.2.2.2
          go_wp2_with fail
          refine (index_is q4 1099511627776 H26.out.2.2.2.1 (by omega) 4 i4).mono ?_
          rintro e q5 ⟨rfl, hbu⟩
          clear c0 c1
          have H27 := Lib.hid (And.intro (H26.out.1.below hbu (Nat.le_refl _)) (And.intro H26.out.2.1 (And.intro (H26.out.2.2.1.trans (hbu.mono H26.out.2.2.1.size)) (And.intro (H26.out.2.2.2.1.below hbu (Nat.le_refl _)) ((hbu.block _ (lt_of_block H26.out.2.2.2.2)).trans H26.out.2.2.2.2)))))
          have HS27 := Lib.hid (And.intro (HS26.out.1.below hbu (Nat.le_refl _)) HS26.out.2)
          clear HS26
          clear H26
          clear hbu
          go_wp2_with fail
          refine (awake_is _).mono ?_
          rintro e q6 ⟨rfl, hbu⟩
          go_wp2
          go_ret
          exact ⟨rfl, H27.out.2.2.1.trans (hbu.mono H27.out.2.2.1.size)⟩
end
end Go.Proofs.Ytbilbfjmfaignaa
