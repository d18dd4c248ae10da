/- Move. -/
import Derived.Test.YtbilbfjmfaignaaPlcJ
namespace Go.Proofs.Ytbilbfjmfaignaa
open Go.RowKit Go.Coop
set_option maxRecDepth 100000
theorem mvgot {B bf bt be bg : Nat} {a b : Int} {ps : List Pc} {k : Nat} {qs : List Pc} {W : World} (h : MvJ B bf bt be bg a b ps k qs W) : ∃ G m mc gr er, MvG B bg be a b ps k qs W G m mc gr er := h.g
/-- what Move tells -/
def Moved (w : World) (r : List Pl × List Int × Int) (e : Ending) (w' : World) : Prop := ∃ A n qs G m mc, e = .returned (.tuple #[.slice A n n, .slice G m mc, .int .i64 r.2.2]) ∧ PO w' w.heap.size A n n qs ∧ qs.map Pc.pl = r.1 ∧ n ≤ 1000 ∧ RdV w' G m (r.2.1.map IV) ∧ m ≤ 1000 ∧ Below w.heap.size w w'
theorem PO.drew' {w : World} {B n c : Nat} {A : Option Addr} {ps : List Pc} (h : PO w B A n c ps) : PO w.drew B A n c ps := h.below (w' := w.drew) (Below.refl w.heap.size w).drew (Nat.le_refl _)
section
variable (w : World)
theorem moved_no {w W : World} (er : Int) (hb : Below w.heap.size w W) : Moved w ([], [], er) (.returned (.tuple #[.slice none 0 0, .slice none 0 0, .int .i64 er])) W := ⟨none, 0, [], none, 0, 0, rfl, PO.nil _ _, rfl, by omega, RdV.nil _ _, by omega, hb⟩
theorem move_arg {A : Option Addr} {n ca : Nat} {ps : List Pc} (h : PL w A n ps) (hn : n ≤ 1000000) (a b : Int) (hA : allB (ps.map Pc.pl) = false) : Calls Try.prog 12 #[.slice A n ca, .int .i64 a, .int .i64 b] w (Moved w ([], [], 2)) := by
  have HA := Lib.hid hA
  clear hA
  obtain ⟨w1, hw1⟩ : ∃ v, w.alloc (.cells #[.int .i64 a] 3) = v := ⟨_, rfl⟩
  obtain ⟨w2, hw2⟩ : ∃ v, w1.alloc (.cells #[.int .i64 b] 3) = v := ⟨_, rfl⟩
  obtain ⟨hb1, hx1⟩ := box_new hw1
  obtain ⟨hb2, hx2⟩ := box_new hw2
  obtain ⟨bf, hbf⟩ : ∃ b, w.heap.size = b := ⟨_, rfl⟩
  obtain ⟨bt, hbt⟩ : ∃ b, w1.heap.size = b := ⟨_, rfl⟩
  rw [hbf] at hx1
  rw [hbt] at hx2
  have x1 : Box w1 bf (.int .i64 a) 3 := hx1
  have x2 : Box w2 bt (.int .i64 b) 3 := hx2
  have x12 := x1.below hb2 (Nat.le_refl _)
  have hB2 : Below w.heap.size w w2 := hb1.trans (hb2.mono hb1.size)
  have HP := Lib.hid (h.below hB2 (Nat.le_refl _))
  have H2 := Lib.hid (And.intro x12 (And.intro x2 (And.intro hB2 (And.intro (show bf < bt by rw [← hbt]; exact x1.lt) hbf))))
  clear x1 x2 x12 hB2 hx1 hx2 hb1 hb2 h
  go_enter Try.func12, Try.ntmps12
  go_wp2_with fail
  (try rw [hw1]); (try rw [hbf]); (try rw [hw2]); (try rw [hbt])
  refine (rightAll_is _ HP.out hn HA.out).mono ?_
  rintro e w3 ⟨rfl, hb3⟩
  have HE : Hid (Below w.heap.size w w3) := H2.out.2.2.1.trans (hb3.mono H2.out.2.2.1.size)
  have y1 := H2.out.1.below hb3 (Nat.le_refl _)
  have y2 := H2.out.2.1.below hb3 (Nat.le_refl _)
  have HY := Lib.hid (And.intro y1 y2)
  have d1 := y1.cell
  have d2 := y2.cell
  clear y1 y2 hb3 hw1 hw2 hbt hbf
  go_wp2
  go_ret3
  exact moved_no _ HE.out
theorem move_may {A : Option Addr} {n ca : Nat} {ps : List Pc} (h : PL w A n ps) (hn : n ≤ 1000000) (a b : Int) (hA : allB (ps.map Pc.pl) = true) (hm : MayNot a b) : Calls Try.prog 12 #[.slice A n ca, .int .i64 a, .int .i64 b] w (Moved w ([], [], 100)) := by
  have HA := Lib.hid hA
  clear hA
  obtain ⟨w1, hw1⟩ : ∃ v, w.alloc (.cells #[.int .i64 a] 3) = v := ⟨_, rfl⟩
  obtain ⟨w2, hw2⟩ : ∃ v, w1.alloc (.cells #[.int .i64 b] 3) = v := ⟨_, rfl⟩
  obtain ⟨hb1, hx1⟩ := box_new hw1
  obtain ⟨hb2, hx2⟩ := box_new hw2
  obtain ⟨bf, hbf⟩ : ∃ b, w.heap.size = b := ⟨_, rfl⟩
  obtain ⟨bt, hbt⟩ : ∃ b, w1.heap.size = b := ⟨_, rfl⟩
  rw [hbf] at hx1
  rw [hbt] at hx2
  have x1 : Box w1 bf (.int .i64 a) 3 := hx1
  have x2 : Box w2 bt (.int .i64 b) 3 := hx2
  have x12 := x1.below hb2 (Nat.le_refl _)
  have hB2 : Below w.heap.size w w2 := hb1.trans (hb2.mono hb1.size)
  have HP := Lib.hid (h.below hB2 (Nat.le_refl _))
  have H2 := Lib.hid (And.intro x12 (And.intro x2 (And.intro hB2 (And.intro (show bf < bt by rw [← hbt]; exact x1.lt) hbf))))
  clear x1 x2 x12 hB2 hx1 hx2 hb1 hb2 h
  go_enter Try.func12, Try.ntmps12
  go_wp2_with fail
  (try rw [hw1]); (try rw [hbf]); (try rw [hw2]); (try rw [hbt])
  refine (rightAll_is _ HP.out hn HA.out).mono ?_
  rintro e w3 ⟨rfl, hb3⟩
  have HE : Hid (Below w.heap.size w w3) := H2.out.2.2.1.trans (hb3.mono H2.out.2.2.1.size)
  have y1 := H2.out.1.below hb3 (Nat.le_refl _)
  have y2 := H2.out.2.1.below hb3 (Nat.le_refl _)
  have HY := Lib.hid (And.intro y1 y2)
  have d1 := y1.cell
  have d2 := y2.cell
  clear y1 y2 hb3 hw1 hw2 hbt hbf
  by_cases c1 : 0 ≤ a ∧ a < 256
  · have C1 := Lib.hid (decide_eq_true c1)
    by_cases c2 : 0 ≤ b ∧ b < 256
    · have C2 := Lib.hid (decide_eq_true c2)
      have hab : (a == b) = true := by
        rw [beq_iff_eq]
        rcases hm with h | h | h
        · exact absurd c1 h
        · exact absurd c2 h
        · exact h
      clear c1 c2 hm
      go_wp2_with fail
      refine (within_q _ a 256 C1.out).mono ?_
      rintro e _ ⟨rfl, rfl⟩
      go_wp2_with fail
      refine (within_q _ b 256 C2.out).mono ?_
      rintro e _ ⟨rfl, rfl⟩
      go_wp2
      go_ret3
      exact moved_no _ HE.out
    · have C2 := Lib.hid (decide_eq_false c2)
      clear c1 c2 hm
      go_wp2_with fail
      refine (within_q _ a 256 C1.out).mono ?_
      rintro e _ ⟨rfl, rfl⟩
      go_wp2_with fail
      refine (within_q _ b 256 C2.out).mono ?_
      rintro e _ ⟨rfl, rfl⟩
      go_wp2
      go_ret3
      exact moved_no _ HE.out
  · have C1 := Lib.hid (decide_eq_false c1)
    clear c1 hm
    go_wp2_with fail
    refine (within_q _ a 256 C1.out).mono ?_
    rintro e _ ⟨rfl, rfl⟩
    go_wp2
    go_ret3
    exact moved_no _ HE.out
set_option maxHeartbeats 2000000 in
theorem move_go {A : Option Addr} {n ca : Nat} {ps : List Pc} (h : PL w A n ps) (hn : n ≤ 1000000) (a b : Int) (hA : allB (ps.map Pc.pl) = true) (hm : ¬ MayNot a b) : Calls Try.prog 12 #[.slice A n ca, .int .i64 a, .int .i64 b] w (Moved w (moveP (ps.map Pc.pl) a b)) := by
  have hmv : Hid (moveP (ps.map Pc.pl) a b = if ∃ p ∈ ps.map Pc.pl, Bad a b p then ([], [], 100) else ((ps.map Pc.pl).map (mv1 a b), grp a (ps.map Pc.pl), 0)) := by
    show moveP _ a b = _
    rw [moveP, if_neg (by simpa using of_decide_eq_true hA), if_neg hm]
  have hall : Hid (AllP (ps.map Pc.pl)) := Lib.hid (of_decide_eq_true hA)
  have hPL := Lib.hid h
  have C1 : Hid (decide (0 ≤ a ∧ a < 256) = true) := decide_eq_true (Decidable.byContradiction fun h => hm (.inl h))
  have C2 : Hid (decide (0 ≤ b ∧ b < 256) = true) := decide_eq_true (Decidable.byContradiction fun h => hm (.inr (.inl h)))
  have hab : (a == b) = false := by simpa using fun h => hm (.inr (.inr h))
  have hz28 : Hid (∀ w, (zeroValue 28).run Try.prog w = .ok (.slice none 0 0) w) := fun w => by kernel_rfl
  clear hm
  have HA := Lib.hid hA
  clear hA
  obtain ⟨w1, hw1⟩ : ∃ v, w.alloc (.cells #[.int .i64 a] 3) = v := ⟨_, rfl⟩
  obtain ⟨w2, hw2⟩ : ∃ v, w1.alloc (.cells #[.int .i64 b] 3) = v := ⟨_, rfl⟩
  obtain ⟨hb1, hx1⟩ := box_new hw1
  obtain ⟨hb2, hx2⟩ := box_new hw2
  obtain ⟨bf, hbf⟩ : ∃ b, w.heap.size = b := ⟨_, rfl⟩
  obtain ⟨bt, hbt⟩ : ∃ b, w1.heap.size = b := ⟨_, rfl⟩
  rw [hbf] at hx1
  rw [hbt] at hx2
  have x1 : Box w1 bf (.int .i64 a) 3 := hx1
  have x2 : Box w2 bt (.int .i64 b) 3 := hx2
  have x12 := x1.below hb2 (Nat.le_refl _)
  have hB2 : Below w.heap.size w w2 := hb1.trans (hb2.mono hb1.size)
  have HP := Lib.hid (h.below hB2 (Nat.le_refl _))
  have H2 := Lib.hid (And.intro x12 (And.intro x2 (And.intro hB2 (And.intro (show bf < bt by rw [← hbt]; exact x1.lt) hbf))))
  clear x1 x2 x12 hB2 hx1 hx2 hb1 hb2 h
  go_enter Try.func12, Try.ntmps12
  go_wp2_with fail
  (try rw [hw1]); (try rw [hbf]); (try rw [hw2]); (try rw [hbt])
  refine (rightAll_is _ HP.out hn HA.out).mono ?_
  rintro e w3 ⟨rfl, hb3⟩
  have HE : Hid (Below w.heap.size w w3) := H2.out.2.2.1.trans (hb3.mono H2.out.2.2.1.size)
  have y1 := H2.out.1.below hb3 (Nat.le_refl _)
  have y2 := H2.out.2.1.below hb3 (Nat.le_refl _)
  have HY := Lib.hid (And.intro y1 y2)
  have d1 := y1.cell
  have d2 := y2.cell
  clear y1 y2 hb3 hw1 hw2 hbt hbf
  go_wp2_with fail
  refine (within_q _ a 256 C1.out).mono ?_
  rintro e _ ⟨rfl, rfl⟩
  go_wp2_with fail
  refine (within_q _ b 256 C2.out).mono ?_
  rintro e _ ⟨rfl, rfl⟩
  obtain ⟨w4, hw4⟩ : ∃ v, w3.alloc (.cells #[.slice none 0 0] 28) = v := ⟨_, rfl⟩
  obtain ⟨w5, hw5⟩ : ∃ v, w4.alloc (.cells #[.int .i64 0] 25) = v := ⟨_, rfl⟩
  obtain ⟨hb4, hx4⟩ := box_new hw4
  obtain ⟨hb5, hx5⟩ := box_new hw5
  obtain ⟨bg, hbg⟩ : ∃ b, w3.heap.size = b := ⟨_, rfl⟩
  obtain ⟨be, hbe⟩ : ∃ b, w4.heap.size = b := ⟨_, rfl⟩
  rw [hbg] at hx4
  rw [hbe] at hx5
  have x4 : Box w4 bg (.slice none 0 0) 28 := hx4
  have x5 : Box w5 be (.int .i64 0) 25 := hx5
  have x45 := x4.below hb5 (Nat.le_refl _)
  have y1 := (HY.out.1.below hb4 (Nat.le_refl _)).below hb5 (Nat.le_refl _)
  have y2 := (HY.out.2.below hb4 (Nat.le_refl _)).below hb5 (Nat.le_refl _)
  have hB5 : Below w.heap.size w w5 := HE.out.trans ((hb4.trans (hb5.mono hb4.size)).mono HE.out.size)
  have e1 : bf < w3.heap.size := HY.out.1.lt
  have e2 : bt < w3.heap.size := HY.out.2.lt
  have e3 : bg < be := by rw [← hbe]; exact x4.lt
  have e4 : w.heap.size ≤ bg := by rw [← hbg]; exact HE.out.size
  have HC : Hid (Calls Try.prog 35 #[.slice A n ca, .func (.func 39) #[] #[.pointer (some ⟨bf, 0, none⟩), .pointer (some ⟨bt, 0, none⟩), .pointer (some ⟨be, 0, none⟩), .pointer (some ⟨bg, 0, none⟩)]] w5 fun e w' => ∃ A' qs, e = .returned (.slice A' n n) ∧ PO w' w5.heap.size A' n n qs ∧ MvJ w5.heap.size bf bt be bg a b ps n qs w' ∧ But [be, bg] w5 w') := by
    have hlen := hall.out.1.2
    simp at hlen
    have hln := hPL.out.len
    refine changed_move w5 (ps := ps) [be, bg] (MvJ w5.heap.size bf bt be bg a b ps) ?_ (by omega) ?_ ?_ ?_
    · intro q hq
      simp at hq
      rcases hq with rfl | rfl
      · exact x5.lt
      · exact x45.lt
    · intro W hW
      exact hPL.out.below (hB5.trans (hW.below hB5.size (by simp; omega))) (Nat.le_refl _)
    · intro W hW
      exact ⟨y1.below hW (Nat.le_refl _), y2.below hW (Nat.le_refl _), none, 0, 0, [], 0, x45.below hW (Nat.le_refl _), OwnV.nil _ _ _, Nat.le_refl _, by simp, x5.below hW (Nat.le_refl _), .inl ⟨rfl, by simp, rfl, rfl⟩⟩
    · intro W0 W k p qs g l r X c hstep
      exact mv_step y1.lt y2.lt x5.lt x45.lt (by omega) (by omega) hall.out W0 W k p qs g l r X c hstep
  have HH := Lib.hid (And.intro hB5 (And.intro hall.out hPL.out.len))
  have HEE := Lib.hid (show w.heap.size ≤ be ∧ w.heap.size ≤ bg by omega)
  clear hx4 hx5 x4 x5 x45 y1 y2 hB5 e1 e2 e3 e4 hb4 hb5 hall
  have HW := Lib.hid (And.intro hw4 (And.intro hw5 (And.intro hbg hbe)))
  clear hw4 hw5 hbg hbe
  go_wp2_with fail
  rw [HW.out.2.2.1, HW.out.1, HW.out.2.1]
  have hbe1 : be = bg + 1 := by rw [← HW.out.2.2.2, ← HW.out.1, ← HW.out.2.2.1]; simp
  subst hbe1
  refine HC.out.mono ?_
  rintro e w6 ⟨A', qs, rfl, hpo, hj, hbt⟩
  obtain ⟨G, m, mc, gr, er, jg⟩ := hj.g
  have c1 := jg.box.cell
  have c2 := jg.err.cell
  have hm := jg.le
  have hB6 : Below w.heap.size w w6 := HH.out.1.trans (hbt.below HH.out.1.size (by have := HEE.out; simp; omega))
  have hlen := HH.out.2.1.1.2
  simp at hlen
  have hln := HH.out.2.2
  have HR := Lib.hid (And.intro hpo (And.intro jg.own (And.intro hB6 (And.intro hm (show n ≤ 1000 by omega)))))
  have hs := jg.ok
  clear hpo hj hbt jg hB6 hm hlen hln d1 d2
  rcases hs with ⟨rfl, h1, h2, h3⟩ | ⟨rfl, h1⟩
  · have HS := Lib.hid (And.intro h1 (And.intro h2 h3))
    clear h1 h2 h3
    go_wp2
    go_region
    all_goals (try go_wp2)
    all_goals
      go_ret3
      obtain ⟨s1, s2, s3⟩ := HS.out
      obtain ⟨r1, r2, r3, r4, r5⟩ := HR.out
      have hln := HH.out.2.2
      rw [hmv.out, if_neg (by
        rintro ⟨p, hp, hb⟩
        obtain ⟨x, hx, rfl⟩ := List.mem_map.1 hp
        refine s1 x ?_ hb
        rwa [List.take_of_length_le (by omega)])]
      rw [List.take_of_length_le (by omega)] at s2 s3
      refine ⟨A', n, qs, G, m, mc, rfl, PO.drew' (r1.lower HH.out.1.size), ?_, r5, ?_, by omega, r3.drew⟩
      · rw [s2, List.map_map]
        rfl
      · rw [s3] at r2
        exact r2.rd.drew
  · have hb0 : ((100 : Int) == 0) = false := rfl
    have HS := Lib.hid h1
    clear h1
    go_wp2
    go_region
    all_goals (try go_wp2)
    all_goals
      go_ret3
      rw [hmv.out, if_pos (by obtain ⟨p, hp, hb⟩ := HS.out; exact ⟨_, List.mem_map.2 ⟨p, hp, rfl⟩, hb⟩)]
      exact moved_no _ HR.out.2.2.1.drew
theorem move_is {A : Option Addr} {n ca : Nat} {ps : List Pc} (h : PL w A n ps) (hn : n ≤ 1000000) (a b : Int) : Calls Try.prog 12 #[.slice A n ca, .int .i64 a, .int .i64 b] w (Moved w (moveP (ps.map Pc.pl) a b)) := by
  by_cases hA : AllP (ps.map Pc.pl)
  · have hA' : allB (ps.map Pc.pl) = true := decide_eq_true hA
    by_cases hm : MayNot a b
    · rw [moveP, if_neg (by simpa using hA), if_pos hm]
      exact move_may w h hn a b hA' hm
    · exact move_go w h hn a b hA' hm
  · rw [moveP, if_pos hA]
    exact move_arg w h hn a b (decide_eq_false hA)
end
end Go.Proofs.Ytbilbfjmfaignaa
