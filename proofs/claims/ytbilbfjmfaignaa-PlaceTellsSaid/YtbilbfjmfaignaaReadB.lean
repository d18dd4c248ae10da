/- Read. -/
import Derived.Test.YtbilbfjmfaignaaReadA
import Derived.Laws.EntriesVeiled
namespace Go.Proofs.Ytbilbfjmfaignaa
open Go.RowKit Go.Coop
set_option maxRecDepth 100000
def rdW (w : World) (A : Option Addr) (n c s : Nat) : World :=
  (((w.alloc (.cells #[.slice A n c] 34)).alloc (.cells #[.int .i64 0] 3)).alloc (.cells #[.bool true] 4)).alloc (.cells #[nextV s (s + 1) (s + 2)] 70)
theorem rdW_is (w : World) (A : Option Addr) (n c : Nat) : Below w.heap.size w (rdW w A n c w.heap.size) ∧ Box (rdW w A n c w.heap.size) w.heap.size (.slice A n c) 34 ∧ Box (rdW w A n c w.heap.size) (w.heap.size + 1) (.int .i64 0) 3 ∧ Box (rdW w A n c w.heap.size) (w.heap.size + 2) (.bool true) 4 ∧ Box (rdW w A n c w.heap.size) (w.heap.size + 3) (nextV w.heap.size (w.heap.size + 1) (w.heap.size + 2)) 70 := by
  unfold rdW
  obtain ⟨w1, h1⟩ : ∃ v, w.alloc (.cells #[.slice A n c] 34) = v := ⟨_, rfl⟩
  rw [h1]
  obtain ⟨b1, x1⟩ := box_new h1
  have z1 : w1.heap.size = w.heap.size + 1 := by rw [← h1]; simp
  obtain ⟨w2, h2⟩ : ∃ v, w1.alloc (.cells #[.int .i64 0] 3) = v := ⟨_, rfl⟩
  rw [h2]
  obtain ⟨b2, x2⟩ := box_new h2
  have z2 : w2.heap.size = w.heap.size + 2 := by rw [← h2]; simp [z1]
  obtain ⟨w3, h3⟩ : ∃ v, w2.alloc (.cells #[.bool true] 4) = v := ⟨_, rfl⟩
  rw [h3]
  obtain ⟨b3, x3⟩ := box_new h3
  have z3 : w3.heap.size = w.heap.size + 3 := by rw [← h3]; simp [z2]
  obtain ⟨w4, h4⟩ : ∃ v, w3.alloc (.cells #[nextV w.heap.size (w.heap.size + 1) (w.heap.size + 2)] 70) = v := ⟨_, rfl⟩
  rw [h4]
  obtain ⟨b4, x4⟩ := box_new h4
  rw [z1] at x2
  rw [z2] at x3
  rw [z3] at x4
  have c34 := b3.trans (b4.mono b3.size)
  have c24 := b2.trans (c34.mono b2.size)
  have c14 := b1.trans (c24.mono b1.size)
  refine ⟨c14, ?_, ?_, ?_, x4⟩
  · exact (show Box w1 w.heap.size (.slice A n c) 34 from x1).below c24 (Nat.le_refl _)
  · exact (show Box w2 (w.heap.size + 1) (.int .i64 0) 3 from x2).below c34 (Nat.le_refl _)
  · exact (show Box w3 (w.heap.size + 2) (.bool true) 4 from x3).below b4 (Nat.le_refl _)
structure RdJ (bb ba bw bn n c : Nat) (A : Option Addr) (bs : List UInt8) (s : Nat × Bool) (k : Nat) (qs : List Pc) (W : World) : Prop where
  eq : qs.map Pc.pl = (rds bs k s).1
  kb : Box W bb (.slice A n c) 34
  ka : Box W ba (.int .i64 ((rds bs k s).2.1 : Int)) 3
  kw : Box W bw (.bool (rds bs k s).2.2) 4
  kn : Box W bn (nextV bb ba bw) 70
  rd : Rd W A n bs
theorem rd_step {w : World} {bb ba bw bn n c : Nat} {A : Option Addr} {bs : List UInt8} {s : Nat × Bool} {ps : List Pc} (hba : ba < w.heap.size) (hbw : bw < w.heap.size) (hbb : bb ≠ ba ∧ bb ≠ bw ∧ bn ≠ ba ∧ bn ≠ bw ∧ ba ≠ bw) (hn : n ≤ 1000000000) (hnc : n ≤ c) (hs : s.1 ≤ bs.length) (hAb : 0 < n → ∀ j, A.map (·.block) = some j → j < w.heap.size ∧ j ≠ ba ∧ j ≠ bw) (W0 W : World) (k : Nat) (p : Pc) (qs : List Pc) (g : Nat) (l r : List Value) (X : Option Addr) (cX : Nat)
    (h : Step w [ba, bw] (RdJ bb ba bw bn n c A bs s) ps W0 W k p qs g l r X cX) :
    Calls Try.prog 43 #[.int .i64 (k : Int), .pointer (some ⟨g, k * 2, none⟩), .pointer (some ⟨bn, 0, none⟩)] W (Stepped w [ba, bw] (RdJ bb ba bw bn n c A bs s) W k qs g l r) := by
  have j := h.st
  have hg0 := h.g0
  have hA : 0 < n → ∀ j, A.map (·.block) = some j → j ≠ g ∧ j ≠ ba ∧ j ≠ bw := fun h0 j hj => by have := hAb h0 j hj; omega
  have kb := j.kb.far h.but1 h.row0 (by decide)
  have ka := j.ka.far h.but1 h.row0 (by decide)
  have kw := j.kw.far h.but1 h.row0 (by decide)
  have kn := j.kn.far h.but1 h.row0 (by decide)
  have kr := rd_but j.rd h.but1 (fun h0 q hq => by simp; exact (hA h0 q hq).1)
  refine (cl_read W h.ll h.row k kn kb ka kw kr hn hnc (rds_at bs s hs k) hA).mono ?_
  rintro e w' ⟨rfl, X', m, cX', hr, ho, hm, ha, hw, hbt⟩
  have hfar : ∀ {x : Option Addr} {n c : Nat} {vs : List Value}, OwnV W w.heap.size 3 x n c vs → OwnV w' w.heap.size 3 x n c vs := fun hox => hox.but hbt (fun q hq hm => by
    have h1 := (hox.block q hq).1
    obtain ⟨cur, hc⟩ := hox.typ hq
    have h2 := ne_of_type hc h.row (by decide)
    simp at hm
    omega)
  have hbt2 : ∀ {q : Nat} {v : Value} {E : TypeId}, E ≠ 30 → q ≠ ba → q ≠ bw → Box W q v E → Box w' q v E := fun hE h1 h2 hb => hb.but hbt (by simp; exact ⟨ne_of_type hb h.row hE, h1, h2⟩)
  refine ⟨⟨(rdPl bs (rds bs k s).2).1.e, X', m, cX', (rdPl bs (rds bs k s).2).1.l⟩, rfl, hr, fun x hx => ?_, ⟨?_, hbt2 (by decide) hbb.1 hbb.2.1 kb, ha, hw, hbt2 (by decide) hbb.2.2.1 hbb.2.2.2.1 kn, rd_but kr hbt (fun h0 q hq => by have := hA h0 q hq; simp; exact this)⟩, ?_, by simp [h.len]⟩
  · rcases List.mem_append.1 hx with hx | hx
    · exact ⟨hfar (own_far (h.each x hx).1 h.but1 h.row0), (h.each x hx).2⟩
    · simp at hx
      subst hx
      exact ⟨ho.lower' h.but.size, by simp only; omega⟩
  · rw [List.map_append, j.eq, rds]
    rfl
  · refine h.but.trans' hbt (fun i hi => ?_)
    simp at hi
    rcases hi with rfl | rfl | rfl
    · exact .inr hg0
    · exact .inl (by simp)
    · exact .inl (by simp)
section
variable (w : World)
theorem gave_no {w W : World} (er : Int) (hb : Below w.heap.size w W) : Gave w ([], er) (.returned (.tuple #[.slice none 0 0, .int .i64 er])) W := ⟨none, 0, [], rfl, PO.nil _ _, rfl, by omega, hb⟩
set_option maxHeartbeats 2000000 in
theorem read_is {A : Option Addr} {n c : Nat} {bs : List UInt8} (h : Rd w A n bs) (hn : n ≤ 1000000000) (hnc : n ≤ c) : Calls Try.prog 14 #[.slice A n c] w (Gave w (readP bs)) := by
  obtain ⟨hb4, xb, xa, xw, xn⟩ := rdW_is w A n c
  obtain ⟨B, hB⟩ : ∃ B, w.heap.size = B := ⟨_, rfl⟩
  rw [hB] at xb xa xw xn
  have hW : rdW w A n c w.heap.size = rdW w A n c B := by rw [hB]
  rw [hW] at hb4
  have hWB := Lib.hid hB
  obtain ⟨w4, hw4⟩ : ∃ v, rdW w A n c B = v := ⟨_, rfl⟩
  rw [hw4] at hb4 xb xa xw xn
  have HW := Lib.hid hw4
  clear hw4
  have hr4 := h.below hb4 (Nat.le_refl _)
  have hAl : 0 < n → ∀ j, A.map (·.block) = some j → j < B := fun h0 j hj => by
    obtain ⟨ad, e, hlt, _⟩ := h.cells h0
    subst e
    simp at hj
    omega
  obtain ⟨n1, hn1⟩ : ∃ v, (nx bs 1000 (0, true)).1 = v := ⟨_, rfl⟩
  obtain ⟨s1, hs1⟩ : ∃ v, (nx bs 1000 (0, true)).2 = v := ⟨_, rfl⟩
  have hs1l : s1.1 ≤ bs.length := by rw [← hs1]; exact nx_at bs 1000 _ (Nat.zero_le _)
  have hn1l : n1 ≤ 1000 := by rw [← hn1]; exact nx_le bs 1000 _
  have hN := next_is w4 xb xa xw hr4 hn hnc 1000 (by omega) (Nat.zero_le _) (s := (0, true))
  rw [hn1, hs1] at hN
  have hR : readR bs = rds bs n1 s1 := by unfold readR; rw [hn1, hs1]
  have H := Lib.hid (And.intro hb4 (And.intro xb (And.intro xn (And.intro hr4 hN))))
  have H2 := Lib.hid (And.intro hAl (And.intro hs1l (And.intro hR h.len)))
  have d0 := xn.cell
  clear hb4 xb xa xw xn hr4 hN hAl hs1l hR hn1 hs1 h hB hW
  go_enter Try.func14, Try.ntmps14
  go_wp2_with fail
  change Calls Try.prog 41 _ (rdW w A n c w.heap.size) _
  rw [hWB.out, HW.out]
  simp only [Nat.add_assoc, Nat.reduceAdd]
  refine H.out.2.2.2.2.mono ?_
  rintro e w5 ⟨rfl, xa, xw, xbt⟩
  have xb := H.out.2.1.but xbt (by simp)
  have xn := H.out.2.2.1.but xbt (by simp)
  have xr := rd_but H.out.2.2.2.1 xbt (fun h0 q hq => by have := H2.out.1 h0 q hq; simp; omega)
  have hBw : w.heap.size = B := hWB.out
  have hb5 : Below w.heap.size w w5 := H.out.1.trans (xbt.below H.out.1.size (by simp; omega))
  have mk := make24 n1 (by omega)
  obtain ⟨w6, hw6⟩ : ∃ v, w5.alloc (.cells (zrp n1).toArray 30) = v := ⟨_, rfl⟩
  obtain ⟨hb6, hx6⟩ := box_new hw6
  obtain ⟨z, hz⟩ : ∃ z, w5.heap.size = z := ⟨_, rfl⟩
  rw [hz] at hx6
  have l4 : B + 3 < w6.heap.size := by have h1 := xn.lt; have h2 := hb6.size; omega
  have HC : Hid (Calls Try.prog 35 #[.slice (some ⟨z, 0, none⟩) n1 n1, .func (.func 43) #[] #[.pointer (some ⟨B + 3, 0, none⟩)]] w6 fun e w' => ∃ A' qs, e = .returned (.slice A' n1 n1) ∧ PO w' w6.heap.size A' n1 n1 qs ∧ RdJ B (B + 1) (B + 2) (B + 3) n c A bs s1 n1 qs w' ∧ But [B + 1, B + 2] w6 w') := by
    refine changed_read w6 (ps := List.replicate n1 zPc) [B + 1, B + 2] (RdJ B (B + 1) (B + 2) (B + 3) n c A bs s1) (by simp; omega) (by omega) ?_ ?_ ?_
    · intro W hW
      exact PL.zero (hW.cells hx6 (by have := xn.lt; simp; omega))
    · intro W hW
      exact ⟨rfl, (xb.below hb6 (Nat.le_refl _)).below hW (Nat.le_refl _), (xa.below hb6 (Nat.le_refl _)).below hW (Nat.le_refl _), (xw.below hb6 (Nat.le_refl _)).below hW (Nat.le_refl _), (xn.below hb6 (Nat.le_refl _)).below hW (Nat.le_refl _), (xr.below hb6 (Nat.le_refl _)).below hW (Nat.le_refl _)⟩
    · intro W0 W k p qs g l r X cX hstep
      exact rd_step (by omega) (by omega) (by omega) hn hnc H2.out.2.1 (fun h0 j hj => by have := H2.out.1 h0 j hj; omega) W0 W k p qs g l r X cX hstep
  have HE := Lib.hid (And.intro hb5 (hb5.trans (hb6.mono hb5.size)))
  clear d0 xa xw xbt xb xr hb5 hb6 hx6 l4 hBw
  go_wp2_with fail
  (try rw [hz]); (try rw [hw6])
  refine HC.out.mono ?_
  rintro e w7 ⟨A7, qs, rfl, hpo, hj, hbt⟩
  have hb7 : Below w.heap.size w w7 := HE.out.2.trans (hbt.below HE.out.2.size (by have := hWB.out; simp; omega))
  have e1 := hj.kb.cell
  have e2 := hj.ka.cell
  have e3 := hj.kw.cell
  have hq := hj.eq
  rw [← H2.out.2.2.1] at e2 e3 hq
  have hlb := H2.out.2.2.2
  have HF := Lib.hid (And.intro (hpo.lower HE.out.2.size) (And.intro hq (And.intro hb7 hlb)))
  have hn1l' := Lib.hid hn1l
  clear hpo hj hbt hb7 hq hlb mk hw6 hz xn
  obtain ⟨L, hL⟩ : ∃ L, (readR bs).1 = L := ⟨_, rfl⟩
  obtain ⟨at_, hat⟩ : ∃ v, (readR bs).2.1 = v := ⟨_, rfl⟩
  obtain ⟨ok, hok⟩ : ∃ v, (readR bs).2.2 = v := ⟨_, rfl⟩
  rw [hat] at e2
  rw [hok] at e3
  have hP : readP bs = if ok = true ∧ at_ = bs.length ∧ AllP L then (L, 0) else ([], 100) := by unfold readP; rw [hL, hat, hok]
  have HP := Lib.hid (And.intro hP hL)
  clear hP hL hat hok
  cases ok with
  | false =>
    go_wp2
    go_ret2
    rw [HP.out.1, if_neg (by simp)]
    exact gave_no _ HF.out.2.2.1
  | true =>
    by_cases hal : at_ = n
    · have hab : ((at_ : Int) == (n : Int)) = true := by simp; omega
      have hab' : ((at_ : Int) != (n : Int)) = false := by simp; omega
      have HAl := Lib.hid hal
      clear hal
      by_cases hA : AllP L
      · have hB := Lib.hid (show allB (qs.map Pc.pl) = true by rw [HF.out.2.1, HP.out.2]; exact decide_eq_true hA)
        have HA := Lib.hid hA
        clear hA
        go_wp2_with fail
        refine (rightAll_is _ HF.out.1.pl (by have := hn1l'.out; omega) hB.out).mono ?_
        rintro e w8 ⟨rfl, hb8⟩
        go_wp2
        go_ret2
        rw [HP.out.1, if_pos ⟨trivial, by rw [HAl.out, HF.out.2.2.2], HA.out⟩]
        exact ⟨A7, n1, qs, rfl, HF.out.1.below hb8 (Nat.le_refl _), by rw [HF.out.2.1, HP.out.2], hn1l'.out, HF.out.2.2.1.trans (hb8.mono HF.out.2.2.1.size)⟩
      · have hB := Lib.hid (show allB (qs.map Pc.pl) = false by rw [HF.out.2.1, HP.out.2]; exact decide_eq_false hA)
        have HA := Lib.hid hA
        clear hA
        go_wp2_with fail
        refine (rightAll_is _ HF.out.1.pl (by have := hn1l'.out; omega) hB.out).mono ?_
        rintro e w8 ⟨rfl, hb8⟩
        go_wp2
        go_ret2
        rw [HP.out.1, if_neg (fun h => HA.out h.2.2)]
        exact gave_no _ (HF.out.2.2.1.trans (hb8.mono HF.out.2.2.1.size))
    · have hab : ((at_ : Int) == (n : Int)) = false := by simp; omega
      have hab' : ((at_ : Int) != (n : Int)) = true := by simp; omega
      have HAl := Lib.hid hal
      clear hal
      go_wp2
      go_ret2
      rw [HP.out.1, if_neg (fun h => HAl.out (h.2.1.trans HF.out.2.2.2))]
      exact gave_no _ HF.out.2.2.1
end
end Go.Proofs.Ytbilbfjmfaignaa
