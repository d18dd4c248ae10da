/- The reference's Unset and Set. Made by gref8d.py. -/
import Derived.Test.YtncjbohpaanpaaaRefB
import Derived.Test.YtncjbohpaanpaaaLawOn
namespace Go.Proofs.Ytncjbohpaanpaaa
open Go.RowKit Go.Coop Go.Maps
set_option maxRecDepth 100000
theorem idxL_none {S : CS} {i : Int} (h : S.find i = none) : idxL i S.L = -1 := by
  have := idxN_none (findD_none.1 h)
  unfold idxL
  rw [this, if_neg (by omega)]
theorem idxL_some {S : CS} (hok : S.Ok) {i d : Int} (h : S.find i = some d) : ∃ p : Nat, idxL i S.L = (p : Int) ∧ p < S.L.length ∧ (S.unset i).L = S.L.take p ++ S.L.drop (p + 1) := by
  have hm := findD_some h
  have hlt : idxN i S.L < S.L.length := by
    rcases Nat.lt_or_ge (idxN i S.L) S.L.length with h1 | h1
    · exact h1
    · exfalso
      have := hok.srt.at_ hm
      have hp := (List.getElem?_eq_some_iff.1 this).1
      have hall : ∀ u ∈ S.L, u.id ≠ i := by
        intro u hu e
        obtain ⟨j, hj, rfl⟩ := List.getElem_of_mem hu
        have h2 : ∀ (L : List Tm) (j : Nat) (hj : j < L.length), L[j].id = i → idxN i L ≤ j := by
          intro L
          induction L with
          | nil => intro j hj; simp at hj
          | cons a l ih =>
            intro j hj he
            unfold idxN
            split
            · omega
            · rename_i hne
              cases j with
              | zero => exact absurd he hne
              | succ j =>
                have := ih j (by simpa using hj) (by simpa using he)
                omega
        have := h2 S.L j hj e
        omega
      exact hall _ hm rfl
  obtain ⟨t, ht, hti⟩ := idxN_some hlt
  refine ⟨idxN i S.L, by unfold idxL; rw [if_pos hlt], hlt, ?_⟩
  have := del_at hok.nod ht
  rw [hti] at this
  exact this
section
variable (w : World) {A : Option Addr} {n c : Nat}
set_option maxHeartbeats 1000000 in
theorem rf_unset {S : CS} (hok : S.Ok) (h : Tl w 0 A n c S.L) (i : Int) : Calls Try.prog 23 #[RV S.now (S.most : Int) A n c, .int .i64 i] w (RfU w S.now (S.most : Int) A (S.unset i).L (.bool (S.find i).isSome)) := by
  have hln : S.L.length = n := by have := h.len; rw [tvs_len] at this; omega
  have hn : n ≤ 65536 := by have := hok.len; have := hok.m2; omega
  obtain ⟨w1, hw1⟩ : ∃ v, w.alloc (.cells (B42 S.now (S.most : Int) A n c) 42) = v := ⟨_, rfl⟩
  obtain ⟨w2, hw2⟩ : ∃ v, w1.alloc (.cells #[.int .i64 0, .int .i64 0, .slice none 0 0] 42) = v := ⟨_, rfl⟩
  obtain ⟨b, hb⟩ : ∃ b, w.heap.size = b := ⟨_, rfl⟩
  obtain ⟨b2, hbb⟩ : ∃ b, w1.heap.size = b := ⟨_, rfl⟩
  obtain ⟨hx2, hy2, hB2, hlt, hb2l, hx1, hbw⟩ := boxes2 hw1 hw2 hb hbb
  obtain ⟨⟨n0, n1, n2⟩, _⟩ := three42 hx2
  cases hf : S.find i with
  | none =>
    have hq := idxL_none hf
    rw [CS.unset_none hf]
    have HF := Lib.hid (And.intro h (And.intro hB2 (And.intro hx2 (And.intro hy2 (And.intro hbw (And.intro hlt (And.intro hq hn)))))))
    clear h hln hn hx2 hy2 hB2 hlt hb2l hx1 hbw hok hf hq
    go_enter Try.func23, Try.ntmps23
    go_wp2_with fail
    (try rw [hw1]); (try rw [hw2]); (try rw [hb]); (try rw [hbb])
    refine (rf_find w2 S.now (S.most : Int) (HF.out.1.below HF.out.2.1) (by have := HF.out.2.2.2.2.2.2.2; omega) i HF.out.2.2.2.2.2.2.1).mono ?_
    rintro e w3 ⟨rfl, hB3⟩
    have hx3 := (hB3.block b (by have := (Array.getElem?_eq_some_iff.1 HF.out.2.2.1).1; exact this)).trans HF.out.2.2.1
    have hy3 := (hB3.block b2 (by have := (Array.getElem?_eq_some_iff.1 HF.out.2.2.2.1).1; exact this)).trans HF.out.2.2.2.1
    have hBB : Below w.heap.size w w3 := HF.out.2.1.trans (hB3.mono HF.out.2.1.size)
    obtain ⟨⟨m0, m1, m2⟩, _⟩ := three42 hx3
    obtain ⟨⟨q0, q1, q2⟩, fq0, fq1, fq2⟩ := three42 hy3
    have HG := Lib.hid (And.intro hBB hy3)
    clear hx3 hy3 hBB hB3 n0 n1 n2 hw1 hw2 hb hbb
    go_wp2
    have hw := row3 (v0 := .int .i64 S.now) (v1 := .int .i64 (S.most : Int)) (v2 := .slice A n c) HG.out.2
    obtain ⟨w6, hw6⟩ : ∃ v, ((w3.setCell ⟨b2, 0, none⟩ (.int .i64 S.now)).setCell ⟨b2, 1, none⟩ (.int .i64 (S.most : Int))).setCell ⟨b2, 2, none⟩ (.slice A n c) = v := ⟨_, rfl⟩
    have hbt : But [b2] w3 w6 := hw6 ▸ (((But.refl _ w3).setCell (by simp) _).setCell (by simp) _).setCell (by simp) _
    rw [hw6] at hw ⊢
    have hlo := HF.out.2.2.2.2.1
    have hlt := HF.out.2.2.2.2.2.1
    refine bodyPost_ret (v := .tuple #[RV S.now (S.most : Int) A n c, .bool false]) ?_ rfl ⟨A, n, c, rfl, ?_, .inl rfl, HG.out.1.trans (hbt.below HG.out.1.size (by simp; omega))⟩
    · rw [results_cell_tmp rfl]
      simp [asAddr, Result.andThen, load42 hw]
    · refine (HF.out.1.below HG.out.1).but hbt (fun j hj hm => ?_)
      have h1 := (HF.out.1.block j hj).2
      simp at hm
      omega
  | some d =>
    obtain ⟨p, hq, hpl, hdel⟩ := idxL_some hok hf
    rw [hdel]
    have hp0 : (0 : Int) ≤ (p : Int) := by omega
    have HF := Lib.hid (And.intro h (And.intro hB2 (And.intro hx2 (And.intro hy2 (And.intro hbw (And.intro hlt (And.intro hq (And.intro hn (by omega : p < n)))))))))
    clear h hln hn hx2 hy2 hB2 hlt hb2l hx1 hbw hok hf hq hpl hdel
    go_enter Try.func23, Try.ntmps23
    go_wp2_with fail
    (try rw [hw1]); (try rw [hw2]); (try rw [hb]); (try rw [hbb])
    refine (rf_find w2 S.now (S.most : Int) (HF.out.1.below HF.out.2.1) (by have := HF.out.2.2.2.2.2.2.2.1; omega) i HF.out.2.2.2.2.2.2.1).mono ?_
    rintro e w3 ⟨rfl, hB3⟩
    have hx3 := (hB3.block b (by have := (Array.getElem?_eq_some_iff.1 HF.out.2.2.1).1; exact this)).trans HF.out.2.2.1
    have hy3 := (hB3.block b2 (by have := (Array.getElem?_eq_some_iff.1 HF.out.2.2.2.1).1; exact this)).trans HF.out.2.2.2.1
    have hBB : Below w.heap.size w w3 := HF.out.2.1.trans (hB3.mono HF.out.2.1.size)
    obtain ⟨⟨m0, m1, m2⟩, _⟩ := three42 hx3
    have HG := Lib.hid (And.intro hBB hy3)
    clear hx3 hy3 hBB hB3 n0 n1 n2 hw1 hw2 hb hbb
    go_wp2_with fail
    refine (rf_without w3 S.now (S.most : Int) (HF.out.1.below HG.out.1) (by have := HF.out.2.2.2.2.2.2.2.1; omega) HF.out.2.2.2.2.2.2.2.2).mono ?_
    rintro e w4 ⟨A4, n4, c4, rfl, hT4, hB4⟩
    have hy4 := (hB4.block b2 (by have := (Array.getElem?_eq_some_iff.1 HG.out.2).1; exact this)).trans HG.out.2
    have hb23 := (Array.getElem?_eq_some_iff.1 HG.out.2).1
    obtain ⟨⟨q0, q1, q2⟩, fq0, fq1, fq2⟩ := three42 hy4
    have HK := Lib.hid (And.intro hT4 (And.intro hy4 (And.intro hb23 (HG.out.1.trans (hB4.mono HG.out.1.size)))))
    clear hT4 hy4 hb23 hB4 m0 m1 m2
    go_wp2
    have hw := row3 (v0 := .int .i64 S.now) (v1 := .int .i64 (S.most : Int)) (v2 := .slice A4 n4 c4) HK.out.2.1
    obtain ⟨w6, hw6⟩ : ∃ v, ((w4.setCell ⟨b2, 0, none⟩ (.int .i64 S.now)).setCell ⟨b2, 1, none⟩ (.int .i64 (S.most : Int))).setCell ⟨b2, 2, none⟩ (.slice A4 n4 c4) = v := ⟨_, rfl⟩
    have hbt : But [b2] w4 w6 := hw6 ▸ (((But.refl _ w4).setCell (by simp) _).setCell (by simp) _).setCell (by simp) _
    rw [hw6] at hw ⊢
    have hlo := HF.out.2.2.2.2.1
    have hlt := HF.out.2.2.2.2.2.1
    have h23 := HK.out.2.2.1
    have hsz := HG.out.1.size
    refine bodyPost_ret (v := .tuple #[RV S.now (S.most : Int) A4 n4 c4, .bool true]) ?_ rfl ⟨A4, n4, c4, rfl, ?_, .inr (fun j hj => by have := (HK.out.1.block j hj).1; omega), HK.out.2.2.2.trans (hbt.below HK.out.2.2.2.size (by simp; omega))⟩
    · rw [results_cell_tmp rfl]
      simp [asAddr, Result.andThen, load42 hw]
    · refine (HK.out.1.lower (Nat.zero_le _)).but hbt (fun j hj hm => ?_)
      have h1 := (HK.out.1.block j hj).1
      simp at hm
      omega
theorem rf_set_arg {S : CS} (hok : S.Ok) (h : Tl w 0 A n c S.L) {i d : Int} (hd : d < 1 ∨ 1152921504606846976 - S.now < d) : Calls Try.prog 22 #[RV S.now (S.most : Int) A n c, .int .i64 i, .int .i64 d] w (RfU w S.now (S.most : Int) A S.L (.int .i64 2)) := by
  have hln : S.L.length = n := by have := h.len; rw [tvs_len] at this; omega
  have hn : n ≤ 65536 := by have := hok.len; have := hok.m2; omega
  obtain ⟨w1, hw1⟩ : ∃ v, w.alloc (.cells (B42 S.now (S.most : Int) A n c) 42) = v := ⟨_, rfl⟩
  obtain ⟨w2, hw2⟩ : ∃ v, w1.alloc (.cells #[.int .i64 0, .int .i64 0, .slice none 0 0] 42) = v := ⟨_, rfl⟩
  obtain ⟨b, hb⟩ : ∃ b, w.heap.size = b := ⟨_, rfl⟩
  obtain ⟨b2, hbb⟩ : ∃ b, w1.heap.size = b := ⟨_, rfl⟩
  obtain ⟨hx2, hy2, hB2, hlt, hb2l, hx1, hbw⟩ := boxes2 hw1 hw2 hb hbb
  obtain ⟨⟨n0, n1, n2⟩, _⟩ := three42 hx2
  obtain ⟨⟨q0, q1, q2⟩, fq0, fq1, fq2⟩ := three42 hy2
  have HF := Lib.hid (And.intro h (And.intro hB2 (And.intro hx2 (And.intro hy2 (And.intro hbw (And.intro hlt hn))))))
  have HG := Lib.hid (And.intro hB2 hy2)
  have hnow0 := hok.n0
  have hnow1 := hok.n1
  by_cases g1 : d < 1
  · clear hd hnow0 hnow1
    clear h hln hn hx2 hy2 hB2 hlt hb2l hx1 hbw hok
    go_enter Try.func22, Try.ntmps22
    go_wp2
    have hw := row3 (v0 := .int .i64 S.now) (v1 := .int .i64 (S.most : Int)) (v2 := .slice A n c) HG.out.2
    obtain ⟨w6, hw6⟩ : ∃ v, ((w2.setCell ⟨b2, 0, none⟩ (.int .i64 S.now)).setCell ⟨b2, 1, none⟩ (.int .i64 (S.most : Int))).setCell ⟨b2, 2, none⟩ (.slice A n c) = v := ⟨_, rfl⟩
    have hbt : But [b2] w2 w6 := hw6 ▸ (((But.refl _ w2).setCell (by simp) _).setCell (by simp) _).setCell (by simp) _
    rw [hw6] at hw ⊢
    have hlo := HF.out.2.2.2.2.1
    have hlt := HF.out.2.2.2.2.2.1
    refine bodyPost_ret (v := .tuple #[RV S.now (S.most : Int) A n c, .int .i64 2]) ?_ rfl ⟨A, n, c, rfl, ?_, .inl rfl, HG.out.1.trans (hbt.below HG.out.1.size (by simp; omega))⟩
    · rw [results_cell_tmp rfl]
      simp [asAddr, Result.andThen, load42 hw]
    · refine (HF.out.1.below HG.out.1).but hbt (fun j hj hm => ?_)
      have h1 := (HF.out.1.block j hj).2
      simp at hm
      omega
  · by_cases g2 : 1152921504606846976 < d
    · have g1' : decide (d < 1) = false := by simpa using g1
      clear hd hnow0 hnow1 g1
      clear h hln hn hx2 hy2 hB2 hlt hb2l hx1 hbw hok
      go_enter Try.func22, Try.ntmps22
      go_wp2
      have hw := row3 (v0 := .int .i64 S.now) (v1 := .int .i64 (S.most : Int)) (v2 := .slice A n c) HG.out.2
      obtain ⟨w6, hw6⟩ : ∃ v, ((w2.setCell ⟨b2, 0, none⟩ (.int .i64 S.now)).setCell ⟨b2, 1, none⟩ (.int .i64 (S.most : Int))).setCell ⟨b2, 2, none⟩ (.slice A n c) = v := ⟨_, rfl⟩
      have hbt : But [b2] w2 w6 := hw6 ▸ (((But.refl _ w2).setCell (by simp) _).setCell (by simp) _).setCell (by simp) _
      rw [hw6] at hw ⊢
      have hlo := HF.out.2.2.2.2.1
      have hlt := HF.out.2.2.2.2.2.1
      refine bodyPost_ret (v := .tuple #[RV S.now (S.most : Int) A n c, .int .i64 2]) ?_ rfl ⟨A, n, c, rfl, ?_, .inl rfl, HG.out.1.trans (hbt.below HG.out.1.size (by simp; omega))⟩
      · rw [results_cell_tmp rfl]
        simp [asAddr, Result.andThen, load42 hw]
      · refine (HF.out.1.below HG.out.1).but hbt (fun j hj hm => ?_)
        have h1 := (HF.out.1.block j hj).2
        simp at hm
        omega
    · have g1' : decide (d < 1) = false := by simpa using g1
      have g2' : decide (1152921504606846976 < d) = false := by simpa using g2
      have hwr : IntKind.i64.wrap (S.now + d) = S.now + d := IntWalk.i64_in _ (by omega)
      have g3 : 1152921504606846976 < S.now + d := by omega
      clear hd hnow0 hnow1 g1 g2
      clear h hln hn hx2 hy2 hB2 hlt hb2l hx1 hbw hok
      go_enter Try.func22, Try.ntmps22
      go_wp2
      have hw := row3 (v0 := .int .i64 S.now) (v1 := .int .i64 (S.most : Int)) (v2 := .slice A n c) HG.out.2
      obtain ⟨w6, hw6⟩ : ∃ v, ((w2.setCell ⟨b2, 0, none⟩ (.int .i64 S.now)).setCell ⟨b2, 1, none⟩ (.int .i64 (S.most : Int))).setCell ⟨b2, 2, none⟩ (.slice A n c) = v := ⟨_, rfl⟩
      have hbt : But [b2] w2 w6 := hw6 ▸ (((But.refl _ w2).setCell (by simp) _).setCell (by simp) _).setCell (by simp) _
      rw [hw6] at hw ⊢
      have hlo := HF.out.2.2.2.2.1
      have hlt := HF.out.2.2.2.2.2.1
      refine bodyPost_ret (v := .tuple #[RV S.now (S.most : Int) A n c, .int .i64 2]) ?_ rfl ⟨A, n, c, rfl, ?_, .inl rfl, HG.out.1.trans (hbt.below HG.out.1.size (by simp; omega))⟩
      · rw [results_cell_tmp rfl]
        simp [asAddr, Result.andThen, load42 hw]
      · refine (HF.out.1.below HG.out.1).but hbt (fun j hj hm => ?_)
        have h1 := (HF.out.1.block j hj).2
        simp at hm
        omega
theorem rf_set_full {S : CS} (hok : S.Ok) (h : Tl w 0 A n c S.L) {i d : Int} (h1 : 1 ≤ d) (h2 : S.now + d ≤ 1152921504606846976) (hf : S.find i = none) (hl : S.most ≤ S.L.length) : Calls Try.prog 22 #[RV S.now (S.most : Int) A n c, .int .i64 i, .int .i64 d] w (RfU w S.now (S.most : Int) A S.L (.int .i64 71)) := by
  have hln : S.L.length = n := by have := h.len; rw [tvs_len] at this; omega
  have hn : n ≤ 65536 := by have := hok.len; have := hok.m2; omega
  obtain ⟨w1, hw1⟩ : ∃ v, w.alloc (.cells (B42 S.now (S.most : Int) A n c) 42) = v := ⟨_, rfl⟩
  obtain ⟨w2, hw2⟩ : ∃ v, w1.alloc (.cells #[.int .i64 0, .int .i64 0, .slice none 0 0] 42) = v := ⟨_, rfl⟩
  obtain ⟨b, hb⟩ : ∃ b, w.heap.size = b := ⟨_, rfl⟩
  obtain ⟨b2, hbb⟩ : ∃ b, w1.heap.size = b := ⟨_, rfl⟩
  obtain ⟨hx2, hy2, hB2, hlt, hb2l, hx1, hbw⟩ := boxes2 hw1 hw2 hb hbb
  obtain ⟨⟨n0, n1, n2⟩, _⟩ := three42 hx2
  have g1' : decide (d < 1) = false := by simp; omega
  have g2' : decide (1152921504606846976 < d) = false := by have := hok.n0; simp; omega
  have g3' : decide (1152921504606846976 < S.now + d) = false := by simp; omega
  have hwr : IntKind.i64.wrap (S.now + d) = S.now + d := IntWalk.i64_in _ (by have := hok.n0; omega)
  have hq := idxL_none hf
  have hl' : (S.most : Int) ≤ (n : Int) := by omega
  have hln' : S.most ≤ n := by omega
  have HF := Lib.hid (And.intro h (And.intro hB2 (And.intro hx2 (And.intro hy2 (And.intro hbw (And.intro hlt (And.intro hq (And.intro hn h1))))))))
  clear h1 h2 hf hl hq
  clear h hln hn hx2 hy2 hB2 hlt hb2l hx1 hbw hok
  go_enter Try.func22, Try.ntmps22
  go_wp2_with fail
  (try rw [hw1]); (try rw [hw2]); (try rw [hb]); (try rw [hbb])
  refine (rf_find w2 S.now (S.most : Int) (HF.out.1.below HF.out.2.1) (by have := HF.out.2.2.2.2.2.2.2.1; omega) i HF.out.2.2.2.2.2.2.1).mono ?_
  rintro e w3 ⟨rfl, hB3⟩
  have hx3 := (hB3.block b (by have := (Array.getElem?_eq_some_iff.1 HF.out.2.2.1).1; exact this)).trans HF.out.2.2.1
  have hy3 := (hB3.block b2 (by have := (Array.getElem?_eq_some_iff.1 HF.out.2.2.2.1).1; exact this)).trans HF.out.2.2.2.1
  have hBB : Below w.heap.size w w3 := HF.out.2.1.trans (hB3.mono HF.out.2.1.size)
  obtain ⟨⟨m0, m1, m2⟩, _⟩ := three42 hx3
  obtain ⟨⟨q0, q1, q2⟩, fq0, fq1, fq2⟩ := three42 hy3
  have HG := Lib.hid (And.intro hBB hy3)
  clear hx3 hy3 hBB hB3 n0 n1 n2 hw1 hw2 hb hbb
  go_wp2
  have hw := row3 (v0 := .int .i64 S.now) (v1 := .int .i64 (S.most : Int)) (v2 := .slice A n c) HG.out.2
  obtain ⟨w6, hw6⟩ : ∃ v, ((w3.setCell ⟨b2, 0, none⟩ (.int .i64 S.now)).setCell ⟨b2, 1, none⟩ (.int .i64 (S.most : Int))).setCell ⟨b2, 2, none⟩ (.slice A n c) = v := ⟨_, rfl⟩
  have hbt : But [b2] w3 w6 := hw6 ▸ (((But.refl _ w3).setCell (by simp) _).setCell (by simp) _).setCell (by simp) _
  rw [hw6] at hw ⊢
  have hlo := HF.out.2.2.2.2.1
  have hlt := HF.out.2.2.2.2.2.1
  refine bodyPost_ret (v := .tuple #[RV S.now (S.most : Int) A n c, .int .i64 71]) ?_ rfl ⟨A, n, c, rfl, ?_, .inl rfl, HG.out.1.trans (hbt.below HG.out.1.size (by simp; omega))⟩
  · rw [results_cell_tmp rfl]
    simp [asAddr, Result.andThen, load42 hw]
  · refine (HF.out.1.below HG.out.1).but hbt (fun j hj hm => ?_)
    have h1 := (HF.out.1.block j hj).2
    simp at hm
    omega
/-- where Set stands: the boxes of the clock, of the answer, of the timer; the list that is left -/
structure SF (w wr : World) (b b2 b9 : Nat) (now most : Int) (A1 : Option Addr) (n1 c1 : Nat) (td ti : Int) (L1 : List Tm) : Prop where
  bel : Below w.heap.size w wr
  hx : wr.heap[b]? = some (.cells (B42 now most A1 n1 c1) 42 (0, 0))
  hy : wr.heap[b2]? = some (.cells #[.int .i64 0, .int .i64 0, .slice none 0 0] 42 (0, 0))
  hz : wr.heap[b9]? = some (.cells #[.int .i64 td, .int .i64 ti] 36 (0, 0))
  row : Tl wr 0 A1 n1 c1 L1
  len : L1.length = n1
  n1l : n1 ≤ 65536
  lt : b < b2
  bw : w.heap.size ≤ b
theorem SF.below {w wr w' : World} {b b2 b9 n1 c1 : Nat} {now most td ti : Int} {A1 : Option Addr} {L1 : List Tm} (h : SF w wr b b2 b9 now most A1 n1 c1 td ti L1) (hb : Below wr.heap.size wr w') : SF w w' b b2 b9 now most A1 n1 c1 td ti L1 :=
  ⟨h.bel.trans (hb.mono h.bel.size), (hb.block _ (Array.getElem?_eq_some_iff.1 h.hx).1).trans h.hx, (hb.block _ (Array.getElem?_eq_some_iff.1 h.hy).1).trans h.hy, (hb.block _ (Array.getElem?_eq_some_iff.1 h.hz).1).trans h.hz, h.row.below hb, h.len, h.n1l, h.lt, h.bw⟩
theorem SF.drewN {w wr : World} {b b2 b9 n1 c1 : Nat} {now most td ti : Int} {A1 : Option Addr} {L1 : List Tm} (h : SF w wr b b2 b9 now most A1 n1 c1 td ti L1) (q : Nat) : SF w (wr.drewN q) b b2 b9 now most A1 n1 c1 td ti L1 := h.below ⟨rfl, rfl, rfl, Nat.le_refl _, fun _ _ => rfl⟩
/-- ahead of the timer's box -/
structure SF0 (w wr : World) (b b2 : Nat) (now most : Int) (A1 : Option Addr) (n1 c1 : Nat) (L1 : List Tm) : Prop where
  bel : Below w.heap.size w wr
  hx : wr.heap[b]? = some (.cells (B42 now most A1 n1 c1) 42 (0, 0))
  hy : wr.heap[b2]? = some (.cells #[.int .i64 0, .int .i64 0, .slice none 0 0] 42 (0, 0))
  row : Tl wr 0 A1 n1 c1 L1
  len : L1.length = n1
  n1l : n1 ≤ 65536
  lt : b < b2
  bw : w.heap.size ≤ b
theorem SF0.next {w wr w' : World} {b b2 b9 n1 c1 : Nat} {now most td ti : Int} {A1 : Option Addr} {L1 : List Tm} (h : SF0 w wr b b2 now most A1 n1 c1 L1) (hb : Below wr.heap.size wr w') (hz : w'.heap[b9]? = some (.cells #[.int .i64 td, .int .i64 ti] 36 (0, 0))) : SF w w' b b2 b9 now most A1 n1 c1 td ti L1 :=
  ⟨h.bel.trans (hb.mono h.bel.size), (hb.block _ (Array.getElem?_eq_some_iff.1 h.hx).1).trans h.hx, (hb.block _ (Array.getElem?_eq_some_iff.1 h.hy).1).trans h.hy, hz, h.row.below hb, h.len, h.n1l, h.lt, h.bw⟩
/-- behind the appends -/
structure SE (w wc w7 w9 w10 : World) (b b2 b9 : Nat) (now most : Int) (A1 : Option Addr) (n1 c1 : Nat) (td ti : Int) (A5 : Option Addr) (n5 c5 : Nat) (l : List Tm) : Prop where
  z7 : w7.heap[b9]? = some (.cells #[.int .i64 td, .int .i64 ti] 36 (0, 0))
  x9 : w9.heap[b]? = some (.cells (B42 now most A1 n1 c1) 42 (0, 0))
  x10 : w10.heap[b]? = some (.cells (B42 now most A1 n1 c1) 42 (0, 0))
  y10 : w10.heap[b2]? = some (.cells #[.int .i64 0, .int .i64 0, .slice none 0 0] 42 (0, 0))
  row : Tl w10 wc.heap.size A5 n5 c5 l
  bel : Below w.heap.size w w10
  b2l : b2 < wc.heap.size
theorem set_apps {w wc : World} {b b2 b9 n1 c1 p : Nat} {now most td ti : Int} {A1 : Option Addr} {L1 : List Tm} (h : SF w wc b b2 b9 now most A1 n1 c1 td ti L1) (hp : p ≤ n1) :
    ∃ w7 A3 c3 w8 w9 A4 c4 w10 A5 c5 X, (Builtin.append_ #[30, 30] 30 #[.slice none 0 0, .slice A1 p c1]).run Try.prog wc = .ok (.slice A3 p c3) w7 ∧ w7.alloc (.cells #[.int .i64 td, .int .i64 ti] 36) = w8 ∧
      (Builtin.append_ #[30, 30] 30 #[.slice A3 p c3, .slice (some ⟨w7.heap.size, 0, none⟩) 1 1]).run Try.prog w8 = .ok (.slice A4 (p + 1) c4) w9 ∧ (if c1 = p then (A1 : Option Addr) else A1.map (·.add (p * 2))) = X ∧
      (Builtin.append_ #[30, 30] 30 #[.slice A4 (p + 1) c4, .slice X (n1 - p) (c1 - p)]).run Try.prog w9 = .ok (.slice A5 (p + 1 + (n1 - p)) c5) w10 ∧ SE w wc w7 w9 w10 b b2 b9 now most A1 n1 c1 td ti A5 (p + 1 + (n1 - p)) c5 (L1.take p ++ ⟨td, ti⟩ :: L1.drop p) := by
  have hn := h.n1l
  have hh := row_head h.row hp
  rw [tvs_take] at hh
  obtain ⟨A3, c3, w7, hrun3, hrow3, hbt3, hA3⟩ := run_appE (P := Try.prog) wc wc.heap.size 30 30 36 2 _ 16 Try.underlying30 info36 rfl (by omega) (RowW.nil wc wc.heap.size 36 2) hh (tvs_one _) (by omega) (by omega) (Nat.le_refl _)
  rw [Nat.zero_add, List.nil_append] at hrow3
  rw [Nat.zero_add] at hrun3
  have hbt3' : But [] wc w7 := hbt3
  have hB7 : Below wc.heap.size wc w7 := hbt3'.none
  obtain ⟨w8, hw8⟩ : ∃ v, w7.alloc (.cells #[.int .i64 td, .int .i64 ti] 36) = v := ⟨_, rfl⟩
  obtain ⟨hb8, hz8⟩ := row36_new (t := ⟨td, ti⟩) hw8
  have hB8 : Below wc.heap.size wc w8 := hB7.trans (hb8.mono hB7.size)
  obtain ⟨A4, c4, w9, hrun4, hrow4, hbt4, hA4⟩ := run_appW (P := Try.prog) w8 wc.heap.size 30 30 36 2 _ 16 Try.underlying30 info36 rfl (by omega) (hrow3.below hb8) 1 (box_rd (x := ⟨td, ti⟩) hz8) (by omega) (vs_one _) (by omega) (by omega) hB8.size
  have hB9 : Below wc.heap.size wc w9 := hB8.trans (hbt4.below hB8.size (fun g hg => by simp only [Option.mem_toList] at hg; exact (hrow3.block g hg).1))
  have ht := (h.row.below hB9).tail hp
  rw [tvs_drop] at ht
  obtain ⟨X, hX⟩ : ∃ X : Option Addr, (if c1 = p then (A1 : Option Addr) else A1.map (·.add (p * 2))) = X := ⟨_, rfl⟩
  rw [hX] at ht
  obtain ⟨A5, c5, w10, hrun5, hrow5, hbt5, hA5⟩ := run_appE (P := Try.prog) w9 wc.heap.size 30 30 36 2 _ 16 Try.underlying30 info36 rfl (by omega) hrow4 ht (tvs_one _) (by omega) (by omega) hB9.size
  have hB10 : Below wc.heap.size wc w10 := hB9.trans (hbt5.below hB9.size (fun g hg => by simp only [Option.mem_toList] at hg; exact (hrow4.block g hg).1))
  refine ⟨w7, A3, c3, w8, w9, A4, c4, w10, A5, c5, X, hrun3, hw8, hrun4, hX, hrun5, (h.below hB7).hz, (h.below hB9).hx, (h.below hB10).hx, (h.below hB10).hy, ?_, (h.below hB10).bel, (Array.getElem?_eq_some_iff.1 h.hy).1⟩
  have e : tvs (L1.take p ++ ⟨td, ti⟩ :: L1.drop p) = tvs (L1.take p) ++ (⟨td, ti⟩ : Tm).vs ++ tvs (L1.drop p) := by rw [tvs_append, tvs_cons, List.append_assoc]
  show RowW w10 wc.heap.size 36 2 A5 _ c5 (tvs _)
  rw [e]
  exact hrow5
set_option maxHeartbeats 2000000 in
theorem rf_set_new {S : CS} (hok : S.Ok) (h : Tl w 0 A n c S.L) {i d : Int} (h1 : 1 ≤ d) (h2 : S.now + d ≤ 1152921504606846976) (hf : S.find i = none) (hl : S.L.length < S.most) : Calls Try.prog 22 #[RV S.now (S.most : Int) A n c, .int .i64 i, .int .i64 d] w (RfU w S.now (S.most : Int) A (S.laid i d).L (.int .i64 0)) := by
  have hln : S.L.length = n := by have := h.len; rw [tvs_len] at this; omega
  have hn : n ≤ 65536 := by have := hok.len; have := hok.m2; omega
  obtain ⟨w1, hw1⟩ : ∃ v, w.alloc (.cells (B42 S.now (S.most : Int) A n c) 42) = v := ⟨_, rfl⟩
  obtain ⟨w2, hw2⟩ : ∃ v, w1.alloc (.cells #[.int .i64 0, .int .i64 0, .slice none 0 0] 42) = v := ⟨_, rfl⟩
  obtain ⟨b, hb⟩ : ∃ b, w.heap.size = b := ⟨_, rfl⟩
  obtain ⟨b2, hbb⟩ : ∃ b, w1.heap.size = b := ⟨_, rfl⟩
  obtain ⟨hx2, hy2, hB2, hlt, hb2l, hx1, hbw⟩ := boxes2 hw1 hw2 hb hbb
  obtain ⟨⟨n0, n1, n2⟩, _⟩ := three42 hx2
  have g1' : decide (d < 1) = false := by simp; omega
  have g2' : decide (1152921504606846976 < d) = false := by have := hok.n0; simp; omega
  have g3' : decide (1152921504606846976 < S.now + d) = false := by simp; omega
  have hwr : IntKind.i64.wrap (S.now + d) = S.now + d := IntWalk.i64_in _ (by have := hok.n0; omega)
  have mixed : Try.prog.follows Departure.mixedOrders = true := by kernel_rfl
  have hq := idxL_none hf
  have hl' : decide ((S.most : Int) ≤ (n : Int)) = false := by simp; omega
  have hln' : decide (S.most ≤ n) = false := by simp; omega
  obtain ⟨L1, hL1⟩ : ∃ L1, S.L = L1 := ⟨_, rfl⟩
  obtain ⟨p, hp⟩ : ∃ p, placeOf ⟨S.now + d, i⟩ L1 = p := ⟨_, rfl⟩
  have HP : Hid (Srt L1 ∧ placeOf ⟨S.now + d, i⟩ L1 = p ∧ p ≤ n) := ⟨hL1 ▸ hok.srt, hp, by rw [← hp, ← hln, hL1]; exact placeOf_le _ _⟩
  have HL1 : Hid (del i S.L = L1) := (del_none (findD_none.1 hf)).trans hL1
  have HF := Lib.hid (And.intro h (And.intro hB2 (And.intro hx2 (And.intro hy2 (And.intro hbw (And.intro hlt (And.intro hq (And.intro hn (And.intro h1 (And.intro hL1 hln))))))))))
  clear h1 h2 hf hl hq hL1 hp
  clear h hln hn hx2 hy2 hB2 hlt hb2l hx1 hbw hok
  go_enter Try.func22, Try.ntmps22
  go_wp2_with fail
  (try rw [hw1]); (try rw [hw2]); (try rw [hb]); (try rw [hbb])
  refine (rf_find w2 S.now (S.most : Int) (HF.out.1.below HF.out.2.1) (by have := HF.out.2.2.2.2.2.2.2.1; omega) i HF.out.2.2.2.2.2.2.1).mono ?_
  rintro e w3 ⟨rfl, hB3⟩
  have hx3 := (hB3.block b (by have := (Array.getElem?_eq_some_iff.1 HF.out.2.2.1).1; exact this)).trans HF.out.2.2.1
  have hy3 := (hB3.block b2 (by have := (Array.getElem?_eq_some_iff.1 HF.out.2.2.2.1).1; exact this)).trans HF.out.2.2.2.1
  have hBB : Below w.heap.size w w3 := HF.out.2.1.trans (hB3.mono HF.out.2.1.size)
  obtain ⟨⟨m0, m1, m2⟩, _⟩ := three42 hx3
  have HS0 : Hid (SF0 w w3 b b2 S.now (S.most : Int) A n c L1) := ⟨hBB, hx3, hy3, by have := HF.out.1.below hBB; rw [HF.out.2.2.2.2.2.2.2.2.2.1] at this; exact this, by rw [← HF.out.2.2.2.2.2.2.2.2.2.1]; exact HF.out.2.2.2.2.2.2.2.2.2.2, HF.out.2.2.2.2.2.2.2.1, HF.out.2.2.2.2.2.1, HF.out.2.2.2.2.1⟩
  clear hx3 hy3 hBB hB3 n0 n1 n2 hw1 hw2 hb hbb
  obtain ⟨w5, hw5⟩ : ∃ v, w3.alloc (.cells #[.int .i64 (S.now + d), .int .i64 i] 36) = v := ⟨_, rfl⟩
  obtain ⟨b9, hb9⟩ : ∃ b9, w3.heap.size = b9 := ⟨_, rfl⟩
  obtain ⟨hB5, hz5⟩ := row36_new (t := ⟨S.now + d, i⟩) hw5
  rw [hb9] at hz5
  have HS5 : Hid (SF w w5 b b2 b9 S.now (S.most : Int) A n c (S.now + d) i L1) := HS0.out.next hB5 hz5
  clear hB5 hz5
  go_wp2
  (try rw [hw5]); (try rw [hb9])
  clear hw5 hb9
  go_loopw [10] (fun s10 wr => ∃ j : Nat, s10 = .int .i64 j ∧ Hid (j ≤ p) ∧ Hid (SF w wr b b2 b9 S.now (S.most : Int) A n c (S.now + d) i L1)) (fun s10 _ => p - (Go.RowKit.intOf s10).toNat)
  case atStart => exact ⟨0, rfl, (Nat.zero_le _ : 0 ≤ p), HS5.out⟩
  case round =>
    clear HS5
    obtain ⟨j, rfl, HJ, HR⟩ := hrel
    go_upto_region 10 with (fail)
    go_cut [88] from 51 to 87 (fun v wc => ∃ q : Bool, v = .bool q ∧ Hid (q = decide (j < p)) ∧ Hid (SF w wc b b2 b9 S.now (S.most : Int) A n c (S.now + d) i L1))
    case first =>
      obtain ⟨⟨_, _, k2⟩, _⟩ := three42 HR.out.hx
      obtain ⟨z0, z1⟩ := two36 HR.out.hz
      have hi1 : (0 : Int) ≤ (j : Int) := by omega
      by_cases hjn : j < n
      · obtain ⟨y, hy⟩ : ∃ y, L1[j]? = some y := ⟨_, List.getElem?_eq_getElem (by rw [HR.out.len]; exact hjn)⟩
        have hlt := lt_place HP.out.1 hy ⟨S.now + d, i⟩
        rw [HP.out.2.1] at hlt
        obtain ⟨r, o, hA, d0, d1, _⟩ := row_get HR.out.row hy
        subst hA
        have hi2 : (j : Int) < (n : Int) := by omega
        obtain ⟨yd, yi⟩ := y
        simp only at d0 d1
        have HLT := Lib.hid hlt
        clear hy hlt hjn
        by_cases e1 : yd < S.now + d
        · have HQ : Hid (true = decide (j < p)) := by have := HLT.out; simp [Tm.lt, e1] at this; show _ = _; simp [this]
          clear HLT
          go_quiet (fail)
          go_wp2_with fail
          go_meet
          exact ⟨true, rfl, HQ.out, HR.out.drewN nq⟩
        · have e1' : decide (yd < S.now + d) = false := by simpa using e1
          by_cases e2 : yd = S.now + d
          · subst e2
            have e2' : (S.now + d == S.now + d) = true := by simp
            by_cases e3 : yi < i
            · have HQ : Hid (true = decide (j < p)) := by have := HLT.out; simp [Tm.lt, e3] at this; show _ = _; simp [this]
              clear HLT e1
              go_quiet (fail)
              go_wp2_with fail
              go_meet
              exact ⟨true, rfl, HQ.out, HR.out.drewN nq⟩
            · have e3' : decide (yi < i) = false := by simpa using e3
              have HQ : Hid (false = decide (j < p)) := by have := HLT.out; simp [Tm.lt, e3] at this; show _ = _; simp; omega
              clear HLT e1 e3
              go_quiet (fail)
              go_wp2_with fail
              go_meet
              exact ⟨false, rfl, HQ.out, HR.out.drewN nq⟩
          · have e2' : (yd == S.now + d) = false := by simpa using e2
            have HQ : Hid (false = decide (j < p)) := by have := HLT.out; simp [Tm.lt, e1, e2] at this; show _ = _; simp; omega
            clear HLT e1 e2
            go_quiet (fail)
            go_wp2_with fail
            go_meet
            exact ⟨false, rfl, HQ.out, HR.out.drewN nq⟩
      · have hge : decide ((j : Int) < (n : Int)) = false := by simp; omega
        have hgen : decide (j < n) = false := by simp; omega
        have HQ : Hid (false = decide (j < p)) := by
          have h1 := HP.out.2.2
          show _ = _
          simp
          omega
        clear hjn
        go_quiet (fail)
        go_wp2_with fail
        go_meet
        exact ⟨false, rfl, HQ.out, HR.out.drewN nq⟩
    case rest =>
      obtain ⟨q, rfl, HQ, HC⟩ := hcut
      clear HR
      cases q with
      | true =>
        have hjp : j < p := by have := HQ.out; simpa using this.symm
        have hwj : IntKind.i64.wrap ((j : Int) + 1) = (j : Int) + 1 := IntWalk.i64_in _ (by have := HP.out.2.2; have := HC.out.n1l; omega)
        have HJP := Lib.hid hjp
        clear hjp HQ
        go_wp2
        go_roundw
        case rel => exact ⟨j + 1, by go_num, (HJP.out : j + 1 ≤ p), HC.out⟩
        case measure =>
          have := HJP.out
          simp [Go.RowKit.intOf]; omega
      | false =>
        have hjp : j = p := by have h1 : j ≤ p := HJ.out; have := HQ.out; simp at this; omega
        subst hjp
        clear HQ HJ
        obtain ⟨w7, A3, c3, w8, w9, A4, c4, w10, A5, c5, X, hr1, hw8, hr2, hX, hr3, hend⟩ := set_apps HC.out HP.out.2.2
        have s1 := fun W => slice_hk (P := Try.prog) 30 Try.underlying30 size36 A HC.out.row.addr n c j (Nat.le_trans HP.out.2.2 HC.out.row.nc.1) W
        have s2 := fun W => slice_lk (P := Try.prog) 30 Try.underlying30 size36 A n c j HP.out.2.2 W
        rw [hX] at s2
        obtain ⟨⟨_, _, k2⟩, _⟩ := three42 HC.out.hx
        obtain ⟨⟨_, _, l2⟩, _⟩ := three42 hend.x9
        obtain ⟨y70, y71⟩ := two36 hend.z7
        obtain ⟨⟨u0, u1, u2⟩, _, _, fu2⟩ := three42 hend.x10
        obtain ⟨⟨v0, v1, v2⟩, fv0, fv1, fv2⟩ := three42 hend.y10
        have hne : b2 ≠ b := by have := HC.out.lt; omega
        have hne' : b ≠ b2 := by have := HC.out.lt; omega
        have HRUN := Lib.hid (And.intro hr1 (And.intro hr2 hr3))
        have HEND := Lib.hid hend
        obtain ⟨n5, hn5⟩ : ∃ n5, j + 1 + (n - j) = n5 := ⟨_, rfl⟩
        have HN5 := Lib.hid hn5
        rw [hn5] at HRUN
        clear hr1 hr2 hr3 hX hend hn5
        go_wp2_with (first
          | (at_builtin; refine Lib.wpList_append_run _ rfl _ _ _ _ rfl (.slice none 0 0) (.slice A j c) rfl rfl _ _ HRUN.out.1 ?_)
          | (at_builtin; refine Lib.wpList_append_run _ rfl _ _ _ _ rfl (.slice A3 j c3) (.slice (some ⟨w7.heap.size, 0, none⟩) 1 1) rfl rfl _ _ HRUN.out.2.1 ?_)
          | (at_builtin; refine Lib.wpList_append_run _ rfl _ _ _ _ rfl (.slice A4 (j + 1) c4) (.slice X (n - j) (c - j)) rfl rfl _ _ HRUN.out.2.2 ?_))
        have hw := wrote2 (v := .slice A5 n5 c5) (v0 := .int .i64 S.now) (v1 := .int .i64 (S.most : Int)) (v2 := .slice A5 n5 c5) HEND.out.x10 HEND.out.y10 hne 2
        have hlo := HC.out.bw
        have hlt := HC.out.lt
        have hb2s := HEND.out.b2l
        have hlow := HEND.out.bel
        have hrow := HEND.out.row
        rw [HN5.out] at hrow
        refine bodyPost_ret (v := .tuple #[RV S.now (S.most : Int) A5 n5 c5, .int .i64 0]) ?_ rfl ⟨A5, n5, c5, rfl, ?_, .inr (fun k hk => Nat.le_trans HC.out.bel.size (hrow.block k hk).1), hlow.trans (hw.2.below hlow.size (by simp; omega))⟩
        · rw [results_cell_tmp rfl]
          simp [asAddr, Result.andThen, load42 hw.1]
        · have e : (S.laid i d).L = L1.take j ++ ⟨S.now + d, i⟩ :: L1.drop j := by
            rw [← HP.out.2.1, ← ins_take HP.out.1, ← HL1.out]
            rfl
          rw [e]
          have := hrow.but hw.2 (fun k hk hm => by
            have h1 := (hrow.block k hk).1
            simp at hm
            omega)
          exact this.lower (Nat.zero_le _)
set_option maxHeartbeats 2000000 in
theorem rf_set_old {S : CS} (hok : S.Ok) (h : Tl w 0 A n c S.L) {i d : Int} (h1 : 1 ≤ d) (h2 : S.now + d ≤ 1152921504606846976) {e0 : Int} (hf : S.find i = some e0) : Calls Try.prog 22 #[RV S.now (S.most : Int) A n c, .int .i64 i, .int .i64 d] w (RfU w S.now (S.most : Int) A (S.laid i d).L (.int .i64 0)) := by
  have hln : S.L.length = n := by have := h.len; rw [tvs_len] at this; omega
  have hn : n ≤ 65536 := by have := hok.len; have := hok.m2; omega
  obtain ⟨w1, hw1⟩ : ∃ v, w.alloc (.cells (B42 S.now (S.most : Int) A n c) 42) = v := ⟨_, rfl⟩
  obtain ⟨w2, hw2⟩ : ∃ v, w1.alloc (.cells #[.int .i64 0, .int .i64 0, .slice none 0 0] 42) = v := ⟨_, rfl⟩
  obtain ⟨b, hb⟩ : ∃ b, w.heap.size = b := ⟨_, rfl⟩
  obtain ⟨b2, hbb⟩ : ∃ b, w1.heap.size = b := ⟨_, rfl⟩
  obtain ⟨hx2, hy2, hB2, hlt, hb2l, hx1, hbw⟩ := boxes2 hw1 hw2 hb hbb
  obtain ⟨⟨n0, n1, n2⟩, _⟩ := three42 hx2
  have g1' : decide (d < 1) = false := by simp; omega
  have g2' : decide (1152921504606846976 < d) = false := by have := hok.n0; simp; omega
  have g3' : decide (1152921504606846976 < S.now + d) = false := by simp; omega
  have hwr : IntKind.i64.wrap (S.now + d) = S.now + d := IntWalk.i64_in _ (by have := hok.n0; omega)
  have mixed : Try.prog.follows Departure.mixedOrders = true := by kernel_rfl
  obtain ⟨q, hq, hql, hdel⟩ := idxL_some hok hf
  have hq0 : (0 : Int) ≤ (q : Int) := by omega
  obtain ⟨L1, hL1⟩ : ∃ L1, del i S.L = L1 := ⟨_, rfl⟩
  obtain ⟨p, hp⟩ : ∃ p, placeOf ⟨S.now + d, i⟩ L1 = p := ⟨_, rfl⟩
  have hdel' : S.L.take q ++ S.L.drop (q + 1) = L1 := by rw [← hL1]; exact hdel.symm
  have HP0 : Hid (Srt L1 ∧ placeOf ⟨S.now + d, i⟩ L1 = p ∧ p ≤ L1.length) := ⟨hL1 ▸ hok.srt.del i, hp, by rw [← hp]; exact placeOf_le _ _⟩
  have HL1 := Lib.hid hL1
  have HF := Lib.hid (And.intro h (And.intro hB2 (And.intro hx2 (And.intro hy2 (And.intro hbw (And.intro hlt (And.intro hq (And.intro hn (And.intro (by omega : q < n) hdel')))))))))
  clear h1 h2 hf hq hL1 hp hql hdel hdel'
  clear h hln hn hx2 hy2 hB2 hlt hb2l hx1 hbw hok
  go_enter Try.func22, Try.ntmps22
  go_wp2_with fail
  (try rw [hw1]); (try rw [hw2]); (try rw [hb]); (try rw [hbb])
  refine (rf_find w2 S.now (S.most : Int) (HF.out.1.below HF.out.2.1) (by have := HF.out.2.2.2.2.2.2.2.1; omega) i HF.out.2.2.2.2.2.2.1).mono ?_
  rintro e w3 ⟨rfl, hB3⟩
  have hx3 := (hB3.block b (by have := (Array.getElem?_eq_some_iff.1 HF.out.2.2.1).1; exact this)).trans HF.out.2.2.1
  have hy3 := (hB3.block b2 (by have := (Array.getElem?_eq_some_iff.1 HF.out.2.2.2.1).1; exact this)).trans HF.out.2.2.2.1
  have hBB : Below w.heap.size w w3 := HF.out.2.1.trans (hB3.mono HF.out.2.1.size)
  obtain ⟨⟨m0, m1, m2⟩, _⟩ := three42 hx3
  have HG := Lib.hid (And.intro hBB (And.intro hx3 hy3))
  clear hx3 hy3 hBB hB3 n0 n1 n2 hw1 hw2 hb hbb
  go_wp2_with fail
  refine (rf_without w3 S.now (S.most : Int) (HF.out.1.below HG.out.1) (by have := HF.out.2.2.2.2.2.2.2.1; omega) HF.out.2.2.2.2.2.2.2.2.1).mono ?_
  rintro e w4 ⟨A4, n4, c4, rfl, hT4, hB4⟩
  have hx4 := (hB4.block b (by have := (Array.getElem?_eq_some_iff.1 HG.out.2.1).1; exact this)).trans HG.out.2.1
  have hy4 := (hB4.block b2 (by have := (Array.getElem?_eq_some_iff.1 HG.out.2.2).1; exact this)).trans HG.out.2.2
  rw [HF.out.2.2.2.2.2.2.2.2.2] at hT4
  have hn4 : L1.length = n4 := by have := hT4.len; rw [tvs_len] at this; omega
  obtain ⟨w4', hw4'⟩ : ∃ v, ((w4.setCell ⟨b, 0, none⟩ (.int .i64 S.now)).setCell ⟨b, 1, none⟩ (.int .i64 (S.most : Int))).setCell ⟨b, 2, none⟩ (.slice A4 n4 c4) = v := ⟨_, rfl⟩
  have hbt4 : But [b] w4 w4' := hw4' ▸ (((But.refl _ w4).setCell (by simp) _).setCell (by simp) _).setCell (by simp) _
  have hr4 := row3 (v0 := .int .i64 S.now) (v1 := .int .i64 (S.most : Int)) (v2 := .slice A4 n4 c4) hx4
  rw [hw4'] at hr4
  have HS0 : Hid (SF0 w w4' b b2 S.now (S.most : Int) A4 n4 c4 L1) := by
    have h1 : Below w.heap.size w w4 := HG.out.1.trans (hB4.mono HG.out.1.size)
    have h2 := (Array.getElem?_eq_some_iff.1 HG.out.2.1).1
    refine ⟨h1.trans (hbt4.below h1.size (by simp; exact HF.out.2.2.2.2.1)), hr4, hbt4.cells hy4 (by have := HF.out.2.2.2.2.2.1; simp; omega), ?_, hn4, ?_, HF.out.2.2.2.2.2.1, HF.out.2.2.2.2.1⟩
    · refine (hT4.lower (Nat.zero_le _)).but hbt4 (fun j hj hm => ?_)
      have := (hT4.block j hj).1
      simp at hm
      omega
    · have h3 : L1.length ≤ S.L.length := by rw [← HL1.out]; exact List.length_filter_le _ _
      have h4 := HF.out.1.len
      rw [tvs_len] at h4
      have := HF.out.2.2.2.2.2.2.2.1
      omega
  have HP : Hid (Srt L1 ∧ placeOf ⟨S.now + d, i⟩ L1 = p ∧ p ≤ n4) := ⟨HP0.out.1, HP0.out.2.1, by rw [← hn4]; exact HP0.out.2.2⟩
  obtain ⟨⟨o0, o1, o2⟩, fo0, fo1, fo2⟩ := three42 hx4
  obtain ⟨⟨l0, l1, l2⟩, _⟩ := three42 HS0.out.hx
  clear hT4 hB4 hx4 hy4 hn4 hbt4 hr4 HP0 m0 m1 m2
  obtain ⟨w5, hw5⟩ : ∃ v, w4'.alloc (.cells #[.int .i64 (S.now + d), .int .i64 i] 36) = v := ⟨_, rfl⟩
  obtain ⟨b9, hb9⟩ : ∃ b9, w4'.heap.size = b9 := ⟨_, rfl⟩
  obtain ⟨hB5, hz5⟩ := row36_new (t := ⟨S.now + d, i⟩) hw5
  rw [hb9] at hz5
  have HS5 : Hid (SF w w5 b b2 b9 S.now (S.most : Int) A4 n4 c4 (S.now + d) i L1) := HS0.out.next hB5 hz5
  clear hB5 hz5
  go_wp2
  (try rw [hw5]); (try rw [hb9])
  clear hw5 hb9
  go_loopw [10] (fun s10 wr => ∃ j : Nat, s10 = .int .i64 j ∧ Hid (j ≤ p) ∧ Hid (SF w wr b b2 b9 S.now (S.most : Int) A4 n4 c4 (S.now + d) i L1)) (fun s10 _ => p - (Go.RowKit.intOf s10).toNat)
  case atStart => exact ⟨0, rfl, (Nat.zero_le _ : 0 ≤ p), HS5.out⟩
  case round =>
    clear HS5
    obtain ⟨j, rfl, HJ, HR⟩ := hrel
    go_upto_region 10 with (fail)
    go_cut [88] from 51 to 87 (fun v wc => ∃ q : Bool, v = .bool q ∧ Hid (q = decide (j < p)) ∧ Hid (SF w wc b b2 b9 S.now (S.most : Int) A4 n4 c4 (S.now + d) i L1))
    case first =>
      obtain ⟨⟨_, _, k2⟩, _⟩ := three42 HR.out.hx
      obtain ⟨z0, z1⟩ := two36 HR.out.hz
      have hi1 : (0 : Int) ≤ (j : Int) := by omega
      by_cases hjn : j < n4
      · obtain ⟨y, hy⟩ : ∃ y, L1[j]? = some y := ⟨_, List.getElem?_eq_getElem (by rw [HR.out.len]; exact hjn)⟩
        have hlt := lt_place HP.out.1 hy ⟨S.now + d, i⟩
        rw [HP.out.2.1] at hlt
        obtain ⟨r, o, hA, d0, d1, _⟩ := row_get HR.out.row hy
        subst hA
        have hi2 : (j : Int) < (n4 : Int) := by omega
        obtain ⟨yd, yi⟩ := y
        simp only at d0 d1
        have HLT := Lib.hid hlt
        clear hy hlt hjn
        by_cases e1 : yd < S.now + d
        · have HQ : Hid (true = decide (j < p)) := by have := HLT.out; simp [Tm.lt, e1] at this; show _ = _; simp [this]
          clear HLT
          go_quiet (fail)
          go_wp2_with fail
          go_meet
          exact ⟨true, rfl, HQ.out, HR.out.drewN nq⟩
        · have e1' : decide (yd < S.now + d) = false := by simpa using e1
          by_cases e2 : yd = S.now + d
          · subst e2
            have e2' : (S.now + d == S.now + d) = true := by simp
            by_cases e3 : yi < i
            · have HQ : Hid (true = decide (j < p)) := by have := HLT.out; simp [Tm.lt, e3] at this; show _ = _; simp [this]
              clear HLT e1
              go_quiet (fail)
              go_wp2_with fail
              go_meet
              exact ⟨true, rfl, HQ.out, HR.out.drewN nq⟩
            · have e3' : decide (yi < i) = false := by simpa using e3
              have HQ : Hid (false = decide (j < p)) := by have := HLT.out; simp [Tm.lt, e3] at this; show _ = _; simp; omega
              clear HLT e1 e3
              go_quiet (fail)
              go_wp2_with fail
              go_meet
              exact ⟨false, rfl, HQ.out, HR.out.drewN nq⟩
          · have e2' : (yd == S.now + d) = false := by simpa using e2
            have HQ : Hid (false = decide (j < p)) := by have := HLT.out; simp [Tm.lt, e1, e2] at this; show _ = _; simp; omega
            clear HLT e1 e2
            go_quiet (fail)
            go_wp2_with fail
            go_meet
            exact ⟨false, rfl, HQ.out, HR.out.drewN nq⟩
      · have hge : decide ((j : Int) < (n4 : Int)) = false := by simp; omega
        have hgen : decide (j < n4) = false := by simp; omega
        have HQ : Hid (false = decide (j < p)) := by
          have h1 := HP.out.2.2
          show _ = _
          simp
          omega
        clear hjn
        go_quiet (fail)
        go_wp2_with fail
        go_meet
        exact ⟨false, rfl, HQ.out, HR.out.drewN nq⟩
    case rest =>
      obtain ⟨q, rfl, HQ, HC⟩ := hcut
      clear HR
      cases q with
      | true =>
        have hjp : j < p := by have := HQ.out; simpa using this.symm
        have hwj : IntKind.i64.wrap ((j : Int) + 1) = (j : Int) + 1 := IntWalk.i64_in _ (by have := HP.out.2.2; have := HC.out.n1l; omega)
        have HJP := Lib.hid hjp
        clear hjp HQ
        go_wp2
        go_roundw
        case rel => exact ⟨j + 1, by go_num, (HJP.out : j + 1 ≤ p), HC.out⟩
        case measure =>
          have := HJP.out
          simp [Go.RowKit.intOf]; omega
      | false =>
        have hjp : j = p := by have h1 : j ≤ p := HJ.out; have := HQ.out; simp at this; omega
        subst hjp
        clear HQ HJ
        obtain ⟨w7, A3, c3, w8, w9, A4x, c4x, w10, A5, c5, X, hr1, hw8, hr2, hX, hr3, hend⟩ := set_apps HC.out HP.out.2.2
        have s1 := fun W => slice_hk (P := Try.prog) 30 Try.underlying30 size36 A4 HC.out.row.addr n4 c4 j (Nat.le_trans HP.out.2.2 HC.out.row.nc.1) W
        have s2 := fun W => slice_lk (P := Try.prog) 30 Try.underlying30 size36 A4 n4 c4 j HP.out.2.2 W
        rw [hX] at s2
        obtain ⟨⟨_, _, k2⟩, _⟩ := three42 HC.out.hx
        obtain ⟨⟨_, _, l2⟩, _⟩ := three42 hend.x9
        obtain ⟨y70, y71⟩ := two36 hend.z7
        obtain ⟨⟨u0, u1, u2⟩, _, _, fu2⟩ := three42 hend.x10
        obtain ⟨⟨v0, v1, v2⟩, fv0, fv1, fv2⟩ := three42 hend.y10
        have hne : b2 ≠ b := by have := HC.out.lt; omega
        have hne' : b ≠ b2 := by have := HC.out.lt; omega
        have HRUN := Lib.hid (And.intro hr1 (And.intro hr2 hr3))
        have HEND := Lib.hid hend
        obtain ⟨n5, hn5⟩ : ∃ n5, j + 1 + (n4 - j) = n5 := ⟨_, rfl⟩
        have HN5 := Lib.hid hn5
        rw [hn5] at HRUN
        clear hr1 hr2 hr3 hX hend hn5
        go_wp2_with (first
          | (at_builtin; refine Lib.wpList_append_run _ rfl _ _ _ _ rfl (.slice none 0 0) (.slice A4 j c4) rfl rfl _ _ HRUN.out.1 ?_)
          | (at_builtin; refine Lib.wpList_append_run _ rfl _ _ _ _ rfl (.slice A3 j c3) (.slice (some ⟨w7.heap.size, 0, none⟩) 1 1) rfl rfl _ _ HRUN.out.2.1 ?_)
          | (at_builtin; refine Lib.wpList_append_run _ rfl _ _ _ _ rfl (.slice A4x (j + 1) c4x) (.slice X (n4 - j) (c4 - j)) rfl rfl _ _ HRUN.out.2.2 ?_))
        have hw := wrote2 (v := .slice A5 n5 c5) (v0 := .int .i64 S.now) (v1 := .int .i64 (S.most : Int)) (v2 := .slice A5 n5 c5) HEND.out.x10 HEND.out.y10 hne 2
        have hlo := HC.out.bw
        have hlt := HC.out.lt
        have hb2s := HEND.out.b2l
        have hlow := HEND.out.bel
        have hrow := HEND.out.row
        rw [HN5.out] at hrow
        refine bodyPost_ret (v := .tuple #[RV S.now (S.most : Int) A5 n5 c5, .int .i64 0]) ?_ rfl ⟨A5, n5, c5, rfl, ?_, .inr (fun k hk => Nat.le_trans HC.out.bel.size (hrow.block k hk).1), hlow.trans (hw.2.below hlow.size (by simp; omega))⟩
        · rw [results_cell_tmp rfl]
          simp [asAddr, Result.andThen, load42 hw.1]
        · have e : (S.laid i d).L = L1.take j ++ ⟨S.now + d, i⟩ :: L1.drop j := by
            rw [← HP.out.2.1, ← ins_take HP.out.1, ← HL1.out]
            rfl
          rw [e]
          have := hrow.but hw.2 (fun k hk hm => by
            have h1 := (hrow.block k hk).1
            simp at hm
            omega)
          exact this.lower (Nat.zero_le _)
theorem rf_set {S : CS} (hok : S.Ok) (h : Tl w 0 A n c S.L) (i d : Int) : Calls Try.prog 22 #[RV S.now (S.most : Int) A n c, .int .i64 i, .int .i64 d] w (RfU w S.now (S.most : Int) A (S.set i d).L (.int .i64 (S.setE i d))) := by
  by_cases h1 : d < 1 ∨ 1152921504606846976 - S.now < d
  · have e1 : S.setE i d = 2 := by unfold CS.setE; rw [if_pos h1]
    have e2 : S.set i d = S := by unfold CS.set; rw [e1]; rfl
    rw [e1, e2]
    exact rf_set_arg w hok h h1
  · cases hf : S.find i with
    | none =>
      by_cases hl : S.most ≤ S.L.length
      · have e1 : S.setE i d = 71 := by unfold CS.setE; rw [if_neg h1, if_pos ⟨hf, hl⟩]
        have e2 : S.set i d = S := by unfold CS.set; rw [e1]; rfl
        rw [e1, e2]
        exact rf_set_full w hok h (by omega) (by omega) hf hl
      · have e1 : S.setE i d = 0 := by unfold CS.setE; rw [if_neg h1, if_neg (fun h => hl h.2)]
        have e2 : S.set i d = S.laid i d := by unfold CS.set; rw [e1]; rfl
        rw [e1, e2]
        exact rf_set_new w hok h (by omega) (by omega) hf (by omega)
    | some e =>
      have e1 : S.setE i d = 0 := by unfold CS.setE; rw [if_neg h1, if_neg (fun h => by rw [hf] at h; cases h.1)]
      have e2 : S.set i d = S.laid i d := by unfold CS.set; rw [e1]; rfl
      rw [e1, e2]
      exact rf_set_old w hok h (by omega) (by omega) hf
end
end Go.Proofs.Ytncjbohpaanpaaa
