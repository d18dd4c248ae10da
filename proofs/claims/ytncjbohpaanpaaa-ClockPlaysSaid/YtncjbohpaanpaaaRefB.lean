/- The reference's told, Tick, Skip, Unset, New. Made by gref8b.py. -/
import Derived.Test.YtncjbohpaanpaaaRefA
import Derived.Test.YtncjbohpaanpaaaTwoC
namespace Go.Proofs.Ytncjbohpaanpaaa
open Go.RowKit Go.Coop Go.Maps
set_option maxRecDepth 100000
abbrev B42 (now most : Int) (A : Option Addr) (n c : Nat) : Array Value := #[.int .i64 now, .int .i64 most, .slice A n c]
/-- two boxes one behind the other -/
theorem boxes2 {w w1 w2 : World} {X Y : Array Value} {b b2 : Nat} (h1 : w.alloc (.cells X 42) = w1) (h2 : w1.alloc (.cells Y 42) = w2) (hb : w.heap.size = b) (hbb : w1.heap.size = b2) :
    w2.heap[b]? = some (.cells X 42 (0, 0)) ∧ w2.heap[b2]? = some (.cells Y 42 (0, 0)) ∧ Below w.heap.size w w2 ∧ b < b2 ∧ b2 < w2.heap.size ∧ w1.heap[b]? = some (.cells X 42 (0, 0)) ∧ w.heap.size ≤ b := by
  obtain ⟨hb1, hx1⟩ := box_new h1
  obtain ⟨hb2, hx2⟩ := box_new h2
  rw [hb] at hx1
  rw [hbb] at hx2
  have hlt := (Array.getElem?_eq_some_iff.1 hx1).1
  exact ⟨(hb2.block _ hlt).trans hx1, hx2, hb1.trans (hb2.mono hb1.size), by omega, (Array.getElem?_eq_some_iff.1 hx2).1, hx1, by omega⟩
/-- what told leaves -/
def ToldP (w : World) (now most : Int) (A : Option Addr) (c : Nat) (l1 l2 : List Tm) (e : Ending) (w' : World) : Prop :=
  ∃ X n' c' k, e = .returned (.tuple #[RV now most X n' c', .slice A k c]) ∧ Tl w' 0 X n' c' l2 ∧ Tl w' 0 A k c l1 ∧ X.map (·.block) = A.map (·.block) ∧ Below w.heap.size w w'
section
variable (w : World) {A : Option Addr} {n c : Nat} {L : List Tm} (now most : Int)
set_option maxHeartbeats 1000000 in
theorem rf_told (h : Tl w 0 A n c L) (hn : n ≤ 1000000) (hs : Srt L) {k : Nat} (hk : (L.countP fun t => decide (t.due ≤ now)) = k) : Calls Try.prog 37 #[RV now most A n c] w (ToldP w now most A c (L.take k) (L.drop k)) := by
  have hln : L.length = n := by have := h.len; rw [tvs_len] at this; omega
  have mixed : Try.prog.follows Departure.mixedOrders = true := by kernel_rfl
  have hkn : k ≤ n := by rw [← hk, ← hln]; exact List.countP_le_length
  obtain ⟨w1, hw1⟩ : ∃ v, w.alloc (.cells (B42 now most A n c) 42) = v := ⟨_, rfl⟩
  obtain ⟨w2, hw2⟩ : ∃ v, w1.alloc (.cells #[.int .i64 0, .int .i64 0, .slice none 0 0] 42) = v := ⟨_, rfl⟩
  obtain ⟨b, hb⟩ : ∃ b, w.heap.size = b := ⟨_, rfl⟩
  obtain ⟨b2, hbb⟩ : ∃ b, w1.heap.size = b := ⟨_, rfl⟩
  obtain ⟨hx2, hy2, hB2, hlt, hb2l, hx1, hbw⟩ := boxes2 hw1 hw2 hb hbb
  have HL := Lib.hid (And.intro h (And.intro hln (And.intro hs (And.intro hkn (And.intro hk (And.intro hlt (And.intro hb2l hbw)))))))
  have H2 : Hid (Below w.heap.size w w2 ∧ w2.heap[b]? = some (.cells (B42 now most A n c) 42 (0, 0)) ∧ w2.heap[b2]? = some (.cells #[.int .i64 0, .int .i64 0, .slice none 0 0] 42 (0, 0))) := ⟨hB2, hx2, hy2⟩
  clear h hln hs hk hkn hx2 hy2 hB2 hlt hb2l hx1 hbw
  go_enter Try.func37, Try.ntmps37
  go_wp2
  (try rw [hw1]); (try rw [hw2]); (try rw [hb]); (try rw [hbb])
  clear hw1 hw2 hb hbb
  go_loopw [4] (fun s4 wr => ∃ j : Nat, s4 = .int .i64 j ∧ Hid (j ≤ k) ∧ Hid (Below w.heap.size w wr ∧ wr.heap[b]? = some (.cells (B42 now most A n c) 42 (0, 0)) ∧ wr.heap[b2]? = some (.cells #[.int .i64 0, .int .i64 0, .slice none 0 0] 42 (0, 0)))) (fun s4 _ => k - (Go.RowKit.intOf s4).toNat)
  case atStart => exact ⟨0, rfl, (Nat.zero_le _ : 0 ≤ k), H2.out⟩
  case round =>
    clear H2
    obtain ⟨j, rfl, HJ, HR⟩ := hrel
    obtain ⟨⟨n0, _, n2⟩, _⟩ := three42 HR.out.2.1
    by_cases hjk : j < k
    · obtain ⟨y, hy⟩ : ∃ y, L[j]? = some y := ⟨_, List.getElem?_eq_getElem (by have := HL.out.2.1; have := HL.out.2.2.2.1; omega)⟩
      have hdue := due_at HL.out.2.2.1 now hy
      rw [HL.out.2.2.2.2.1, decide_eq_true hjk] at hdue
      obtain ⟨r, o, hA, d0, d1, _⟩ := row_get (HL.out.1.below HR.out.1) hy
      subst hA
      have hi1 : (0 : Int) ≤ (j : Int) := by omega
      have hi2 : (j : Int) < (n : Int) := by have := HL.out.2.2.2.1; omega
      have hw1 : IntKind.i64.wrap ((j : Int) + 1) = (j : Int) + 1 := IntWalk.i64_in _ (by omega)
      have HY := Lib.hid hjk
      clear hy hjk
      go_wp2
      go_quiet (fail)
      go_wp2
      go_roundw
      case rel =>
        have hbq : Below wr.heap.size wr (wr.drewN nq) := ⟨rfl, rfl, rfl, Nat.le_refl _, fun _ _ => rfl⟩
        exact ⟨j + 1, by go_num, (HY.out : j + 1 ≤ k), HR.out.1.trans (hbq.mono HR.out.1.size), HR.out.2⟩
      case measure =>
        have := HY.out
        simp [Go.RowKit.intOf]; omega
    · obtain rfl : j = k := by have : j ≤ k := HJ.out; omega
      by_cases hlt : j < n
      · obtain ⟨y, hy⟩ : ∃ y, L[j]? = some y := ⟨_, List.getElem?_eq_getElem (by have := HL.out.2.1; omega)⟩
        have hdue := due_at HL.out.2.2.1 now hy
        rw [HL.out.2.2.2.2.1, decide_eq_false hjk] at hdue
        obtain ⟨r, o, hA, d0, d1, _⟩ := row_get (HL.out.1.below HR.out.1) hy
        subst hA
        have hi1 : (0 : Int) ≤ (j : Int) := by omega
        have hi2 : (j : Int) < (n : Int) := by omega
        clear hy hjk hlt
        go_wp2
        go_quiet (fail)
        obtain ⟨w4, hw4⟩ : ∃ v, wr.drewN nq = v := ⟨_, rfl⟩
        have hbq : Below wr.heap.size wr w4 := hw4 ▸ ⟨rfl, rfl, rfl, Nat.le_refl _, fun _ _ => rfl⟩
        have hx4 := (hbq.block b (by have := (Array.getElem?_eq_some_iff.1 HR.out.2.1).1; exact this)).trans HR.out.2.1
        have hy4 := (hbq.block b2 (by have := (Array.getElem?_eq_some_iff.1 HR.out.2.2).1; exact this)).trans HR.out.2.2
        have hB4 : Below w.heap.size w w4 := HR.out.1.trans (hbq.mono HR.out.1.size)
        rw [hw4]
        obtain ⟨⟨m0, m1, m2⟩, _, _, fm2⟩ := three42 hx4
        obtain ⟨⟨p0, p1, p2⟩, fp0, fp1, fp2⟩ := three42 hy4
        have hne : b2 ≠ b := by have := HL.out.2.2.2.2.2.1; omega
        have hne' : b ≠ b2 := by have := HL.out.2.2.2.2.2.1; omega
        have hhd := row_head HL.out.1 HL.out.2.2.2.1
        rw [tvs_take] at hhd
        have htl := HL.out.1.tail HL.out.2.2.2.1
        rw [tvs_drop] at htl
        have s1 := fun W => slice_hk (P := Try.prog) 30 Try.underlying30 size36 (some ⟨r, o, none⟩) HL.out.1.addr n c j (Nat.le_trans HL.out.2.2.2.1 HL.out.1.nc.1) W
        have s2 := fun W => slice_lk (P := Try.prog) 30 Try.underlying30 size36 (some ⟨r, o, none⟩) n c j HL.out.2.2.2.1 W
        obtain ⟨X, hX⟩ : ∃ X : Option Addr, (if c = j then ((some ⟨r, o, none⟩) : Option Addr) else ((some ⟨r, o, none⟩) : Option Addr).map (·.add (j * 2))) = X := ⟨_, rfl⟩
        rw [hX] at s2 htl
        have hXb : X.map (·.block) = ((some ⟨r, o, none⟩) : Option Addr).map (·.block) := by
          rw [← hX]
          split
          · rfl
          · exact map_add _ _
        have HE := Lib.hid (And.intro hx4 (And.intro hy4 (And.intro hB4 (And.intro hhd (And.intro htl (And.intro hXb hbq))))))
        clear hw4 hbq hx4 hy4 hB4 hhd htl hX hXb HR
        go_wp2
        have hw := wrote2 (v := .slice X (n - j) (c - j)) (v0 := .int .i64 now) (v1 := .int .i64 most) (v2 := .slice X (n - j) (c - j)) HE.out.1 HE.out.2.1 hne 2
        refine bodyPost_ret (v := .tuple #[RV now most X (n - j) (c - j), .slice (some ⟨r, o, none⟩) j c]) ?_ rfl ⟨X, n - j, c - j, j, rfl, ?_, ?_, HE.out.2.2.2.2.2.1, ?_⟩
        · rw [results_cell_tmp rfl]
          simp [asAddr, Result.andThen, load42 hw.1]
        · have h1 := HE.out.2.2.2.2.1.below HE.out.2.2.1
          exact h1.but hw.2 (fun j hj hm => by
            have h2 := (HE.out.2.2.2.2.1.block j hj).2
            have h3 := HL.out.2.2.2.2.2.2.2
            have h4 := HL.out.2.2.2.2.2.1
            simp at hm
            omega)
        · have h1 := HE.out.2.2.2.1.below HE.out.2.2.1
          exact h1.but hw.2 (fun j hj hm => by
            have h2 := (HE.out.2.2.2.1.block j hj).2
            have h3 := HL.out.2.2.2.2.2.2.2
            have h4 := HL.out.2.2.2.2.2.1
            simp at hm
            omega)
        · exact HE.out.2.2.1.trans (hw.2.below HE.out.2.2.1.size (by have := HL.out.2.2.2.2.2.2.2; have := HL.out.2.2.2.2.2.1; simp; omega))
      · have hge : decide ((j : Int) < (n : Int)) = false := by simp; omega
        have hge2 : decide (j < n) = false := by simp; omega
        clear hjk hlt
        go_wp2
        go_quiet (fail)
        obtain ⟨w4, hw4⟩ : ∃ v, wr.drewN nq = v := ⟨_, rfl⟩
        have hbq : Below wr.heap.size wr w4 := hw4 ▸ ⟨rfl, rfl, rfl, Nat.le_refl _, fun _ _ => rfl⟩
        have hx4 := (hbq.block b (by have := (Array.getElem?_eq_some_iff.1 HR.out.2.1).1; exact this)).trans HR.out.2.1
        have hy4 := (hbq.block b2 (by have := (Array.getElem?_eq_some_iff.1 HR.out.2.2).1; exact this)).trans HR.out.2.2
        have hB4 : Below w.heap.size w w4 := HR.out.1.trans (hbq.mono HR.out.1.size)
        rw [hw4]
        obtain ⟨⟨m0, m1, m2⟩, _, _, fm2⟩ := three42 hx4
        obtain ⟨⟨p0, p1, p2⟩, fp0, fp1, fp2⟩ := three42 hy4
        have hne : b2 ≠ b := by have := HL.out.2.2.2.2.2.1; omega
        have hne' : b ≠ b2 := by have := HL.out.2.2.2.2.2.1; omega
        have hhd := row_head HL.out.1 HL.out.2.2.2.1
        rw [tvs_take] at hhd
        have htl := HL.out.1.tail HL.out.2.2.2.1
        rw [tvs_drop] at htl
        have s1 := fun W => slice_hk (P := Try.prog) 30 Try.underlying30 size36 A HL.out.1.addr n c j (Nat.le_trans HL.out.2.2.2.1 HL.out.1.nc.1) W
        have s2 := fun W => slice_lk (P := Try.prog) 30 Try.underlying30 size36 A n c j HL.out.2.2.2.1 W
        obtain ⟨X, hX⟩ : ∃ X : Option Addr, (if c = j then (A : Option Addr) else (A : Option Addr).map (·.add (j * 2))) = X := ⟨_, rfl⟩
        rw [hX] at s2 htl
        have hXb : X.map (·.block) = (A : Option Addr).map (·.block) := by
          rw [← hX]
          split
          · rfl
          · exact map_add _ _
        have HE := Lib.hid (And.intro hx4 (And.intro hy4 (And.intro hB4 (And.intro hhd (And.intro htl (And.intro hXb hbq))))))
        clear hw4 hbq hx4 hy4 hB4 hhd htl hX hXb HR
        go_wp2
        have hw := wrote2 (v := .slice X (n - j) (c - j)) (v0 := .int .i64 now) (v1 := .int .i64 most) (v2 := .slice X (n - j) (c - j)) HE.out.1 HE.out.2.1 hne 2
        refine bodyPost_ret (v := .tuple #[RV now most X (n - j) (c - j), .slice A j c]) ?_ rfl ⟨X, n - j, c - j, j, rfl, ?_, ?_, HE.out.2.2.2.2.2.1, ?_⟩
        · rw [results_cell_tmp rfl]
          simp [asAddr, Result.andThen, load42 hw.1]
        · have h1 := HE.out.2.2.2.2.1.below HE.out.2.2.1
          exact h1.but hw.2 (fun j hj hm => by
            have h2 := (HE.out.2.2.2.2.1.block j hj).2
            have h3 := HL.out.2.2.2.2.2.2.2
            have h4 := HL.out.2.2.2.2.2.1
            simp at hm
            omega)
        · have h1 := HE.out.2.2.2.1.below HE.out.2.2.1
          exact h1.but hw.2 (fun j hj hm => by
            have h2 := (HE.out.2.2.2.1.block j hj).2
            have h3 := HL.out.2.2.2.2.2.2.2
            have h4 := HL.out.2.2.2.2.2.1
            simp at hm
            omega)
        · exact HE.out.2.2.1.trans (hw.2.below HE.out.2.2.1.size (by have := HL.out.2.2.2.2.2.2.2; have := HL.out.2.2.2.2.2.1; simp; omega))
/-- what Tick and Skip leave -/
def RfT (w : World) (now most : Int) (A : Option Addr) (l1 l2 : List Tm) (e : Ending) (w' : World) : Prop :=
  ∃ X n' c' Y k d, e = .returned (.tuple #[RV now most X n' c', .slice Y k d]) ∧ Tl w' 0 X n' c' l2 ∧ Tl w' 0 Y k d l1 ∧ (∀ j, X.map (·.block) = some j → A.map (·.block) = some j) ∧ (∀ j, Y.map (·.block) = some j → A.map (·.block) = some j) ∧ Below w.heap.size w w'
theorem rf_tick {S : CS} (hok : S.Ok) (h : Tl w 0 A n c S.L) : Calls Try.prog 24 #[RV S.now (S.most : Int) A n c] w (RfT w S.tick.now (S.most : Int) A S.tickL S.tick.L) := by
  have hln : S.L.length = n := by have := h.len; rw [tvs_len] at this; omega
  have hn : n ≤ 65536 := by have := hok.len; have := hok.m2; omega
  have mixed : Try.prog.follows Departure.mixedOrders = true := by kernel_rfl
  obtain ⟨k, hk⟩ : ∃ k, (S.L.countP fun t => decide (t.due ≤ S.tickN)) = k := ⟨_, rfl⟩
  have hdf := CS.due_first hok S.tickN
  rw [hk] at hdf
  have e1 : S.tickL = S.L.take k := hdf.1
  have e2 : S.tick.L = S.L.drop k := hdf.2
  have e3 : S.tick.now = S.tickN := rfl
  rw [e1, e2, e3]
  obtain ⟨now, hnow⟩ : ∃ now, S.now = now := ⟨_, rfl⟩
  obtain ⟨most, hmost⟩ : ∃ most : Int, (S.most : Int) = most := ⟨_, rfl⟩
  obtain ⟨w1, hw1⟩ : ∃ v, w.alloc (.cells (B42 S.now (S.most : Int) A n c) 42) = v := ⟨_, rfl⟩
  obtain ⟨w2, hw2⟩ : ∃ v, w1.alloc (.cells #[.int .i64 0, .int .i64 0, .slice none 0 0] 42) = v := ⟨_, rfl⟩
  obtain ⟨b, hb⟩ : ∃ b, w.heap.size = b := ⟨_, rfl⟩
  obtain ⟨b2, hbb⟩ : ∃ b, w1.heap.size = b := ⟨_, rfl⟩
  obtain ⟨hx2, hy2, hB2, hlt, hb2l, hx1, hbw⟩ := boxes2 hw1 hw2 hb hbb
  clear hnow hmost now most
  by_cases hlt2 : S.now < 1152921504606846976
  · have htn : S.tickN = S.now + 1 := CS.tickN_eq hlt2
    rw [htn] at hk ⊢
    have HL := Lib.hid (And.intro h (And.intro hok (And.intro hn (And.intro hk (And.intro (by omega : w.heap.size ≤ b) hlt)))))
    obtain ⟨w3, hw3⟩ : ∃ v, w2.setCell ⟨b, 0, none⟩ (.int .i64 (S.now + 1)) = v := ⟨_, rfl⟩
    have HW : Hid (Below w.heap.size w w3 ∧ w3.heap[b]? = some (.cells (B42 (S.now + 1) (S.most : Int) A n c) 42 (0, 0)) ∧ w3.heap[b2]? = some (.cells #[.int .i64 0, .int .i64 0, .slice none 0 0] 42 (0, 0))) := by
      rw [← hw3]
      exact ⟨hB2.setCell (by show w.heap.size ≤ b; omega) _, heap_setCell_same _ b 0 _ 42 _ hx2, (Below.heap_setCell _ _ _ _ (show b2 ≠ b by omega)).trans hy2⟩
    obtain ⟨⟨n0, n1, n2⟩, fn0, _, _⟩ := three42 hx2
    obtain ⟨⟨m0, m1, m2⟩, _, _, _⟩ := three42 HW.out.2.1
    have hwr : IntKind.i64.wrap (S.now + 1) = S.now + 1 := IntWalk.i64_in _ (by have := hok.n0; omega)
    clear h hln hn hdf e1 e2 e3 hk hx2 hy2 hB2 hlt hb2l hx1 hbw hok htn
    go_enter Try.func24, Try.ntmps24
    go_wp2_with fail
    refine (rf_told w3 (S.now + 1) (S.most : Int) (HL.out.1.below HW.out.1) (by have := HL.out.2.2.1; omega) HL.out.2.1.srt HL.out.2.2.2.1).mono ?_
    rintro e w5 ⟨X, n', c', k', rfl, hX, hY, hXb, hB5⟩
    have hx5 := (hB5.block b (by have := (Array.getElem?_eq_some_iff.1 HW.out.2.1).1; exact this)).trans HW.out.2.1
    have hy5 := (hB5.block b2 (by have := (Array.getElem?_eq_some_iff.1 HW.out.2.2).1; exact this)).trans HW.out.2.2
    have hBB : Below w.heap.size w w5 := HW.out.1.trans (hB5.mono HW.out.1.size)
    obtain ⟨⟨q0, q1, q2⟩, fq0, fq1, fq2⟩ := three42 hy5
    have HF := Lib.hid (And.intro hX (And.intro hY (And.intro hXb (And.intro hBB (And.intro hy5 hx5)))))
    clear hX hY hXb hB5 hx5 hy5 hBB HW
    go_wp2
    have hw := row3 (v0 := .int .i64 (S.now + 1)) (v1 := .int .i64 (S.most : Int)) (v2 := .slice X n' c') HF.out.2.2.2.2.1
    obtain ⟨w6, hw6⟩ : ∃ v, ((w5.setCell ⟨b2, 0, none⟩ (.int .i64 (S.now + 1))).setCell ⟨b2, 1, none⟩ (.int .i64 (S.most : Int))).setCell ⟨b2, 2, none⟩ (.slice X n' c') = v := ⟨_, rfl⟩
    have hbt : But [b2] w5 w6 := hw6 ▸ (((But.refl _ w5).setCell (by simp) _).setCell (by simp) _).setCell (by simp) _
    rw [hw6] at hw ⊢
    have hXl := HF.out.1.block
    have hYl := HF.out.2.1.block
    have hXA := HF.out.2.2.1
    have hlo := HL.out.2.2.2.2
    refine bodyPost_ret (v := .tuple #[RV (S.now + 1) (S.most : Int) X n' c', .slice A k' c]) ?_ rfl ⟨X, n', c', A, k', c, rfl, ?_, ?_, fun j hj => by rw [← hXA]; exact hj, fun j hj => hj, ?_⟩
    · rw [results_cell_tmp rfl]
      simp [asAddr, Result.andThen, load42 hw]
    · refine HF.out.1.but hbt (fun j hj hm => ?_)
      have h1 := (HL.out.1.block j (hXA ▸ hj)).2
      simp at hm
      omega
    · refine HF.out.2.1.but hbt (fun j hj hm => ?_)
      have h1 := (HL.out.1.block j hj).2
      simp at hm
      omega
    · exact HF.out.2.2.2.1.trans (hbt.below HF.out.2.2.2.1.size (by simp; omega))
  · have htn : S.tickN = S.now := by have := hok.n1; unfold CS.tickN; rw [if_neg (by omega)]; omega
    rw [htn] at hk ⊢
    have HL := Lib.hid (And.intro h (And.intro hok (And.intro hn (And.intro hk (And.intro (by omega : w.heap.size ≤ b) hlt)))))
    have HW : Hid (Below w.heap.size w w2 ∧ w2.heap[b]? = some (.cells (B42 S.now (S.most : Int) A n c) 42 (0, 0)) ∧ w2.heap[b2]? = some (.cells #[.int .i64 0, .int .i64 0, .slice none 0 0] 42 (0, 0))) := ⟨hB2, hx2, hy2⟩
    obtain ⟨⟨n0, n1, n2⟩, fn0, _, _⟩ := three42 hx2
    have hd : decide (S.now < 1152921504606846976) = false := by simpa using hlt2
    clear h hln hn hdf e1 e2 e3 hk hx2 hy2 hB2 hlt hb2l hx1 hbw hok htn hlt2
    go_enter Try.func24, Try.ntmps24
    go_wp2_with fail
    refine (rf_told w2 (S.now) (S.most : Int) (HL.out.1.below HW.out.1) (by have := HL.out.2.2.1; omega) HL.out.2.1.srt HL.out.2.2.2.1).mono ?_
    rintro e w5 ⟨X, n', c', k', rfl, hX, hY, hXb, hB5⟩
    have hx5 := (hB5.block b (by have := (Array.getElem?_eq_some_iff.1 HW.out.2.1).1; exact this)).trans HW.out.2.1
    have hy5 := (hB5.block b2 (by have := (Array.getElem?_eq_some_iff.1 HW.out.2.2).1; exact this)).trans HW.out.2.2
    have hBB : Below w.heap.size w w5 := HW.out.1.trans (hB5.mono HW.out.1.size)
    obtain ⟨⟨q0, q1, q2⟩, fq0, fq1, fq2⟩ := three42 hy5
    have HF := Lib.hid (And.intro hX (And.intro hY (And.intro hXb (And.intro hBB (And.intro hy5 hx5)))))
    clear hX hY hXb hB5 hx5 hy5 hBB HW
    go_wp2
    have hw := row3 (v0 := .int .i64 (S.now)) (v1 := .int .i64 (S.most : Int)) (v2 := .slice X n' c') HF.out.2.2.2.2.1
    obtain ⟨w6, hw6⟩ : ∃ v, ((w5.setCell ⟨b2, 0, none⟩ (.int .i64 (S.now))).setCell ⟨b2, 1, none⟩ (.int .i64 (S.most : Int))).setCell ⟨b2, 2, none⟩ (.slice X n' c') = v := ⟨_, rfl⟩
    have hbt : But [b2] w5 w6 := hw6 ▸ (((But.refl _ w5).setCell (by simp) _).setCell (by simp) _).setCell (by simp) _
    rw [hw6] at hw ⊢
    have hXl := HF.out.1.block
    have hYl := HF.out.2.1.block
    have hXA := HF.out.2.2.1
    have hlo := HL.out.2.2.2.2
    refine bodyPost_ret (v := .tuple #[RV (S.now) (S.most : Int) X n' c', .slice A k' c]) ?_ rfl ⟨X, n', c', A, k', c, rfl, ?_, ?_, fun j hj => by rw [← hXA]; exact hj, fun j hj => hj, ?_⟩
    · rw [results_cell_tmp rfl]
      simp [asAddr, Result.andThen, load42 hw]
    · refine HF.out.1.but hbt (fun j hj hm => ?_)
      have h1 := (HL.out.1.block j (hXA ▸ hj)).2
      simp at hm
      omega
    · refine HF.out.2.1.but hbt (fun j hj hm => ?_)
      have h1 := (HL.out.1.block j hj).2
      simp at hm
      omega
    · exact HF.out.2.2.2.1.trans (hbt.below HF.out.2.2.2.1.size (by simp; omega))
theorem rf_skip {S : CS} (hok : S.Ok) (h : Tl w 0 A n c S.L) : Calls Try.prog 25 #[RV S.now (S.most : Int) A n c] w (RfT w S.skip.now (S.most : Int) A S.skipL S.skip.L) := by
  have hln : S.L.length = n := by have := h.len; rw [tvs_len] at this; omega
  have hn : n ≤ 65536 := by have := hok.len; have := hok.m2; omega
  have mixed : Try.prog.follows Departure.mixedOrders = true := by kernel_rfl
  obtain ⟨w1, hw1⟩ : ∃ v, w.alloc (.cells (B42 S.now (S.most : Int) A n c) 42) = v := ⟨_, rfl⟩
  obtain ⟨w2, hw2⟩ : ∃ v, w1.alloc (.cells #[.int .i64 0, .int .i64 0, .slice none 0 0] 42) = v := ⟨_, rfl⟩
  obtain ⟨b, hb⟩ : ∃ b, w.heap.size = b := ⟨_, rfl⟩
  obtain ⟨b2, hbb⟩ : ∃ b, w1.heap.size = b := ⟨_, rfl⟩
  obtain ⟨hx2, hy2, hB2, hlt, hb2l, hx1, hbw⟩ := boxes2 hw1 hw2 hb hbb
  cases hL : S.L with
  | nil =>
    obtain ⟨e1, e2⟩ := CS.skip_nil hL
    rw [e1, e2]
    have hn0 : n = 0 := by rw [← hln, hL]; rfl
    obtain ⟨⟨n0, n1, n2⟩, _⟩ := three42 hx2
    obtain ⟨⟨q0, q1, q2⟩, fq0, fq1, fq2⟩ := three42 hy2
    have HF := Lib.hid (And.intro h (And.intro hB2 (And.intro hy2 (And.intro hbw (And.intro hlt hL)))))
    subst hn0
    clear h hln hn hx2 hy2 hB2 hlt hb2l hx1 hbw hok hL e1 e2
    go_enter Try.func25, Try.ntmps25
    go_wp2
    have hw := row3 (v0 := .int .i64 S.now) (v1 := .int .i64 (S.most : Int)) (v2 := .slice A 0 c) HF.out.2.2.1
    obtain ⟨w6, hw6⟩ : ∃ v, ((w2.setCell ⟨b2, 0, none⟩ (.int .i64 S.now)).setCell ⟨b2, 1, none⟩ (.int .i64 (S.most : Int))).setCell ⟨b2, 2, none⟩ (.slice A 0 c) = v := ⟨_, rfl⟩
    have hbt : But [b2] w2 w6 := hw6 ▸ (((But.refl _ w2).setCell (by simp) _).setCell (by simp) _).setCell (by simp) _
    rw [hw6] at hw ⊢
    have hlo := HF.out.2.2.2.2.1
    have hbw := HF.out.2.2.2.1
    refine bodyPost_ret (v := .tuple #[RV S.now (S.most : Int) A 0 c, .slice none 0 0]) ?_ rfl ⟨A, 0, c, none, 0, 0, rfl, ?_, RowW.nil _ _ _ _, fun j hj => hj, (by simp), HF.out.2.1.trans (hbt.below HF.out.2.1.size (by simp; omega))⟩
    · rw [results_cell_tmp rfl]
      simp [asAddr, Result.andThen, load42 hw]
    · refine (HF.out.1.below HF.out.2.1).but hbt (fun j hj hm => ?_)
      have h1 := (HF.out.1.block j hj).2
      simp at hm
      omega
  | cons t l =>
    have hsk : S.skip.now = t.due := CS.skipN_cons hL
    obtain ⟨k, hk⟩ : ∃ k, (S.L.countP fun u => decide (u.due ≤ t.due)) = k := ⟨_, rfl⟩
    have hdf := CS.due_first hok t.due
    rw [hk] at hdf
    have e1 : S.skipL = S.L.take k := by rw [← hdf.1]; unfold CS.skipL; rw [CS.skipN_cons hL]
    have e2 : S.skip.L = S.L.drop k := by rw [← hdf.2]; unfold CS.skip; rw [CS.skipN_cons hL]
    rw [e1, e2, hsk]
    have ht0 : S.L[0]? = some t := by rw [hL]; rfl
    obtain ⟨r, o, hA, d0, d1, _⟩ := row_get (h.below hB2) ht0
    have hn1 : (0 : Int) < (n : Int) := by rw [← hln, hL]; simp
    have hn2 : ((n : Int) == 0) = false := by simp; omega
    have hn3 : (n == 0) = false := by simp; omega
    rw [Nat.zero_mul, Nat.add_zero] at d0
    obtain ⟨td, hd⟩ : ∃ td, t.due = td := ⟨_, rfl⟩
    rw [hd] at hk d0 ⊢
    have HL := Lib.hid (And.intro h (And.intro hok (And.intro hn (And.intro hk (And.intro (by omega : w.heap.size ≤ b) hlt)))))
    obtain ⟨w3, hw3⟩ : ∃ v, w2.setCell ⟨b, 0, none⟩ (.int .i64 td) = v := ⟨_, rfl⟩
    have HW : Hid (Below w.heap.size w w3 ∧ w3.heap[b]? = some (.cells (B42 td (S.most : Int) A n c) 42 (0, 0)) ∧ w3.heap[b2]? = some (.cells #[.int .i64 0, .int .i64 0, .slice none 0 0] 42 (0, 0))) := by
      rw [← hw3]
      exact ⟨hB2.setCell (by show w.heap.size ≤ b; omega) _, heap_setCell_same _ b 0 _ 42 _ hx2, (Below.heap_setCell _ _ _ _ (show b2 ≠ b by omega)).trans hy2⟩
    obtain ⟨⟨n0, n1, n2⟩, fn0, _, _⟩ := three42 hx2
    obtain ⟨⟨m0, m1, m2⟩, _, _, _⟩ := three42 HW.out.2.1
    clear h hln hn hdf e1 e2 hsk hk hx2 hy2 hB2 hlt hb2l hx1 hbw hok hL ht0 d1 hd
    subst hA
    go_enter Try.func25, Try.ntmps25
    go_wp2_with fail
    refine (rf_told w3 (td) (S.most : Int) (HL.out.1.below HW.out.1) (by have := HL.out.2.2.1; omega) HL.out.2.1.srt HL.out.2.2.2.1).mono ?_
    rintro e w5 ⟨X, n', c', k', rfl, hX, hY, hXb, hB5⟩
    have hx5 := (hB5.block b (by have := (Array.getElem?_eq_some_iff.1 HW.out.2.1).1; exact this)).trans HW.out.2.1
    have hy5 := (hB5.block b2 (by have := (Array.getElem?_eq_some_iff.1 HW.out.2.2).1; exact this)).trans HW.out.2.2
    have hBB : Below w.heap.size w w5 := HW.out.1.trans (hB5.mono HW.out.1.size)
    obtain ⟨⟨q0, q1, q2⟩, fq0, fq1, fq2⟩ := three42 hy5
    have HF := Lib.hid (And.intro hX (And.intro hY (And.intro hXb (And.intro hBB (And.intro hy5 hx5)))))
    clear hX hY hXb hB5 hx5 hy5 hBB HW
    go_wp2
    have hw := row3 (v0 := .int .i64 (td)) (v1 := .int .i64 (S.most : Int)) (v2 := .slice X n' c') HF.out.2.2.2.2.1
    obtain ⟨w6, hw6⟩ : ∃ v, ((w5.setCell ⟨b2, 0, none⟩ (.int .i64 (td))).setCell ⟨b2, 1, none⟩ (.int .i64 (S.most : Int))).setCell ⟨b2, 2, none⟩ (.slice X n' c') = v := ⟨_, rfl⟩
    have hbt : But [b2] w5 w6 := hw6 ▸ (((But.refl _ w5).setCell (by simp) _).setCell (by simp) _).setCell (by simp) _
    rw [hw6] at hw ⊢
    have hXl := HF.out.1.block
    have hYl := HF.out.2.1.block
    have hXA := HF.out.2.2.1
    have hlo := HL.out.2.2.2.2
    refine bodyPost_ret (v := .tuple #[RV (td) (S.most : Int) X n' c', .slice (some ⟨r, o, none⟩) k' c]) ?_ rfl ⟨X, n', c', some ⟨r, o, none⟩, k', c, rfl, ?_, ?_, fun j hj => by rw [← hXA]; exact hj, fun j hj => hj, ?_⟩
    · rw [results_cell_tmp rfl]
      simp [asAddr, Result.andThen, load42 hw]
    · refine HF.out.1.but hbt (fun j hj hm => ?_)
      have h1 := (HL.out.1.block j (hXA ▸ hj)).2
      simp at hm
      omega
    · refine HF.out.2.1.but hbt (fun j hj hm => ?_)
      have h1 := (HL.out.1.block j hj).2
      simp at hm
      omega
    · exact HF.out.2.2.2.1.trans (hbt.below HF.out.2.2.2.1.size (by simp; omega))
/-- what Set and Unset leave -/
def RfU (w : World) (now most : Int) (A : Option Addr) (l : List Tm) (r : Value) (e : Ending) (w' : World) : Prop :=
  ∃ X n' c', e = .returned (.tuple #[RV now most X n' c', r]) ∧ Tl w' 0 X n' c' l ∧ (X.map (·.block) = A.map (·.block) ∨ ∀ j, X.map (·.block) = some j → w.heap.size ≤ j) ∧ Below w.heap.size w w'
theorem rf_new (m : Int) : Calls Try.prog 21 #[.int .i64 m] w fun e w' => e = .returned (.tuple #[RV 0 (if 1 ≤ m ∧ m ≤ 65536 then m else 0) none 0 0, .int .i64 (if 1 ≤ m ∧ m ≤ 65536 then 0 else 2)]) ∧ Below w.heap.size w w' := by
  by_cases g1 : m < 1
  · rw [if_neg (by omega), if_neg (by omega)]
    go_enter Try.func21, Try.ntmps21
    go_wp2
    refine bodyPost_ret (v := .tuple #[RV 0 0 none 0 0, .int .i64 2]) ?_ rfl ⟨rfl, (Below.refl _ _).alloc (Nat.le_refl _) _⟩
    rw [results_cell_tmp rfl]
    simp [asAddr, Result.andThen, load42 (heap_alloc_new w (.cells #[.int .i64 0, .int .i64 0, .slice none 0 0] 42))]
  · by_cases g2 : 65536 < m
    · rw [if_neg (by omega), if_neg (by omega)]
      have g1' : (1 : Int) ≤ m := by omega
      clear g1
      go_enter Try.func21, Try.ntmps21
      go_wp2
      refine bodyPost_ret (v := .tuple #[RV 0 0 none 0 0, .int .i64 2]) ?_ rfl ⟨rfl, (Below.refl _ _).alloc (Nat.le_refl _) _⟩
      rw [results_cell_tmp rfl]
      simp [asAddr, Result.andThen, load42 (heap_alloc_new w (.cells #[.int .i64 0, .int .i64 0, .slice none 0 0] 42))]
    · rw [if_pos (by omega), if_pos (by omega)]
      have g1' : (1 : Int) ≤ m := by omega
      have g2' : m ≤ 65536 := by omega
      clear g1 g2
      go_enter Try.func21, Try.ntmps21
      go_wp2
      refine bodyPost_ret (v := .tuple #[RV 0 m none 0 0, .int .i64 0]) ?_ rfl ⟨rfl, (Below.refl _ _).alloc (Nat.le_refl _) _⟩
      rw [results_cell_tmp rfl]
      simp [asAddr, Result.andThen, load42 (heap_alloc_new w (.cells #[.int .i64 0, .int .i64 m, .slice none 0 0] 42))]
end
end Go.Proofs.Ytncjbohpaanpaaa
