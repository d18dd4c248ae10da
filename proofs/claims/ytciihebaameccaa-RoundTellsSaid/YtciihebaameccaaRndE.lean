/- Begin, Wants. -/
import Derived.Test.YtciihebaameccaaRndD
namespace Go.Proofs.Ytciihebaameccaa
open Go.RowKit Go.Coop
set_option maxRecDepth 100000
theorem info60 : (Try.prog.info? 60).map (fun i => (i.zero, i.size, i.bytes)) = some (some (.agg #[.int .i64 0, .int .u8 0]), 2, 16) := by kernel_rfl
theorem size26 : (Try.prog.info? 26).map (·.size) = some 5 := by kernel_rfl
theorem addr_at (g o j : Nat) : (⟨g, o, none⟩ : Addr).add j = ⟨g, o + j, none⟩ := by
  unfold Addr.add
  split
  · rename_i h; subst h; rfl
  · rfl
theorem loadv26 {w : World} {b : Nat} {v0 v1 v2 v3 v4 : Value} (h : w.heap[b]? = some (.cells #[v0, v1, v2, v3, v4] 26 (0, 0))) : (loadVar 26 ⟨b, 0, none⟩).run Try.prog w = .ok (.agg #[v0, v1, v2, v3, v4]) w :=
  run_loadVar_at w ⟨b, 0, none⟩ 26 [v0, v1, v2, v3, v4] _ (fun j v hj => by
    rw [addr_at, Nat.zero_add, cell_of_row w b j _ 26 (0, 0) h]
    simpa using hj) Try.underlying26 rfl size26
theorem _root_.Go.Coop.OwnK.lower' {w : World} {base base' E k : Nat} {A : Option Addr} {n c : Nat} {l : List Value} (h : OwnK w base E k A n c l) (hb : base' ≤ base) : OwnK w base' E k A n c l := by
  refine ⟨h.row.1, ?_⟩
  rcases h.row.2 with h0 | ⟨g, cap, cur, hv, hbg, hg, r⟩
  · exact .inl h0
  · exact .inr ⟨g, cap, cur, hv, Nat.le_trans hb hbg, hg, r⟩
theorem _root_.Go.Coop.RdV.but {gs : List Nat} {w w' : World} {A : Option Addr} {n : Nat} {vs : List Value} (h : RdV w A n vs) (hb : But gs w w') (hn : ∀ j, A.map (·.block) = some j → j ∉ gs) : RdV w' A n vs :=
  ⟨h.len, fun h0 => by
    obtain ⟨ad, e, h1, h2⟩ := h.cells h0
    subst e
    refine ⟨ad, rfl, Nat.lt_of_lt_of_le h1 hb.size, fun j v hj => ?_⟩
    refine (World.cell?_of_block (w := w) (hb.block _ ?_ ?_)).trans (h2 j v hj)
    · rw [addr_add_block]; exact h1
    · rw [addr_add_block]; exact hn _ rfl⟩
/-- the cells of wants -/
def wcs (l : List (Int × Int)) : List Value := l.flatMap fun x => [.int .i64 x.1, .int .u8 x.2]
theorem wcs_append (a b : List (Int × Int)) : wcs (a ++ b) = wcs a ++ wcs b := by simp [wcs]
/-- wants are told -/
def WantsO (w : World) (l : List (Int × Int)) (e : Ending) (w' : World) : Prop := ∃ A c, e = .returned (.slice A l.length c) ∧ OwnK w' w.heap.size 60 2 A l.length c (wcs l) ∧ Below w.heap.size w w'
section
variable (w : World)
set_option maxHeartbeats 1000000 in
theorem begin_is (s v n need : Int) : Calls Try.prog 10 #[.int .i64 s, .int .i64 v, .int .i64 n, .int .i64 need] w (TwoR w (beginR s v n need)) := by
  obtain ⟨w1, hw1⟩ : ∃ z, w.alloc (.cells #[.int .i64 0, .int .i64 0, .int .i64 0, .int .i64 0, .slice none 0 0] 26) = z := ⟨_, rfl⟩
  obtain ⟨hb1, hx1⟩ := box_new hw1
  obtain ⟨b, hb⟩ : ∃ b, w.heap.size = b := ⟨_, rfl⟩
  rw [hb] at hx1
  have HE := Lib.hid (And.intro hb1 (And.intro hx1 hb))
  obtain ⟨⟨m0, m1, m2, m3, m4⟩, hbl⟩ := five26 hx1
  obtain ⟨g0, g1, g2, g3, g4⟩ := thaw5 hx1
  clear hb1 hx1
  by_cases hm : MayR s v n need
  · have kM := Lib.hid (decide_eq_true hm)
    have e : beginR s v n need = (⟨s, v, need, 1, List.replicate n.toNat 0⟩, 0) := by unfold beginR; rw [if_pos hm]
    rw [e]
    obtain ⟨k, rfl⟩ : ∃ k : Nat, n = (k : Int) := ⟨n.toNat, by have := hm.2.2.1; omega⟩
    rw [Int.toNat_natCast]
    have hk : k ≤ 255 := by have := hm.2.2.1; omega
    have mk := make24 k (by omega) w1
    obtain ⟨w2, hw2⟩ : ∃ z, w1.alloc (.cells (zr k).toArray 3) = z := ⟨_, rfl⟩
    have hr2 : RdV w2 (some ⟨w1.heap.size, 0, none⟩) k ((List.replicate k (0 : Int)).map IV) := by
      have := RdV.new w1 (zr k) 3 (0, 0)
      unfold zr at this hw2
      rw [hw2, List.length_map, List.length_replicate] at this
      exact this
    obtain ⟨hb2, _⟩ := box_new hw2
    rw [hw2] at mk
    have hx2 := (hb2.block _ (lt_of_block HE.out.2.1)).trans HE.out.2.1
    obtain ⟨⟨p0, p1, p2, p3, p4⟩, pbl⟩ := five26 hx2
    obtain ⟨y0, y1, y2, y3, y4⟩ := thaw5 hx2
    have HF := Lib.hid (And.intro hr2 (And.intro hb2 hx2))
    clear hm e hr2 hb2 hx2 hw2
    go_enter Try.func10, Try.ntmps10
    go_wp2_with fail
    (try rw [hw1]); (try rw [hb])
    refine (may_q _ s v k need kM.out).mono ?_
    rintro e w' ⟨rfl, rfl⟩
    go_wp2
    obtain ⟨q1, q2, q3⟩ := HE.out
    obtain ⟨f1, f2, f3⟩ := HF.out
    have hw := row5 (v0 := .int .i64 s) (v1 := .int .i64 v) (v2 := .int .i64 need) (v3 := .int .i64 1) (v4 := .slice (some ⟨w1.heap.size, 0, none⟩) k k) f3
    refine bodyPost_ret (v := .tuple #[.agg #[.int .i64 s, .int .i64 v, .int .i64 need, .int .i64 1, .slice (some ⟨w1.heap.size, 0, none⟩) k k], .int .i64 0]) ?_ rfl ⟨some ⟨w1.heap.size, 0, none⟩, k, by simp, ?_, (fun j hj => by simp at hj; have := q1.size; omega), ?_⟩
    · rw [results_cell_tmp rfl]
      simp [asAddr, Result.andThen, loadv26 hw]
    · have hl : (List.replicate k (0 : Int)).length = k := List.length_replicate
      simp only [hl]
      have hne : w1.heap.size ≠ b := by have := lt_of_block q2; omega
      have hbt : But [b] w2 (((((w2.setCell ⟨b, 0, none⟩ (.int .i64 s)).setCell ⟨b, 1, none⟩ (.int .i64 v)).setCell ⟨b, 2, none⟩ (.int .i64 need)).setCell ⟨b, 3, none⟩ (.int .i64 1)).setCell ⟨b, 4, none⟩ (.slice (some ⟨w1.heap.size, 0, none⟩) k k)) := (((((But.refl _ _).setCell (by simp) _).setCell (by simp) _).setCell (by simp) _).setCell (by simp) _).setCell (by simp) _
      refine f1.but hbt fun j hj hm => ?_
      simp at hj hm
      omega
    · have hle : w.heap.size ≤ b := by omega
      have hlo : Below w.heap.size w w2 := q1.trans (f2.mono q1.size)
      exact ((((hlo.setCell (by simpa using hle) _).setCell (by simpa using hle) _).setCell (by simpa using hle) _).setCell (by simpa using hle) _).setCell (by simpa using hle) _
  · have kM := Lib.hid (decide_eq_false hm)
    have e : beginR s v n need = (⟨0, 0, 0, 0, []⟩, 130) := by unfold beginR; rw [if_neg hm]
    rw [e]
    clear hm e
    go_enter Try.func10, Try.ntmps10
    go_wp2_with fail
    (try rw [hw1]); (try rw [hb])
    refine (may_q _ s v n need kM.out).mono ?_
    rintro e w' ⟨rfl, rfl⟩
    go_wp2
    obtain ⟨q1, q2, q3⟩ := HE.out
    have hw := row5 (v0 := .int .i64 0) (v1 := .int .i64 0) (v2 := .int .i64 0) (v3 := .int .i64 0) (v4 := .slice none 0 0) q2
    refine bodyPost_ret (v := .tuple #[.agg #[.int .i64 0, .int .i64 0, .int .i64 0, .int .i64 0, .slice none 0 0], .int .i64 130]) ?_ rfl ⟨none, 0, rfl, RdV.nil _ _, (fun j hj => by cases hj), ?_⟩
    · rw [results_cell_tmp rfl]
      simp [asAddr, Result.andThen, loadv26 hw]
    · have hle : w.heap.size ≤ b := by omega
      exact ((((q1.setCell (by simpa using hle) _).setCell (by simpa using hle) _).setCell (by simpa using hle) _).setCell (by simpa using hle) _).setCell (by simpa using hle) _
set_option maxHeartbeats 2000000 in
theorem wants_is (s v need ph : Int) {A : Option Addr} {n c : Nat} {ms : List Int} (h : RdV w A n (ms.map IV)) (hn : n ≤ 1000000) {l : List (Int × Int)} (hl : Rn.wants ⟨s, v, need, ph, ms⟩ = l) : Calls Try.prog 19 #[.agg #[.int .i64 s, .int .i64 v, .int .i64 need, .int .i64 ph, .slice A n c]] w (WantsO w l) := by
  have hln : ms.length = n := by simpa using h.len
  obtain ⟨w1, hw1⟩ : ∃ z, w.alloc (.cells #[.int .i64 s, .int .i64 v, .int .i64 need, .int .i64 ph, .slice A n c] 26) = z := ⟨_, rfl⟩
  obtain ⟨hb1, hx1⟩ := box_new hw1
  obtain ⟨b, hb⟩ : ∃ b, w.heap.size = b := ⟨_, rfl⟩
  rw [hb] at hx1
  have hr1 := Lib.hid (h.below hb1 (Nat.le_refl _))
  have HB1 := Lib.hid hb1
  have HX1 := Lib.hid hx1
  obtain ⟨⟨m0, m1, m2, m3, m4⟩, hbl⟩ := five26 hx1
  clear h hb1 hx1
  by_cases hR : RightR ⟨s, v, need, ph, ms⟩
  · have kR := Lib.hid (decide_eq_true hR)
    have HL : Hid (wantsL ph 0 ms = l) := by
      show _ = _
      rw [← hl]
      unfold Rn.wants
      rw [if_pos hR]
    clear hR hl
    go_enter Try.func19, Try.ntmps19
    go_wp2_with fail
    (try rw [hw1]); (try rw [hb])
    refine (right_is _ s v need ph hr1.out hn kR.out).mono ?_
    rintro e w2 ⟨rfl, hb2⟩
    have HB2 := Lib.hid (HB1.out.trans (hb2.mono HB1.out.size))
    have HX2 := Lib.hid ((hb2.block _ (lt_of_block HX1.out)).trans HX1.out)
    have HR2 := Lib.hid (hr1.out.below hb2 (Nat.le_refl _))
    obtain ⟨⟨f0, f1, f2, f3, f4⟩, hbl2⟩ := five26 HX2.out
    clear hb2 m0 m1 m2 m3 m4 hbl HX1 hr1 HB1 hw1 hb
    go_wp2_with fail
    go_loopw [3, 4, 5, 6, 7, 14] (fun s3 _ _ _ _ s14 wr => ∃ (j : Nat) (X : Option Addr) (m cx : Nat), j ≤ n ∧ m ≤ j ∧ s14 = .int .i64 j ∧ s3 = .slice X m cx ∧ Hid (m = (wantsL ph 0 (ms.take j)).length) ∧ Hid (OwnK wr w2.heap.size 60 2 X m cx (wcs (wantsL ph 0 (ms.take j)))) ∧ Hid (Below w2.heap.size w2 wr)) (fun _ _ _ _ _ s14 _ => n - (Go.RowKit.intOf s14).toNat)
    case atStart => exact ⟨0, none, 0, 0, by omega, by omega, rfl, rfl, (by simp [wantsL] : 0 = (wantsL ph 0 (ms.take 0)).length), (by simpa [wantsL, wcs] using OwnK.nil _ _ _ _ : OwnK w2 w2.heap.size 60 2 none 0 0 (wcs (wantsL ph 0 (ms.take 0)))), (Below.refl _ _ : Below w2.heap.size w2 w2)⟩
    case round =>
      obtain ⟨j, X, m, cx, hj, hmj, rfl, rfl, HM, HO, HW⟩ := hrel
      obtain ⟨⟨f0, f1, f2, f3, f4⟩, hbl3⟩ := five26 ((HW.out.block _ (lt_of_block HX2.out)).trans HX2.out)
      by_cases hlt : j < n
      · obtain ⟨y, hy⟩ : ∃ y, ms[j]? = some y := ⟨_, List.getElem?_eq_getElem (by rw [hln]; exact hlt)⟩
        obtain ⟨ad, rfl, hadl, hxc⟩ := (HR2.out.below HW.out (Nat.le_refl _)).cells (by omega)
        have e0 := hxc j (IV y) (by rw [List.getElem?_map, hy]; rfl)
        have hi1 : (0 : Int) ≤ (j : Int) := by omega
        have hi2 : (j : Int) < (n : Int) := by omega
        have hw1 : IntKind.i64.wrap ((j : Int) + 1) = (j : Int) + 1 := IntWalk.i64_in _ (by omega)
        have HT := Lib.hid (And.intro hy hlt)
        have HS := Lib.hid (show wantsL ph 0 (ms.take (j + 1)) = wantsL ph 0 (ms.take j) ++ wantsL ph j [y] by rw [take_snoc hy, wantsL_append]; congr 1; rw [List.length_take, hln]; congr 1; omega)
        clear hy hlt hadl hxc
        go_wp2_with fail
        refine (want_is _ ph y).mono ?_
        rintro e w' ⟨⟨o, q, rfl, h1, h2⟩, rfl⟩
        cases q with
        | true =>
          obtain ⟨h3, h4⟩ := h1 rfl
          have HS2 : Hid (wantsL ph 0 (ms.take (j + 1)) = wantsL ph 0 (ms.take j) ++ [((j : Int), o)]) := by
            show _ = _
            rw [HS.out]
            simp only [wantsL]
            rw [h3, if_neg h4]
          clear h1 h2 h3 h4 HS
          go_wp2_with (at_builtin; refine wpList_appK _ rfl (.tmp 27) (.tmp 31) _ rfl w2.heap.size 60 2 (.agg #[.int .i64 0, .int .u8 0]) 16 Try.underlying41 info60 rfl (by omega) rfl (HO.out.below ((Below.refl _ _).alloc (Nat.le_refl _) _) (Nat.le_refl _)) rfl (m := 1) (RdV.new _ [.int .i64 j, .int .u8 o] 60 (0, 0)) (by omega) (by intro u hu; simp at hu; rcases hu with rfl | rfl <;> rfl) (by omega) (by omega) (Nat.le_trans HW.out.size (by simp)) (m + 1) rfl ?_; intro A' c' w7 ho hg hat)
          have HO7 : Hid (OwnK w7 w2.heap.size 60 2 A' (m + 1) c' (wcs (wantsL ph 0 (ms.take (j + 1))))) := by
            show OwnK _ _ _ _ _ _ _ _
            rw [HS2.out, wcs_append]
            exact ho
          have HW7 : Hid (Below w2.heap.size w2 w7) := by
            show Below _ _ _
            exact (HW.out.alloc HW.out.size _).grown hg (by have := HW.out.size; simp; omega) (fun k hk => (HO.out.block k hk).1)
          clear ho hg hat
          have HM7 : Hid (m + 1 = (wantsL ph 0 (ms.take (j + 1))).length) := by
            show _ = _
            rw [HS2.out, List.length_append, ← HM.out]
            rfl
          go_roundw
          case rel => exact ⟨j + 1, A', m + 1, c', by have := HT.out.2; omega, by omega, by go_num, rfl, HM7, HO7, HW7⟩
          case measure => have := HT.out.2; simp [Go.RowKit.intOf]; omega
        | false =>
          have h3 := h2 rfl
          have HS2 : Hid (wantsL ph 0 (ms.take (j + 1)) = wantsL ph 0 (ms.take j)) := by
            show _ = _
            rw [HS.out]
            simp only [wantsL]
            rw [h3, if_pos rfl, List.append_nil]
          clear h1 h2 h3 HS
          go_wp2
          go_roundw
          case rel => exact ⟨j + 1, X, m, cx, by have := HT.out.2; omega, by omega, by go_num, rfl, by rw [HS2.out]; exact HM, by rw [HS2.out]; exact HO, HW⟩
          case measure => have := HT.out.2; simp [Go.RowKit.intOf]; omega
      · obtain rfl : j = n := by omega
        have HF : Hid (ms.take j = ms) := List.take_of_length_le (by rw [hln]; exact Nat.le_refl _)
        go_wp2
        go_ret
        rw [HF.out] at HM HO
        rw [HL.out] at HM HO
        have hm := HM.out
        subst hm
        exact ⟨X, cx, rfl, HO.out.lower' HB2.out.size, HB2.out.trans (HW.out.mono HB2.out.size)⟩
  · have kR := Lib.hid (decide_eq_false hR)
    have HL : Hid ([] = l) := by
      show _ = _
      rw [← hl]
      unfold Rn.wants
      rw [if_neg hR]
    clear hR hl
    go_enter Try.func19, Try.ntmps19
    go_wp2_with fail
    (try rw [hw1]); (try rw [hb])
    refine (right_is _ s v need ph hr1.out hn kR.out).mono ?_
    rintro e w2 ⟨rfl, hb2⟩
    have HB2 := Lib.hid (HB1.out.trans (hb2.mono HB1.out.size))
    clear hb2
    go_wp2
    go_ret
    have hl := HL.out
    subst hl
    exact ⟨none, 0, rfl, OwnK.nil _ _ _ _, HB2.out⟩
end
end Go.Proofs.Ytciihebaameccaa
