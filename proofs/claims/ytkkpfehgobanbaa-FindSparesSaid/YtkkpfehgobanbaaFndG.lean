/- Begin, Wants, Lacks, Data. -/
import Derived.Test.YtkkpfehgobanbaaFndF
namespace Go.Proofs.Ytkkpfehgobanbaa
open Go.RowKit Go.Coop
set_option maxRecDepth 100000
theorem made3 (n : Nat) : madeCells (Value.int .i64 0).cells (n * 1) = ((List.replicate n (0 : Int)).map IV).toArray := by
  apply Array.ext_getElem?
  intro j
  by_cases h : j < n
  · simp [madeCells, h, Value.cells, Nat.mod_one]
  · rw [Array.getElem?_eq_none (by simp [madeCells]; omega), Array.getElem?_eq_none (by simp; omega)]
def zr (n : Nat) : List Value := (List.replicate n (0 : Int)).map IV
theorem make24 (n : Nat) (hk : n ≤ 1000000) (W : World) : (Instr.makeSlice 24 (.int .i64 (n : Int)) (.int .i64 (n : Int))).run Try.prog W = .ok (.slice (some ⟨W.heap.size, 0, none⟩) n n) (W.alloc (.cells (zr n).toArray 3)) := by
  obtain ⟨i, hi, hz, hs, hb⟩ := info_parts info3
  have := run_make (P := Try.prog) W 24 3 i (.int .i64 0) Try.underlying24 hi hz .i64 .i64 n n (by omega) (by omega) (by rw [hb]; omega) (by omega)
  rw [hs, Int.toNat_natCast, made3] at this
  exact this
theorem zr_own {w w' : World} {k : Nat} (hk : k ≤ 1000000) (h : w.alloc (.cells (zr k).toArray 3) = w') : OwnV w' w.heap.size 3 (some ⟨w.heap.size, 0, none⟩) k k ((List.replicate k (0 : Int)).map IV) := by
  have h0 := World.ownsRow_lit (base := w.heap.size) (e := 3) (size := 1) w (zr k).toArray k (Nat.le_refl _) (by unfold maxLen; omega) (by simp [zr])
  rw [h] at h0
  exact ⟨by simp, h0⟩
section
variable (w : World)
set_option maxHeartbeats 2000000 in
theorem begin_is (s v n need : Int) : Calls Try.prog 8 #[.int .i64 s, .int .i64 v, .int .i64 n, .int .i64 need] w (TwoF w (beginF s v n need)) := by
  obtain ⟨w1, hw1⟩ : ∃ z, w.alloc (.cells #[.int .i64 0, .int .i64 0, .int .i64 0, .int .i64 0, .slice none 0 0, .slice none 0 0, .slice none 0 0] 27) = z := ⟨_, rfl⟩
  obtain ⟨hb1, hx1⟩ := box_mk hw1
  obtain ⟨b, hb⟩ : ∃ b, w.heap.size = b := ⟨_, rfl⟩
  rw [hb] at hx1
  have HE := Lib.hid (And.intro hb1 (And.intro hx1 hb))
  obtain ⟨⟨m0, m1, m2, m3, m4, m5, m6⟩, hbl⟩ := seven hx1
  obtain ⟨g0, g1, g2, g3, g4, g5, g6⟩ := thaw7 hx1
  clear hb1 hx1
  by_cases hm : MayF s v n need
  · have kM := Lib.hid (decide_eq_true hm)
    have e : beginF s v n need = (⟨s, v, need, 1, List.replicate n.toNat 0, [], []⟩, 0) := by unfold beginF; rw [if_pos hm]
    rw [e]
    obtain ⟨k, rfl⟩ : ∃ k : Nat, n = (k : Int) := ⟨n.toNat, by have := hm.2.2.1; omega⟩
    rw [Int.toNat_natCast]
    have hk : k ≤ 255 := by have := hm.2.2.1; omega
    have mk := make24 k (by omega) w1
    obtain ⟨w2, hw2⟩ : ∃ z, w1.alloc (.cells (zr k).toArray 3) = z := ⟨_, rfl⟩
    have ho2 := zr_own (by omega) hw2
    obtain ⟨hb2, _⟩ := box_mk hw2
    rw [hw2] at mk
    have hx2 := (hb2.block _ (lt_of_block HE.out.2.1)).trans HE.out.2.1
    obtain ⟨⟨p0, p1, p2, p3, p4, p5, p6⟩, pbl⟩ := seven hx2
    obtain ⟨y0, y1, y2, y3, y4, y5, y6⟩ := thaw7 hx2
    have HF := Lib.hid (And.intro ho2 (And.intro hb2 hx2))
    clear hm e ho2 hb2 hx2 hw2
    go_enter Try.func8, Try.ntmps8
    go_wp2_with fail
    (try rw [hw1]); (try rw [hb])
    refine (may_q _ s v k need kM.out).mono ?_
    rintro e w' ⟨rfl, rfl⟩
    go_wp2
    obtain ⟨hw, hT⟩ := two_end (w := w) (s := s) (v := v) (need := need) (ph := 1) (B := none) (m := 0) (d := 0) (ws := []) (C := none) (q := 0) (k := 0) (bs := []) HF.out.2.2 HF.out.1 (OwnV.nil _ _ _) (MO.nil _ _ _) (fun i _ h => by simp at h) (HE.out.1.trans (HF.out.2.1.mono HE.out.1.size)) (by have := HE.out.2.2; omega) (lt_of_block HE.out.2.1) 0
    unfold set7 at hw hT
    refine bodyPost_ret (v := .tuple #[.agg #[.int .i64 s, .int .i64 v, .int .i64 need, .int .i64 1, .slice (some ⟨w1.heap.size, 0, none⟩) k k, .slice none 0 0, .slice none 0 0], .int .i64 0]) ?_ rfl hT
    rw [results_cell_tmp rfl]
    simp [asAddr, Result.andThen, loadv27 hw]
  · have kM := Lib.hid (decide_eq_false hm)
    have e : beginF s v n need = (⟨0, 0, 0, 0, [], [], []⟩, 140) := by unfold beginF; rw [if_neg hm]
    rw [e]
    clear hm e
    go_enter Try.func8, Try.ntmps8
    go_wp2_with fail
    (try rw [hw1]); (try rw [hb])
    refine (may_q _ s v n need kM.out).mono ?_
    rintro e w' ⟨rfl, rfl⟩
    go_wp2
    obtain ⟨hw, hT⟩ := two_end (w := w) (z := w1.heap.size) (s := 0) (v := 0) (need := 0) (ph := 0) (A := none) (n := 0) (c := 0) (ms := []) (B := none) (m := 0) (d := 0) (ws := []) (C := none) (q := 0) (k := 0) (bs := []) HE.out.2.1 (OwnV.nil _ _ _) (OwnV.nil _ _ _) (MO.nil _ _ _) (fun i h => by simp at h) HE.out.1 (by have := HE.out.2.2; omega) (lt_of_block HE.out.2.1) 140
    unfold set7 at hw hT
    refine bodyPost_ret (v := .tuple #[.agg #[.int .i64 0, .int .i64 0, .int .i64 0, .int .i64 0, .slice none 0 0, .slice none 0 0, .slice none 0 0], .int .i64 140]) ?_ rfl hT
    rw [results_cell_tmp rfl]
    simp [asAddr, Result.andThen, loadv27 hw]
end
theorem info57 : (Try.prog.info? 57).map (fun i => (i.zero, i.size, i.bytes)) = some (some (.agg #[.int .i64 0, .int .u8 0]), 2, 16) := by kernel_rfl
theorem _root_.Go.Coop.OwnK.lower' {w : World} {base base' E k : Nat} {A : Option Addr} {n c : Nat} {l : List Value} (h : OwnK w base E k A n c l) (hb : base' ≤ base) : OwnK w base' E k A n c l := by
  refine ⟨h.row.1, ?_⟩
  rcases h.row.2 with h0 | ⟨g, cap, cur, hv, hbg, hg, r⟩
  · exact .inl h0
  · exact .inr ⟨g, cap, cur, hv, Nat.le_trans hb hbg, hg, r⟩
/-- the cells of wants -/
def wcs (l : List (Int × Int)) : List Value := l.flatMap fun x => [.int .i64 x.1, .int .u8 x.2]
theorem wcs_append (a b : List (Int × Int)) : wcs (a ++ b) = wcs a ++ wcs b := by simp [wcs]
/-- wants are told -/
def WantsO (w : World) (l : List (Int × Int)) (e : Ending) (w' : World) : Prop := ∃ A c, e = .returned (.slice A l.length c) ∧ OwnK w' w.heap.size 57 2 A l.length c (wcs l) ∧ Below w.heap.size w w'
/-- indexes that are to be read -/
def rdW (l : List Int) : List (Int × Int) := l.map fun i => (i, 4)
theorem rdW_take {l : List Int} {j : Nat} {y : Int} (h : l[j]? = some y) : rdW (l.take (j + 1)) = rdW (l.take j) ++ [(y, 4)] := by
  unfold rdW
  rw [List.take_add_one, h, List.map_append]
  rfl
section
variable (w : World)
theorem lacks_is (s v need ph : Int) {A : Option Addr} {n c : Nat} {ms : List Int} {B : Option Addr} {m d : Nat} {ws : List Int} {C : Option Addr} {q k : Nat} {bs : List (List UInt8)} (h : FR w A n ms B m ws C q bs) {l : List Int} (hl : Fq.lacks ⟨s, v, need, ph, ms, ws, bs⟩ = l) : Calls Try.prog 18 #[.agg #[.int .i64 s, .int .i64 v, .int .i64 need, .int .i64 ph, .slice A n c, .slice B m d, .slice C q k]] w (Ints w l) := by
  obtain ⟨w1, hw1⟩ : ∃ z, w.alloc (.cells #[.int .i64 s, .int .i64 v, .int .i64 need, .int .i64 ph, .slice A n c, .slice B m d, .slice C q k] 27) = z := ⟨_, rfl⟩
  obtain ⟨hb1, hx1⟩ := box_mk hw1
  obtain ⟨b, hb⟩ : ∃ b, w.heap.size = b := ⟨_, rfl⟩
  rw [hb] at hx1
  have hr1 := Lib.hid (h.below hb1 (Nat.le_refl _))
  have HB1 := Lib.hid hb1
  have HX1 := Lib.hid hx1
  have hnn := h.le.1
  obtain ⟨⟨f0, f1, f2, f3, f4, f5, f6⟩, fbl⟩ := seven hx1
  clear h hb1 hx1
  by_cases hR : RightF ⟨s, v, need, ph, ms, ws, bs⟩
  · have kR := Lib.hid (decide_eq_true hR)
    have HLL : Hid (ixs 2 ms = l) := by
      show _ = _
      rw [← hl]
      unfold Fq.lacks
      rw [if_pos hR]
    clear hR hl
    go_enter Try.func18, Try.ntmps18
    go_wp2_with fail
    (try rw [hw1]); (try rw [hb])
    refine (right_is _ s v need ph hr1.out kR.out).mono ?_
    rintro e w2 ⟨rfl, hb2⟩
    have HB2 := Lib.hid (HB1.out.trans (hb2.mono HB1.out.size))
    have HX2 := Lib.hid ((hb2.block _ (lt_of_block HX1.out)).trans HX1.out)
    have HR2 := Lib.hid (hr1.out.below hb2 (Nat.le_refl _))
    clear hb2 f0 f1 f2 f3 f4 f5 f6 fbl HX1 hr1 HB1 hw1 hb
    obtain ⟨⟨f0, f1, f2, f3, f4, f5, f6⟩, fbl⟩ := seven HX2.out
    go_wp2_with fail
    refine (gatherer_is _ A n c).mono ?_
    rintro e w3 ⟨rfl, hw3⟩
    obtain ⟨hb3, hx3⟩ := box_mk hw3.symm
    obtain ⟨g, hg⟩ : ∃ g, w2.heap.size = g := ⟨_, rfl⟩
    rw [hg] at hx3
    have HG3 := Lib.hid hx3
    have HR3 := Lib.hid (HR2.out.below hb3 (Nat.le_refl _))
    have HB3 := Lib.hid (HB2.out.trans (hb3.mono HB2.out.size))
    have HX3 := Lib.hid ((hb3.block _ (lt_of_block HX2.out)).trans HX2.out)
    clear hb3 hx3 hw3 f0 f1 f2 f3 f4 f5 f6 fbl
    obtain ⟨⟨f0, f1, f2, f3, f4, f5, f6⟩, fbl⟩ := seven HX3.out
    obtain ⟨l0, hl0⟩ : ∃ l, ixs 2 ms = l := ⟨_, rfl⟩
    obtain ⟨c0, hc0⟩ : ∃ c, l0.length = c := ⟨_, rfl⟩
    have hcn : c0 ≤ n := by rw [← hc0, ← hl0, ← HR3.out.lens.1]; exact ixs_len _ _
    have HL0 := Lib.hid hl0
    have HC0 := Lib.hid hc0
    clear hl0 hc0
    go_wp2_with fail
    (try rw [hg]); clear hg
    refine (gat_is _ HR3.out.ma hnn (cell_of_row _ g 0 _ 24 (0, 0) HG3.out) 2 HL0.out HC0.out).mono ?_
    rintro e w4 ⟨A4, d4, rfl, ho4, hb4⟩
    have HO4 := Lib.hid ho4
    have HB4 := Lib.hid (HB3.out.trans (hb4.mono HB3.out.size))
    have HW4 : Hid (w.heap.size ≤ w3.heap.size) := HB3.out.size
    clear ho4 hb4 f0 f1 f2 f3 f4 f5 f6 fbl
    go_wp2
    go_ret
    have e1 := HL0.out
    rw [HLL.out] at e1
    subst e1
    have e2 := HC0.out
    subst e2
    exact ⟨A4, d4, rfl, HO4.out.lower' HW4.out, HB4.out⟩
  · have kR := Lib.hid (decide_eq_false hR)
    have HLL : Hid ([] = l) := by
      show _ = _
      rw [← hl]
      unfold Fq.lacks
      rw [if_neg hR]
    clear hR hl
    go_enter Try.func18, Try.ntmps18
    go_wp2_with fail
    (try rw [hw1]); (try rw [hb])
    refine (right_is _ s v need ph hr1.out kR.out).mono ?_
    rintro e w2 ⟨rfl, hb2⟩
    have HB2 := Lib.hid (HB1.out.trans (hb2.mono HB1.out.size))
    have HX2 := Lib.hid ((hb2.block _ (lt_of_block HX1.out)).trans HX1.out)
    have HR2 := Lib.hid (hr1.out.below hb2 (Nat.le_refl _))
    clear hb2 f0 f1 f2 f3 f4 f5 f6 fbl HX1 hr1 HB1 hw1 hb
    obtain ⟨⟨f0, f1, f2, f3, f4, f5, f6⟩, fbl⟩ := seven HX2.out
    go_wp2
    go_ret
    have e1 := HLL.out
    subst e1
    exact ⟨none, 0, rfl, OwnV.nil _ _ _, HB2.out⟩
set_option maxHeartbeats 2000000 in
theorem wants_is (s v need ph : Int) {A : Option Addr} {n c : Nat} {ms : List Int} {B : Option Addr} {m d : Nat} {ws : List Int} {C : Option Addr} {q k : Nat} {bs : List (List UInt8)} (h : FR w A n ms B m ws C q bs) {l : List (Int × Int)} (hl : Fq.wants ⟨s, v, need, ph, ms, ws, bs⟩ = l) : Calls Try.prog 19 #[.agg #[.int .i64 s, .int .i64 v, .int .i64 need, .int .i64 ph, .slice A n c, .slice B m d, .slice C q k]] w (WantsO w l) := by
  obtain ⟨w1, hw1⟩ : ∃ z, w.alloc (.cells #[.int .i64 s, .int .i64 v, .int .i64 need, .int .i64 ph, .slice A n c, .slice B m d, .slice C q k] 27) = z := ⟨_, rfl⟩
  obtain ⟨hb1, hx1⟩ := box_mk hw1
  obtain ⟨b, hb⟩ : ∃ b, w.heap.size = b := ⟨_, rfl⟩
  rw [hb] at hx1
  have hr1 := Lib.hid (h.below hb1 (Nat.le_refl _))
  have HB1 := Lib.hid hb1
  have HX1 := Lib.hid hx1
  have hnn := h.le.1
  obtain ⟨⟨f0, f1, f2, f3, f4, f5, f6⟩, fbl⟩ := seven hx1
  clear h hb1 hx1
  by_cases hR : RightF ⟨s, v, need, ph, ms, ws, bs⟩
  · have kR := Lib.hid (decide_eq_true hR)
    by_cases hp : ph = 1
    · subst hp
      have HLL : Hid (rdW (ixs 0 ms) = l) := by
        show _ = _
        rw [← hl]
        unfold Fq.wants
        rw [if_pos ⟨hR, rfl⟩]
        rfl
      clear hR hl
      go_enter Try.func19, Try.ntmps19
      go_wp2_with fail
      (try rw [hw1]); (try rw [hb])
      refine (right_is _ s v need 1 hr1.out kR.out).mono ?_
      rintro e w2 ⟨rfl, hb2⟩
      have HB2 := Lib.hid (HB1.out.trans (hb2.mono HB1.out.size))
      have HX2 := Lib.hid ((hb2.block _ (lt_of_block HX1.out)).trans HX1.out)
      have HR2 := Lib.hid (hr1.out.below hb2 (Nat.le_refl _))
      clear hb2 f0 f1 f2 f3 f4 f5 f6 fbl HX1 hr1 HB1 hw1 hb
      obtain ⟨⟨f0, f1, f2, f3, f4, f5, f6⟩, fbl⟩ := seven HX2.out
      go_wp2_with fail
      refine (gatherer_is _ A n c).mono ?_
      rintro e w3 ⟨rfl, hw3⟩
      obtain ⟨hb3, hx3⟩ := box_mk hw3.symm
      obtain ⟨g, hg⟩ : ∃ g, w2.heap.size = g := ⟨_, rfl⟩
      rw [hg] at hx3
      have HG3 := Lib.hid hx3
      have HR3 := Lib.hid (HR2.out.below hb3 (Nat.le_refl _))
      have HB3 := Lib.hid (HB2.out.trans (hb3.mono HB2.out.size))
      have HX3 := Lib.hid ((hb3.block _ (lt_of_block HX2.out)).trans HX2.out)
      clear hb3 hx3 hw3 f0 f1 f2 f3 f4 f5 f6 fbl
      obtain ⟨⟨f0, f1, f2, f3, f4, f5, f6⟩, fbl⟩ := seven HX3.out
      obtain ⟨l0, hl0⟩ : ∃ l, ixs 0 ms = l := ⟨_, rfl⟩
      obtain ⟨c0, hc0⟩ : ∃ c, l0.length = c := ⟨_, rfl⟩
      have hcn : c0 ≤ n := by rw [← hc0, ← hl0, ← HR3.out.lens.1]; exact ixs_len _ _
      have HL0 := Lib.hid hl0
      have HC0 := Lib.hid hc0
      clear hl0 hc0
      go_wp2_with fail
      (try rw [hg]); clear hg
      refine (gat_is _ HR3.out.ma hnn (cell_of_row _ g 0 _ 24 (0, 0) HG3.out) 0 HL0.out HC0.out).mono ?_
      rintro e w4 ⟨A4, d4, rfl, ho4, hb4⟩
      have HO4 := Lib.hid ho4
      have HB4 := Lib.hid (HB3.out.trans (hb4.mono HB3.out.size))
      have HW4 : Hid (w.heap.size ≤ w3.heap.size) := HB3.out.size
      clear ho4 hb4 f0 f1 f2 f3 f4 f5 f6 fbl
      have HRD := Lib.hid HO4.out.rd
      go_wp2
      go_loopg [3, 5, 19] c0 (fun kx s3 _ s19 wr => ∃ (j : Nat) (X : Option Addr) (m cx : Nat), j ≤ c0 ∧ m ≤ j ∧ c0 - j ≤ kx ∧ s19 = .int .i64 j ∧ s3 = .slice X m cx ∧ Hid (m = (rdW (l0.take j)).length) ∧ Hid (OwnK wr w4.heap.size 57 2 X m cx (wcs (rdW (l0.take j)))) ∧ Hid (Below w4.heap.size w4 wr))
      case atStart => exact ⟨0, none, 0, 0, by omega, by omega, by omega, rfl, rfl, (by simp [rdW] : 0 = (rdW (l0.take 0)).length), (by simpa [rdW, wcs] using OwnK.nil _ _ _ _ : OwnK w4 w4.heap.size 57 2 none 0 0 (wcs (rdW (l0.take 0)))), (Below.refl _ _ : Below w4.heap.size w4 w4)⟩
      case round =>
        obtain ⟨j, X, m, cx, hj, hmj, hk, rfl, rfl, HM, HO, HW⟩ := hrel
        by_cases hlt : j < c0
        · obtain ⟨y, hy⟩ : ∃ y, l0[j]? = some y := ⟨_, List.getElem?_eq_getElem (by rw [HC0.out]; exact hlt)⟩
          obtain ⟨ad, rfl, hadl, hxc⟩ := (HRD.out.below HW.out (Nat.le_refl _)).cells (by omega)
          have e0 := hxc j (IV y) (by rw [List.getElem?_map, hy]; rfl)
          have hi1 : (0 : Int) ≤ (j : Int) := by omega
          have hi2 : (j : Int) < (c0 : Int) := by omega
          have hwj : IntKind.i64.wrap ((j : Int) + 1) = (j : Int) + 1 := IntWalk.i64_in _ (by omega)
          have HT := Lib.hid (And.intro hlt (rdW_take hy))
          clear hy hlt hadl hxc
          go_wp2_with (at_builtin; refine wpList_appK _ rfl (.tmp 23) (.tmp 26) _ rfl w4.heap.size 57 2 (.agg #[.int .i64 0, .int .u8 0]) 16 Try.underlying49 info57 rfl (by omega) rfl (HO.out.below ((Below.refl _ _).alloc (Nat.le_refl _) _) (Nat.le_refl _)) rfl (m := 1) (RdV.new _ [.int .i64 y, .int .u8 4] 57 (0, 0)) (by omega) (by intro u hu; simp at hu; rcases hu with rfl | rfl <;> rfl) (by omega) (by omega) (Nat.le_trans HW.out.size (by simp)) (m + 1) rfl ?_; intro A' c' w7 ho hg7 hat)
          have HO7 : Hid (OwnK w7 w4.heap.size 57 2 A' (m + 1) c' (wcs (rdW (l0.take (j + 1))))) := by
            show OwnK _ _ _ _ _ _ _ _
            rw [HT.out.2, wcs_append]
            exact ho
          have HW7 : Hid (Below w4.heap.size w4 w7) := by
            show Below _ _ _
            exact (HW.out.alloc HW.out.size _).grown hg7 (by have := HW.out.size; simp; omega) (fun k hk => (HO.out.block k hk).1)
          clear ho hg7 hat
          have HM7 : Hid (m + 1 = (rdW (l0.take (j + 1))).length) := by
            show _ = _
            rw [HT.out.2, List.length_append, ← HM.out]
            rfl
          go_roundg (c0 - (j + 1))
          case measure => have := HT.out.1; omega
          case rel => exact ⟨j + 1, A', m + 1, c', by have := HT.out.1; omega, by omega, by omega, by go_num, rfl, HM7, HO7, HW7⟩
        · obtain rfl : j = c0 := by omega
          have HF : Hid (l0.take j = l0) := List.take_of_length_le (by rw [HC0.out]; exact Nat.le_refl _)
          go_wp2
          go_ret
          rw [HF.out, ← HL0.out, HLL.out] at HM HO
          have hm := HM.out
          subst hm
          exact ⟨X, cx, rfl, HO.out.lower' HB4.out.size, HB4.out.trans (HW.out.mono HB4.out.size)⟩
    · have HLL : Hid ([] = l) := by
        show _ = _
        rw [← hl]
        unfold Fq.wants
        rw [if_neg (fun h => hp h.2)]
      have hpb : (ph == 1) = false := by simpa using hp
      have hpb2 : (ph != 1) = true := by simpa using hp
      have hpb3 : decide (ph = 1) = false := by simpa using hp
      clear hR hl hp
      go_enter Try.func19, Try.ntmps19
      go_wp2_with fail
      (try rw [hw1]); (try rw [hb])
      refine (right_is _ s v need ph hr1.out kR.out).mono ?_
      rintro e w2 ⟨rfl, hb2⟩
      have HB2 := Lib.hid (HB1.out.trans (hb2.mono HB1.out.size))
      have HX2 := Lib.hid ((hb2.block _ (lt_of_block HX1.out)).trans HX1.out)
      have HR2 := Lib.hid (hr1.out.below hb2 (Nat.le_refl _))
      clear hb2 f0 f1 f2 f3 f4 f5 f6 fbl HX1 hr1 HB1 hw1 hb
      obtain ⟨⟨f0, f1, f2, f3, f4, f5, f6⟩, fbl⟩ := seven HX2.out
      go_wp2
      go_ret
      have e1 := HLL.out
      subst e1
      exact ⟨none, 0, rfl, OwnK.nil _ _ _ _, HB2.out⟩
  · have kR := Lib.hid (decide_eq_false hR)
    have HLL : Hid ([] = l) := by
      show _ = _
      rw [← hl]
      unfold Fq.wants
      rw [if_neg (fun h => hR h.1)]
    clear hR hl
    go_enter Try.func19, Try.ntmps19
    go_wp2_with fail
    (try rw [hw1]); (try rw [hb])
    refine (right_is _ s v need ph hr1.out kR.out).mono ?_
    rintro e w2 ⟨rfl, hb2⟩
    have HB2 := Lib.hid (HB1.out.trans (hb2.mono HB1.out.size))
    have HX2 := Lib.hid ((hb2.block _ (lt_of_block HX1.out)).trans HX1.out)
    have HR2 := Lib.hid (hr1.out.below hb2 (Nat.le_refl _))
    clear hb2 f0 f1 f2 f3 f4 f5 f6 fbl HX1 hr1 HB1 hw1 hb
    obtain ⟨⟨f0, f1, f2, f3, f4, f5, f6⟩, fbl⟩ := seven HX2.out
    go_wp2
    go_ret
    have e1 := HLL.out
    subst e1
    exact ⟨none, 0, rfl, OwnK.nil _ _ _ _, HB2.out⟩
end
/-- a list of lists and an error are told -/
def TellL (q : Nat) (M : List (List UInt8)) (r : Int) (w : World) (e : Ending) (w' : World) : Prop := ∃ A c, e = .returned (.tuple #[.slice A q c, .int .i64 r]) ∧ MR w' A q M ∧ Below w.heap.size w w'
theorem mr_nil (w : World) (A : Option Addr) : MR w A 0 [] := ⟨rfl, [], RdV.nil _ _, fun i r h => by simp at h⟩
/-- what Data answers ahead of Decode: 0: Decode -/
def dataE (r : Fq) (k0 n0 : Int) : Int := if RightF r then (if r.ph = 2 then (if k0 = r.need ∧ n0 = r.ms.length then 0 else 40) else 80) else 140
/-- a code, or none, at its pointer -/
def CP (w : World) (p : Option Addr) (k0 n0 : Nat) : Prop := (∃ g gf A c, p = some ⟨g, 0, none⟩ ∧ CodeAt w g n0 k0 gf A c) ∨ (NoCode w p ∧ k0 = 0 ∧ n0 = 0)
theorem CP.below {w w' : World} {p : Option Addr} {k0 n0 : Nat} (h : CP w p k0 n0) (hb : Below w.heap.size w w') : CP w' p k0 n0 := by
  rcases h with ⟨g, gf, A, c, e, h⟩ | ⟨h, e1, e2⟩
  · exact .inl ⟨g, gf, A, c, e, h.below hb (Nat.le_refl _)⟩
  · refine .inr ⟨?_, e1, e2⟩
    rcases h with rfl | ⟨g, rfl, hc⟩
    · exact .inl rfl
    · exact .inr ⟨g, rfl, (hb.cell (p := ⟨g, 0, none⟩) (block_lt_of_cell hc)).trans hc⟩
theorem CP.need {w : World} {p : Option Addr} {k0 n0 : Nat} (h : CP w p k0 n0) : Calls Try.prog 26 #[.pointer p] w fun e w' => e = .returned (.int .i64 (k0 : Int)) ∧ w = w' := by
  rcases h with ⟨g, gf, A, c, rfl, h⟩ | ⟨h, rfl, rfl⟩
  · exact need_yes w h
  · exact need_no p w h
theorem CP.all {w : World} {p : Option Addr} {k0 n0 : Nat} (h : CP w p k0 n0) : Calls Try.prog 25 #[.pointer p] w fun e w' => e = .returned (.int .i64 (n0 : Int)) ∧ w = w' := by
  rcases h with ⟨g, gf, A, c, rfl, h⟩ | ⟨h, rfl, rfl⟩
  · exact all_yes w h
  · exact all_no p w h
section
variable (w : World)
set_option maxHeartbeats 2000000 in
theorem data_is (s v need ph : Int) {A : Option Addr} {n c : Nat} {ms : List Int} {B : Option Addr} {m d : Nat} {ws : List Int} {C : Option Addr} {q k : Nat} {bs : List (List UInt8)} (h : FR w A n ms B m ws C q bs) {p : Option Addr} {k0 n0 : Nat} (hc : CP w p k0 n0) {Q : Nat} {M : List (List UInt8)} {r : Int} (hne : dataE ⟨s, v, need, ph, ms, ws, bs⟩ k0 n0 ≠ 0 → Q = 0 ∧ M = [] ∧ r = dataE ⟨s, v, need, ph, ms, ws, bs⟩ k0 n0) (hD : dataE ⟨s, v, need, ph, ms, ws, bs⟩ k0 n0 = 0 → ∀ wx, Below w.heap.size w wx → Calls Try.prog 43 #[.pointer p, .slice B m d, .slice C q k] wx (TellL Q M r wx)) : Calls Try.prog 14 #[.pointer p, .agg #[.int .i64 s, .int .i64 v, .int .i64 need, .int .i64 ph, .slice A n c, .slice B m d, .slice C q k]] w (TellL Q M r w) := by
  have hlen := h.lens.1
  obtain ⟨w1, hw1⟩ : ∃ z, w.alloc (.cells #[.int .i64 s, .int .i64 v, .int .i64 need, .int .i64 ph, .slice A n c, .slice B m d, .slice C q k] 27) = z := ⟨_, rfl⟩
  obtain ⟨hb1, hx1⟩ := box_mk hw1
  obtain ⟨b, hb⟩ : ∃ b, w.heap.size = b := ⟨_, rfl⟩
  rw [hb] at hx1
  have hr1 := Lib.hid (h.below hb1 (Nat.le_refl _))
  have HB1 := Lib.hid hb1
  have HX1 := Lib.hid hx1
  have hnn := h.le.1
  obtain ⟨⟨f0, f1, f2, f3, f4, f5, f6⟩, fbl⟩ := seven hx1
  clear h hb1 hx1
  have HCP := Lib.hid (hc.below HB1.out)
  clear hc
  by_cases hR : RightF ⟨s, v, need, ph, ms, ws, bs⟩
  · have kR := Lib.hid (decide_eq_true hR)
    by_cases hp : ph = 2
    · subst hp
      by_cases hk0 : (k0 : Int) = need
      · by_cases hn0 : (n0 : Int) = n
        · have HE : Hid (dataE ⟨s, v, need, 2, ms, ws, bs⟩ k0 n0 = 0) := by
            show _ = _
            unfold dataE
            rw [if_pos hR, if_pos rfl, if_pos ⟨hk0, by simp only [hlen]; exact hn0⟩]
          have HDD := Lib.hid (hD HE.out)
          clear hne hD hR
          subst hk0
          obtain rfl : n0 = n := by omega
          go_enter Try.func14, Try.ntmps14
          go_wp2_with fail
          (try rw [hw1]); (try rw [hb])
          refine (right_is _ s v (k0 : Int) 2 hr1.out kR.out).mono ?_
          rintro e w2 ⟨rfl, hb2⟩
          have HB2 := Lib.hid (HB1.out.trans (hb2.mono HB1.out.size))
          have HX2 := Lib.hid ((hb2.block _ (lt_of_block HX1.out)).trans HX1.out)
          have HCP2 := Lib.hid (HCP.out.below hb2)
          have HR2 := Lib.hid (hr1.out.below hb2 (Nat.le_refl _))
          clear hb2 f0 f1 f2 f3 f4 f5 f6 fbl HX1 hr1 HB1 hw1 hb
          obtain ⟨⟨f0, f1, f2, f3, f4, f5, f6⟩, fbl⟩ := seven HX2.out
          go_wp2_with fail
          obtain ⟨y0, h_y0⟩ : ∃ z, w2.drew = z := ⟨_, rfl⟩
          have HD0 : Hid (Below w2.heap.size w2 y0) := h_y0 ▸ (Below.refl _ _).drew
          have HX0 := Lib.hid ((HD0.out.block _ (lt_of_block HX2.out)).trans HX2.out)
          have HR0 := Lib.hid (HR2.out.below HD0.out (Nat.le_refl _))
          have HC0 := Lib.hid (HCP2.out.below HD0.out)
          have HW0 := Lib.hid (HB2.out.trans (HD0.out.mono HB2.out.size))
          clear f0 f1 f2 f3 f4 f5 f6 fbl
          obtain ⟨⟨f0, f1, f2, f3, f4, f5, f6⟩, fbl⟩ := seven HX0.out
          refine wp_region_held_drew (S := fun u => u = y0) (by kernel_rfl) (by exact h_y0) (fun hHeld => ?_)
          rw [h_y0]
          clear h_y0 hHeld
          have hHeld : y0 = y0 := rfl
          refine wpAnyH_take (i := 0) (oi := ⟨some 12, _, _, _, _, _⟩) (v := ?_) rfl (by kernel_rfl) (by kernel_rfl) (by kernel_rfl) (fun _ _ _ h => h) (Or.inl ⟨by rfl, ?_⟩) (by assumption) ?_
          rotate_left
          · intro w hSw
            (try dsimp only at hSw)
            subst hSw
            go_simp
            all_goals (with_reducible rfl)
          try simp only [Act.put, List.setIfInBounds_toArray, List.set_cons_zero, List.set_cons_succ]
          refine wpAnyH_take (i := 2) (oi := ⟨some 14, _, _, _, _, _⟩) (v := ?_) rfl (by kernel_rfl) (by kernel_rfl) (by kernel_rfl) (fun _ _ _ h => h) (Or.inl ⟨by rfl, ?_⟩) (by assumption) ?_
          rotate_left
          · intro w hSw
            (try dsimp only at hSw)
            subst hSw
            go_simp
            all_goals (with_reducible rfl)
          try simp only [Act.put, List.setIfInBounds_toArray, List.set_cons_zero, List.set_cons_succ]
          refine wpAnyH_take (i := 3) (oi := ⟨some 15, _, _, _, _, _⟩) (v := ?_) rfl (by kernel_rfl) (by kernel_rfl) (by kernel_rfl) (fun _ _ _ h => h) (Or.inl ⟨by rfl, ?_⟩) (by assumption) ?_
          rotate_left
          · intro w hSw
            (try dsimp only at hSw)
            subst hSw
            go_simp
            all_goals (with_reducible rfl)
          try simp only [Act.put, List.setIfInBounds_toArray, List.set_cons_zero, List.set_cons_succ]
          refine wpAnyH_ready (rs := [1]) (by kernel_rfl) (by simp) (AllReadyH.cons (o := ⟨some 13, _, _, _, _, _⟩) rfl (fun K hK => ?_) AllReadyH.nil)
          go_simp
          refine HC0.out.need.mono ?_
          rintro e w' ⟨rfl, rfl⟩
          refine hK.out _ _ (rfl) (fun hHeld => ?_)
          clear hK K
          try simp only [Act.put, List.setIfInBounds_toArray, List.set_cons_zero, List.set_cons_succ]
          refine wpAnyH_take (i := 4) (oi := ⟨some 16, _, _, _, _, _⟩) (v := ?_) rfl (by kernel_rfl) (by kernel_rfl) (by kernel_rfl) (fun _ _ _ h => h) (Or.inl ⟨by rfl, ?_⟩) (by assumption) ?_
          rotate_left
          · intro w hSw
            (try dsimp only at hSw)
            subst hSw
            go_simp
            all_goals (with_reducible rfl)
          try simp only [Act.put, List.setIfInBounds_toArray, List.set_cons_zero, List.set_cons_succ]
          refine wpAnyH_take (i := 5) (oi := ⟨some 17, _, _, _, _, _⟩) (v := ?_) rfl (by kernel_rfl) (by kernel_rfl) (by kernel_rfl) (fun _ _ _ h => h) (Or.inl ⟨by rfl, ?_⟩) (by assumption) ?_
          rotate_left
          · intro w hSw
            (try dsimp only at hSw)
            subst hSw
            go_simp
            all_goals (with_reducible rfl)
          try simp only [Act.put, List.setIfInBounds_toArray, List.set_cons_zero, List.set_cons_succ]
          refine wpAnyH_take (i := 6) (oi := ⟨some 18, _, _, _, _, _⟩) (v := ?_) rfl (by kernel_rfl) (by kernel_rfl) (by kernel_rfl) (fun _ _ _ h => h) (Or.inl ⟨by rfl, ?_⟩) (by assumption) ?_
          rotate_left
          · intro w hSw
            (try dsimp only at hSw)
            subst hSw
            go_simp
            all_goals (with_reducible rfl)
          try simp only [Act.put, List.setIfInBounds_toArray, List.set_cons_zero, List.set_cons_succ]
          refine wpAnyH_take (i := 8) (oi := ⟨some 20, _, _, _, _, _⟩) (v := ?_) rfl (by kernel_rfl) (by kernel_rfl) (by kernel_rfl) (fun _ _ _ h => h) (Or.inl ⟨by rfl, ?_⟩) (by assumption) ?_
          rotate_left
          · intro w hSw
            (try dsimp only at hSw)
            subst hSw
            go_simp
            all_goals (with_reducible rfl)
          try simp only [Act.put, List.setIfInBounds_toArray, List.set_cons_zero, List.set_cons_succ]
          refine wpAnyH_take (i := 9) (oi := ⟨some 21, _, _, _, _, _⟩) (v := ?_) rfl (by kernel_rfl) (by kernel_rfl) (by kernel_rfl) (fun _ _ _ h => h) (Or.inl ⟨by rfl, ?_⟩) (by assumption) ?_
          rotate_left
          · intro w hSw
            (try dsimp only at hSw)
            subst hSw
            go_simp
            all_goals (with_reducible rfl)
          try simp only [Act.put, List.setIfInBounds_toArray, List.set_cons_zero, List.set_cons_succ]
          refine wpAnyH_take (i := 10) (oi := ⟨some 22, _, _, _, _, _⟩) (v := ?_) rfl (by kernel_rfl) (by kernel_rfl) (by kernel_rfl) (fun _ _ _ h => h) (Or.inl ⟨by rfl, ?_⟩) (by assumption) ?_
          rotate_left
          · intro w hSw
            (try dsimp only at hSw)
            subst hSw
            go_simp
            all_goals (with_reducible rfl)
          try simp only [Act.put, List.setIfInBounds_toArray, List.set_cons_zero, List.set_cons_succ]
          refine wpAnyH_ready (rs := [7]) (by kernel_rfl) (by simp) (AllReadyH.cons (o := ⟨some 19, _, _, _, _, _⟩) rfl (fun K hK => ?_) AllReadyH.nil)
          go_simp
          refine HC0.out.all.mono ?_
          rintro e w' ⟨rfl, rfl⟩
          refine hK.out _ _ (rfl) (fun hHeld => ?_)
          clear hK K
          try simp only [Act.put, List.setIfInBounds_toArray, List.set_cons_zero, List.set_cons_succ]
          refine wpAnyH_take (i := 11) (oi := ⟨some 23, _, _, _, _, _⟩) (v := ?_) rfl (by kernel_rfl) (by kernel_rfl) (by kernel_rfl) (fun _ _ _ h => h) (Or.inl ⟨by rfl, ?_⟩) (by assumption) ?_
          rotate_left
          · intro w hSw
            (try dsimp only at hSw)
            subst hSw
            go_simp
            all_goals (with_reducible rfl)
          try simp only [Act.put, List.setIfInBounds_toArray, List.set_cons_zero, List.set_cons_succ]
          refine wpAnyH_take (i := 12) (oi := ⟨some 24, _, _, _, _, _⟩) (v := ?_) rfl (by kernel_rfl) (by kernel_rfl) (by kernel_rfl) (fun _ _ _ h => h) (Or.inl ⟨by rfl, ?_⟩) (by assumption) ?_
          rotate_left
          · intro w hSw
            (try dsimp only at hSw)
            subst hSw
            go_simp
            all_goals (with_reducible rfl)
          try simp only [Act.put, List.setIfInBounds_toArray, List.set_cons_zero, List.set_cons_succ]
          refine wpAnyH_done (by kernel_rfl) ?_ _
          go_wp2_with fail
          refine (HDD.out y0 HW0.out).mono ?_
          rintro e z1 ⟨A9, c9, rfl, hm9, hb9⟩
          have HM9 := Lib.hid (And.intro hm9 (HW0.out.trans (hb9.mono HW0.out.size)))
          clear hm9 hb9
          go_wp2
          go_ret2
          exact ⟨A9, c9, rfl, HM9.out.1, HM9.out.2⟩
        · have HE : Hid (dataE ⟨s, v, need, 2, ms, ws, bs⟩ k0 n0 = 40) := by
            show _ = _
            unfold dataE
            rw [if_pos hR, if_pos rfl, if_neg (fun h => hn0 (by have := h.2; simp only [hlen] at this; exact this))]
          obtain ⟨rfl, rfl, rfl⟩ : Q = 0 ∧ M = [] ∧ r = 40 := by
            have h0 := hne (by rw [HE.out]; decide)
            rw [HE.out] at h0
            exact h0
          clear hne hD
          clear hR
          subst hk0
          have hnb : ((n0 : Int) == (n : Int)) = false := by simp; omega
          have hnb2 : ¬ (n0 : Int) = (n : Int) := hn0
          have hnb3 : decide ((n0 : Int) = (n : Int)) = false := decide_eq_false hn0
          go_enter Try.func14, Try.ntmps14
          go_wp2_with fail
          (try rw [hw1]); (try rw [hb])
          refine (right_is _ s v (k0 : Int) 2 hr1.out kR.out).mono ?_
          rintro e w2 ⟨rfl, hb2⟩
          have HB2 := Lib.hid (HB1.out.trans (hb2.mono HB1.out.size))
          have HX2 := Lib.hid ((hb2.block _ (lt_of_block HX1.out)).trans HX1.out)
          have HCP2 := Lib.hid (HCP.out.below hb2)
          have HR2 := Lib.hid (hr1.out.below hb2 (Nat.le_refl _))
          clear hb2 f0 f1 f2 f3 f4 f5 f6 fbl HX1 hr1 HB1 hw1 hb
          obtain ⟨⟨f0, f1, f2, f3, f4, f5, f6⟩, fbl⟩ := seven HX2.out
          go_wp2_with fail
          obtain ⟨y0, h_y0⟩ : ∃ z, w2.drew = z := ⟨_, rfl⟩
          have HD0 : Hid (Below w2.heap.size w2 y0) := h_y0 ▸ (Below.refl _ _).drew
          have HX0 := Lib.hid ((HD0.out.block _ (lt_of_block HX2.out)).trans HX2.out)
          have HR0 := Lib.hid (HR2.out.below HD0.out (Nat.le_refl _))
          have HC0 := Lib.hid (HCP2.out.below HD0.out)
          have HW0 := Lib.hid (HB2.out.trans (HD0.out.mono HB2.out.size))
          clear f0 f1 f2 f3 f4 f5 f6 fbl
          obtain ⟨⟨f0, f1, f2, f3, f4, f5, f6⟩, fbl⟩ := seven HX0.out
          refine wp_region_held_drew (S := fun u => u = y0) (by kernel_rfl) (by exact h_y0) (fun hHeld => ?_)
          rw [h_y0]
          clear h_y0 hHeld
          have hHeld : y0 = y0 := rfl
          refine wpAnyH_take (i := 0) (oi := ⟨some 12, _, _, _, _, _⟩) (v := ?_) rfl (by kernel_rfl) (by kernel_rfl) (by kernel_rfl) (fun _ _ _ h => h) (Or.inl ⟨by rfl, ?_⟩) (by assumption) ?_
          rotate_left
          · intro w hSw
            (try dsimp only at hSw)
            subst hSw
            go_simp
            all_goals (with_reducible rfl)
          try simp only [Act.put, List.setIfInBounds_toArray, List.set_cons_zero, List.set_cons_succ]
          refine wpAnyH_take (i := 2) (oi := ⟨some 14, _, _, _, _, _⟩) (v := ?_) rfl (by kernel_rfl) (by kernel_rfl) (by kernel_rfl) (fun _ _ _ h => h) (Or.inl ⟨by rfl, ?_⟩) (by assumption) ?_
          rotate_left
          · intro w hSw
            (try dsimp only at hSw)
            subst hSw
            go_simp
            all_goals (with_reducible rfl)
          try simp only [Act.put, List.setIfInBounds_toArray, List.set_cons_zero, List.set_cons_succ]
          refine wpAnyH_take (i := 3) (oi := ⟨some 15, _, _, _, _, _⟩) (v := ?_) rfl (by kernel_rfl) (by kernel_rfl) (by kernel_rfl) (fun _ _ _ h => h) (Or.inl ⟨by rfl, ?_⟩) (by assumption) ?_
          rotate_left
          · intro w hSw
            (try dsimp only at hSw)
            subst hSw
            go_simp
            all_goals (with_reducible rfl)
          try simp only [Act.put, List.setIfInBounds_toArray, List.set_cons_zero, List.set_cons_succ]
          refine wpAnyH_ready (rs := [1]) (by kernel_rfl) (by simp) (AllReadyH.cons (o := ⟨some 13, _, _, _, _, _⟩) rfl (fun K hK => ?_) AllReadyH.nil)
          go_simp
          refine HC0.out.need.mono ?_
          rintro e w' ⟨rfl, rfl⟩
          refine hK.out _ _ (rfl) (fun hHeld => ?_)
          clear hK K
          try simp only [Act.put, List.setIfInBounds_toArray, List.set_cons_zero, List.set_cons_succ]
          refine wpAnyH_take (i := 4) (oi := ⟨some 16, _, _, _, _, _⟩) (v := ?_) rfl (by kernel_rfl) (by kernel_rfl) (by kernel_rfl) (fun _ _ _ h => h) (Or.inl ⟨by rfl, ?_⟩) (by assumption) ?_
          rotate_left
          · intro w hSw
            (try dsimp only at hSw)
            subst hSw
            go_simp
            all_goals (with_reducible rfl)
          try simp only [Act.put, List.setIfInBounds_toArray, List.set_cons_zero, List.set_cons_succ]
          refine wpAnyH_take (i := 5) (oi := ⟨some 17, _, _, _, _, _⟩) (v := ?_) rfl (by kernel_rfl) (by kernel_rfl) (by kernel_rfl) (fun _ _ _ h => h) (Or.inl ⟨by rfl, ?_⟩) (by assumption) ?_
          rotate_left
          · intro w hSw
            (try dsimp only at hSw)
            subst hSw
            go_simp
            all_goals (with_reducible rfl)
          try simp only [Act.put, List.setIfInBounds_toArray, List.set_cons_zero, List.set_cons_succ]
          refine wpAnyH_take (i := 6) (oi := ⟨some 18, _, _, _, _, _⟩) (v := ?_) rfl (by kernel_rfl) (by kernel_rfl) (by kernel_rfl) (fun _ _ _ h => h) (Or.inl ⟨by rfl, ?_⟩) (by assumption) ?_
          rotate_left
          · intro w hSw
            (try dsimp only at hSw)
            subst hSw
            go_simp
            all_goals (with_reducible rfl)
          try simp only [Act.put, List.setIfInBounds_toArray, List.set_cons_zero, List.set_cons_succ]
          refine wpAnyH_take (i := 8) (oi := ⟨some 20, _, _, _, _, _⟩) (v := ?_) rfl (by kernel_rfl) (by kernel_rfl) (by kernel_rfl) (fun _ _ _ h => h) (Or.inl ⟨by rfl, ?_⟩) (by assumption) ?_
          rotate_left
          · intro w hSw
            (try dsimp only at hSw)
            subst hSw
            go_simp
            all_goals (with_reducible rfl)
          try simp only [Act.put, List.setIfInBounds_toArray, List.set_cons_zero, List.set_cons_succ]
          refine wpAnyH_take (i := 9) (oi := ⟨some 21, _, _, _, _, _⟩) (v := ?_) rfl (by kernel_rfl) (by kernel_rfl) (by kernel_rfl) (fun _ _ _ h => h) (Or.inl ⟨by rfl, ?_⟩) (by assumption) ?_
          rotate_left
          · intro w hSw
            (try dsimp only at hSw)
            subst hSw
            go_simp
            all_goals (with_reducible rfl)
          try simp only [Act.put, List.setIfInBounds_toArray, List.set_cons_zero, List.set_cons_succ]
          refine wpAnyH_take (i := 10) (oi := ⟨some 22, _, _, _, _, _⟩) (v := ?_) rfl (by kernel_rfl) (by kernel_rfl) (by kernel_rfl) (fun _ _ _ h => h) (Or.inl ⟨by rfl, ?_⟩) (by assumption) ?_
          rotate_left
          · intro w hSw
            (try dsimp only at hSw)
            subst hSw
            go_simp
            all_goals (with_reducible rfl)
          try simp only [Act.put, List.setIfInBounds_toArray, List.set_cons_zero, List.set_cons_succ]
          refine wpAnyH_ready (rs := [7]) (by kernel_rfl) (by simp) (AllReadyH.cons (o := ⟨some 19, _, _, _, _, _⟩) rfl (fun K hK => ?_) AllReadyH.nil)
          go_simp
          refine HC0.out.all.mono ?_
          rintro e w' ⟨rfl, rfl⟩
          refine hK.out _ _ (rfl) (fun hHeld => ?_)
          clear hK K
          try simp only [Act.put, List.setIfInBounds_toArray, List.set_cons_zero, List.set_cons_succ]
          refine wpAnyH_take (i := 11) (oi := ⟨some 23, _, _, _, _, _⟩) (v := ?_) rfl (by kernel_rfl) (by kernel_rfl) (by kernel_rfl) (fun _ _ _ h => h) (Or.inl ⟨by rfl, ?_⟩) (by assumption) ?_
          rotate_left
          · intro w hSw
            (try dsimp only at hSw)
            subst hSw
            go_simp
            all_goals (with_reducible rfl)
          try simp only [Act.put, List.setIfInBounds_toArray, List.set_cons_zero, List.set_cons_succ]
          refine wpAnyH_take (i := 12) (oi := ⟨some 24, _, _, _, _, _⟩) (v := ?_) rfl (by kernel_rfl) (by kernel_rfl) (by kernel_rfl) (fun _ _ _ h => h) (Or.inl ⟨by rfl, ?_⟩) (by assumption) ?_
          rotate_left
          · intro w hSw
            (try dsimp only at hSw)
            subst hSw
            go_simp
            all_goals (with_reducible rfl)
          try simp only [Act.put, List.setIfInBounds_toArray, List.set_cons_zero, List.set_cons_succ]
          refine wpAnyH_done (by kernel_rfl) ?_ _
          go_wp2
          go_ret2
          exact ⟨none, 0, rfl, mr_nil _ _, HW0.out⟩
      · have HE : Hid (dataE ⟨s, v, need, 2, ms, ws, bs⟩ k0 n0 = 40) := by
          show _ = _
          unfold dataE
          rw [if_pos hR, if_pos rfl, if_neg (fun h => hk0 h.1)]
        obtain ⟨rfl, rfl, rfl⟩ : Q = 0 ∧ M = [] ∧ r = 40 := by
          have h0 := hne (by rw [HE.out]; decide)
          rw [HE.out] at h0
          exact h0
        clear hne hD
        clear hR
        have hkb : ((k0 : Int) == need) = false := by simpa using hk0
        have hkb2 : ¬ (k0 : Int) = need := hk0
        have hkb3 : decide ((k0 : Int) = need) = false := decide_eq_false hk0
        go_enter Try.func14, Try.ntmps14
        go_wp2_with fail
        (try rw [hw1]); (try rw [hb])
        refine (right_is _ s v need 2 hr1.out kR.out).mono ?_
        rintro e w2 ⟨rfl, hb2⟩
        have HB2 := Lib.hid (HB1.out.trans (hb2.mono HB1.out.size))
        have HX2 := Lib.hid ((hb2.block _ (lt_of_block HX1.out)).trans HX1.out)
        have HCP2 := Lib.hid (HCP.out.below hb2)
        have HR2 := Lib.hid (hr1.out.below hb2 (Nat.le_refl _))
        clear hb2 f0 f1 f2 f3 f4 f5 f6 fbl HX1 hr1 HB1 hw1 hb
        obtain ⟨⟨f0, f1, f2, f3, f4, f5, f6⟩, fbl⟩ := seven HX2.out
        go_wp2_with fail
        obtain ⟨y0, h_y0⟩ : ∃ z, w2.drew = z := ⟨_, rfl⟩
        have HD0 : Hid (Below w2.heap.size w2 y0) := h_y0 ▸ (Below.refl _ _).drew
        have HX0 := Lib.hid ((HD0.out.block _ (lt_of_block HX2.out)).trans HX2.out)
        have HR0 := Lib.hid (HR2.out.below HD0.out (Nat.le_refl _))
        have HC0 := Lib.hid (HCP2.out.below HD0.out)
        have HW0 := Lib.hid (HB2.out.trans (HD0.out.mono HB2.out.size))
        clear f0 f1 f2 f3 f4 f5 f6 fbl
        obtain ⟨⟨f0, f1, f2, f3, f4, f5, f6⟩, fbl⟩ := seven HX0.out
        refine wp_region_held_drew (S := fun u => u = y0) (by kernel_rfl) (by exact h_y0) (fun hHeld => ?_)
        rw [h_y0]
        clear h_y0 hHeld
        have hHeld : y0 = y0 := rfl
        refine wpAnyH_take (i := 0) (oi := ⟨some 12, _, _, _, _, _⟩) (v := ?_) rfl (by kernel_rfl) (by kernel_rfl) (by kernel_rfl) (fun _ _ _ h => h) (Or.inl ⟨by rfl, ?_⟩) (by assumption) ?_
        rotate_left
        · intro w hSw
          (try dsimp only at hSw)
          subst hSw
          go_simp
          all_goals (with_reducible rfl)
        try simp only [Act.put, List.setIfInBounds_toArray, List.set_cons_zero, List.set_cons_succ]
        refine wpAnyH_take (i := 2) (oi := ⟨some 14, _, _, _, _, _⟩) (v := ?_) rfl (by kernel_rfl) (by kernel_rfl) (by kernel_rfl) (fun _ _ _ h => h) (Or.inl ⟨by rfl, ?_⟩) (by assumption) ?_
        rotate_left
        · intro w hSw
          (try dsimp only at hSw)
          subst hSw
          go_simp
          all_goals (with_reducible rfl)
        try simp only [Act.put, List.setIfInBounds_toArray, List.set_cons_zero, List.set_cons_succ]
        refine wpAnyH_take (i := 3) (oi := ⟨some 15, _, _, _, _, _⟩) (v := ?_) rfl (by kernel_rfl) (by kernel_rfl) (by kernel_rfl) (fun _ _ _ h => h) (Or.inl ⟨by rfl, ?_⟩) (by assumption) ?_
        rotate_left
        · intro w hSw
          (try dsimp only at hSw)
          subst hSw
          go_simp
          all_goals (with_reducible rfl)
        try simp only [Act.put, List.setIfInBounds_toArray, List.set_cons_zero, List.set_cons_succ]
        refine wpAnyH_ready (rs := [1]) (by kernel_rfl) (by simp) (AllReadyH.cons (o := ⟨some 13, _, _, _, _, _⟩) rfl (fun K hK => ?_) AllReadyH.nil)
        go_simp
        refine HC0.out.need.mono ?_
        rintro e w' ⟨rfl, rfl⟩
        refine hK.out _ _ (rfl) (fun hHeld => ?_)
        clear hK K
        try simp only [Act.put, List.setIfInBounds_toArray, List.set_cons_zero, List.set_cons_succ]
        refine wpAnyH_take (i := 4) (oi := ⟨some 16, _, _, _, _, _⟩) (v := .bool true) rfl (by kernel_rfl) (by kernel_rfl) (by kernel_rfl) (fun _ _ _ h => h) (Or.inl ⟨by rfl, ?_⟩) (by assumption) ?_
        · intro w hSw
          subst hSw
          go_simp
          all_goals (first | (with_reducible rfl) | simpa using hk0)
        try simp only [Act.put, List.setIfInBounds_toArray, List.set_cons_zero, List.set_cons_succ]
        refine wpAnyH_take (i := 5) (oi := ⟨some 17, _, _, _, _, _⟩) (v := ?_) rfl (by kernel_rfl) (by kernel_rfl) (by kernel_rfl) (fun _ _ _ h => h) (Or.inl ⟨by rfl, ?_⟩) (by assumption) ?_
        rotate_left
        · intro w hSw
          (try dsimp only at hSw)
          subst hSw
          go_simp
          all_goals (with_reducible rfl)
        try simp only [Act.put, List.setIfInBounds_toArray, List.set_cons_zero, List.set_cons_succ]
        refine wpAnyH_take (i := 6) (oi := ⟨some 18, _, _, _, _, _⟩) (v := undef) rfl (by kernel_rfl) (by kernel_rfl) (by kernel_rfl) (fun _ _ _ h => h) (Or.inr ⟨by rfl, rfl⟩) (by assumption) ?_
        try simp only [Act.put, List.setIfInBounds_toArray, List.set_cons_zero, List.set_cons_succ]
        refine wpAnyH_take (i := 7) (oi := ⟨some 19, _, _, _, _, _⟩) (v := undef) rfl (by kernel_rfl) (by kernel_rfl) (by kernel_rfl) (fun _ _ _ h => h) (Or.inr ⟨by rfl, rfl⟩) (by assumption) ?_
        try simp only [Act.put, List.setIfInBounds_toArray, List.set_cons_zero, List.set_cons_succ]
        refine wpAnyH_take (i := 8) (oi := ⟨some 20, _, _, _, _, _⟩) (v := undef) rfl (by kernel_rfl) (by kernel_rfl) (by kernel_rfl) (fun _ _ _ h => h) (Or.inr ⟨by rfl, rfl⟩) (by assumption) ?_
        try simp only [Act.put, List.setIfInBounds_toArray, List.set_cons_zero, List.set_cons_succ]
        refine wpAnyH_take (i := 9) (oi := ⟨some 21, _, _, _, _, _⟩) (v := undef) rfl (by kernel_rfl) (by kernel_rfl) (by kernel_rfl) (fun _ _ _ h => h) (Or.inr ⟨by rfl, rfl⟩) (by assumption) ?_
        try simp only [Act.put, List.setIfInBounds_toArray, List.set_cons_zero, List.set_cons_succ]
        refine wpAnyH_take (i := 10) (oi := ⟨some 22, _, _, _, _, _⟩) (v := undef) rfl (by kernel_rfl) (by kernel_rfl) (by kernel_rfl) (fun _ _ _ h => h) (Or.inr ⟨by rfl, rfl⟩) (by assumption) ?_
        try simp only [Act.put, List.setIfInBounds_toArray, List.set_cons_zero, List.set_cons_succ]
        refine wpAnyH_take (i := 11) (oi := ⟨some 23, _, _, _, _, _⟩) (v := undef) rfl (by kernel_rfl) (by kernel_rfl) (by kernel_rfl) (fun _ _ _ h => h) (Or.inr ⟨by rfl, rfl⟩) (by assumption) ?_
        try simp only [Act.put, List.setIfInBounds_toArray, List.set_cons_zero, List.set_cons_succ]
        refine wpAnyH_take (i := 12) (oi := ⟨some 24, _, _, _, _, _⟩) (v := ?_) rfl (by kernel_rfl) (by kernel_rfl) (by kernel_rfl) (fun _ _ _ h => h) (Or.inl ⟨by rfl, ?_⟩) (by assumption) ?_
        rotate_left
        · intro w hSw
          (try dsimp only at hSw)
          subst hSw
          go_simp
          all_goals (with_reducible rfl)
        try simp only [Act.put, List.setIfInBounds_toArray, List.set_cons_zero, List.set_cons_succ]
        refine wpAnyH_done (by kernel_rfl) ?_ _
        go_wp2
        go_ret2
        exact ⟨none, 0, rfl, mr_nil _ _, HW0.out⟩
    · have HE : Hid (dataE ⟨s, v, need, ph, ms, ws, bs⟩ k0 n0 = 80) := by
        show _ = _
        unfold dataE
        rw [if_pos hR, if_neg hp]
      obtain ⟨rfl, rfl, rfl⟩ : Q = 0 ∧ M = [] ∧ r = 80 := by
        have h0 := hne (by rw [HE.out]; decide)
        rw [HE.out] at h0
        exact h0
      clear hne hD
      have hpb : (ph == 2) = false := by simpa using hp
      have hpb2 : (ph != 2) = true := by simpa using hp
      have hpb3 : decide (ph = 2) = false := by simpa using hp
      clear hR hp
      go_enter Try.func14, Try.ntmps14
      go_wp2_with fail
      (try rw [hw1]); (try rw [hb])
      refine (right_is _ s v need ph hr1.out kR.out).mono ?_
      rintro e w2 ⟨rfl, hb2⟩
      have HB2 := Lib.hid (HB1.out.trans (hb2.mono HB1.out.size))
      have HX2 := Lib.hid ((hb2.block _ (lt_of_block HX1.out)).trans HX1.out)
      have HR2 := Lib.hid (hr1.out.below hb2 (Nat.le_refl _))
      clear hb2 f0 f1 f2 f3 f4 f5 f6 fbl HX1 hr1 HB1 hw1 hb
      obtain ⟨⟨f0, f1, f2, f3, f4, f5, f6⟩, fbl⟩ := seven HX2.out
      go_wp2
      go_ret2
      exact ⟨none, 0, rfl, mr_nil _ _, HB2.out⟩
  · have kR := Lib.hid (decide_eq_false hR)
    have HE : Hid (dataE ⟨s, v, need, ph, ms, ws, bs⟩ k0 n0 = 140) := by
      show _ = _
      unfold dataE
      rw [if_neg hR]
    obtain ⟨rfl, rfl, rfl⟩ : Q = 0 ∧ M = [] ∧ r = 140 := by
      have h0 := hne (by rw [HE.out]; decide)
      rw [HE.out] at h0
      exact h0
    clear hne hD
    clear hR
    go_enter Try.func14, Try.ntmps14
    go_wp2_with fail
    (try rw [hw1]); (try rw [hb])
    refine (right_is _ s v need ph hr1.out kR.out).mono ?_
    rintro e w2 ⟨rfl, hb2⟩
    have HB2 := Lib.hid (HB1.out.trans (hb2.mono HB1.out.size))
    have HX2 := Lib.hid ((hb2.block _ (lt_of_block HX1.out)).trans HX1.out)
    have HR2 := Lib.hid (hr1.out.below hb2 (Nat.le_refl _))
    clear hb2 f0 f1 f2 f3 f4 f5 f6 fbl HX1 hr1 HB1 hw1 hb
    obtain ⟨⟨f0, f1, f2, f3, f4, f5, f6⟩, fbl⟩ := seven HX2.out
    go_wp2
    go_ret2
    exact ⟨none, 0, rfl, mr_nil _ _, HB2.out⟩
end
end Go.Proofs.Ytkkpfehgobanbaa
