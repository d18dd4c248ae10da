/- awake. -/
import Derived.Test.YtkkpfehgobanbaaFndI
namespace Go.Proofs.Ytkkpfehgobanbaa
open Go.RowKit Go.Coop
set_option maxRecDepth 100000
theorem right_mk {r : Fq} (h1 : MayF r.s r.v r.ms.length r.need ∧ (ixs 0 r.ms).length + (ixs 1 r.ms).length + (ixs 2 r.ms).length = r.ms.length ∧ ((ixs 1 r.ms).length : Int) ≤ r.need ∧ r.ws.length = (ixs 1 r.ms).length ∧ r.bs.length = (ixs 1 r.ms).length ∧ levelB r.bs = true) (h2 : r.ws.Nodup ∧ ∀ x ∈ r.ws, x ∈ ixs 1 r.ms) (h3 : r.ph = phF r.need r.ms) : RightF r :=
  ⟨h1.1, h1.2.1, h1.2.2.1, h1.2.2.2.1, h1.2.2.2.2.1, h1.2.2.2.2.2, (srt_iff (ixs_up 1 r.ms)).2 ⟨h2.1, h2.2, h1.2.2.2.1⟩, h3⟩
def Bq : Fq := ⟨7, 1, 2, 1, [0, 0, 0], [], []⟩
def Aq : Fq := ⟨7, 1, 2, 1, [0, 2, 1], [2], [[122]]⟩
def Dq : Fq := ⟨7, 1, 2, 2, [1, 2, 1], [2, 0], [[122], [1]]⟩
def Lq : Fq := ⟨7, 1, 2, 3, [2, 2, 1], [2], [[122]]⟩
def Cq : Fq := ⟨7, 1, 2, 1, [0, 2, 0], [], []⟩
theorem right_B : RightF Bq := right_mk (by decide) (by decide) (by decide)
theorem right_A : RightF Aq := right_mk (by decide) (by decide) (by decide)
theorem right_C : RightF Cq := right_mk (by decide) (by decide) (by decide)
theorem right_D : RightF Dq := right_mk (by decide) (by decide) (by decide)
theorem told_lack {r : Fq} (h : RightF r) {i e : Int} {l : List UInt8} (hi : 0 ≤ i ∧ i ≤ (r.ms.length : Int) - 1) (hp : r.ph = 1 ∧ r.ms.getD i.toNat 0 = 0) (he : ¬ (e = 0 ∧ levelB (r.bs ++ [l]) = true)) : r.told i e l = (r.lack i.toNat, 0) := by
  unfold Fq.told
  rw [if_pos ⟨h, hi⟩, if_pos hp, if_neg he]
theorem told_got {r : Fq} (h : RightF r) {i e : Int} {l : List UInt8} (hi : 0 ≤ i ∧ i ≤ (r.ms.length : Int) - 1) (hp : r.ph = 1 ∧ r.ms.getD i.toNat 0 = 0) (he : e = 0 ∧ levelB (r.bs ++ [l]) = true) : r.told i e l = (r.got i.toNat l, 0) := by
  unfold Fq.told
  rw [if_pos ⟨h, hi⟩, if_pos hp, if_pos he]
theorem t1 : Bq.told 1 60 [] = (Cq, 0) := told_lack right_B (by decide) (by decide) (by decide)
theorem t2 : Cq.told 2 0 [122] = (Aq, 0) := told_got right_C (by decide) (by decide) (by decide)
theorem t3 : Aq.told 0 0 [1] = (Dq, 0) := told_got right_A (by decide) (by decide) (by decide)
theorem t4 : Aq.told 0 12 [] = (Lq, 0) := told_lack right_A (by decide) (by decide) (by decide)
theorem wants_B : Fq.wants Bq = [(0, 4), (1, 4), (2, 4)] := by
  unfold Fq.wants
  rw [if_pos ⟨right_B, rfl⟩]
  rfl
theorem lacks_A : Fq.lacks Aq = [1] := by
  unfold Fq.lacks
  rw [if_pos right_A]
  rfl
theorem dataD : dataE Dq (2 : Nat) (3 : Nat) = 0 := by
  unfold dataE
  rw [if_pos right_D]
  decide
theorem begin_B : beginF 7 1 3 2 = (Bq, 0) := by
  unfold beginF
  rw [if_pos (by decide)]
  rfl
theorem ok_B : Bq.Ok := by have h := begin_ok 7 1 3 2; rw [begin_B] at h; exact h
theorem ok_A : Aq.Ok := ⟨by decide, by decide, by decide, by decide⟩
theorem ok_D : Dq.Ok := ⟨by decide, by decide, by decide, by decide⟩
theorem u4 : tabM 2 1 (mulF 2 (invC 2 ([2, 0].take 2)) (matF [[122], [1]])) = [[1], [1]] := by decide +kernel
theorem u5 : [[122], [1]] = tabM 2 1 (matF [[122], [1]]) := by decide +kernel
theorem pl20 : Places 3 [2, 0] := ⟨fun i x h => by
  match i, h with
  | 0, h => simp at h; omega
  | 1, h => simp at h; omega, by decide⟩
theorem lit_op {w w' : World} {cs : Array Value} {m : Nat} {os : List OpF} (hc : cs = (ocs os).toArray) (hl : os.length = m) (hw : w.alloc (.cells cs 37) = w') (hr : ∀ o ∈ os, Rd w' o.B o.b.length o.b) : OpsF w' (some ⟨w.heap.size, 0, none⟩) m os := by
  subst hc hw
  refine OpsF.of ?_ hl hr
  have h := RdV.new w (ocs os) 37 (0, 0)
  have e : (ocs os).length = m * 4 := by
    rw [← hl]
    clear hl hr h
    induction os with
    | nil => rfl
    | cons o os ih =>
      have : ocs (o :: os) = o.cells ++ ocs os := by simp [ocs]
      rw [this, List.length_append, ih, List.length_cons]
      have : o.cells.length = 4 := rfl
      omega
  rw [e] at h
  exact h
theorem lit_by {w w' : World} {l : List UInt8} {cs : Array Value} (hc : cs = (bvs l).toArray) (hl : l.length ≤ maxLen) (hw : w.alloc (.cells cs 5) = w') : Rd w' (some ⟨w.heap.size, 0, none⟩) l.length l ∧ Below w.heap.size w w' := by
  subst hc hw
  exact ⟨(own_new w l l.length rfl hl).rd, (Below.refl _ _).alloc (Nat.le_refl _) _⟩
theorem lit_in {w w' : World} {l : List Int} {cs : Array Value} (hc : cs = (l.map IV).toArray) (hw : w.alloc (.cells cs 3) = w') : RdV w' (some ⟨w.heap.size, 0, none⟩) l.length (l.map IV) ∧ Below w.heap.size w w' := by
  subst hc hw
  have h := RdV.new w (l.map IV) 3 (0, 0)
  rw [List.length_map] at h
  exact ⟨h, (Below.refl _ _).alloc (Nat.le_refl _) _⟩
section
variable (w : World)
set_option maxHeartbeats 1000000 in
theorem awake_is : Calls Try.prog 20 #[] w (Told w true) := by
  go_enter Try.func20, Try.ntmps20
  go_wp2_with fail
  refine (begin_is _ 7 1 3 2).mono ?_
  rintro e w1 h1
  rw [begin_B] at h1
  obtain ⟨A1, c1, B1, d1, C1, k1, rfl, hf1, hb1⟩ := h1.tw
  clear h1
  obtain ⟨ba, hba⟩ : ∃ z, w1.heap.size = z := ⟨_, rfl⟩
  obtain ⟨w2, hw2⟩ : ∃ z, w1.alloc (.cells #[.int .i64 Bq.s, .int .i64 Bq.v, .int .i64 Bq.need, .int .i64 Bq.ph, .slice A1 Bq.ms.length c1, .slice B1 Bq.ws.length d1, .slice C1 Bq.bs.length k1] 27) = z := ⟨_, rfl⟩
  obtain ⟨hf2, hb2⟩ := BF.new hf1 hw2 hba
  have HB_w2 := Lib.hid (hb1.trans (hb2.mono hb1.size))
  have Hf_w2 := Lib.hid hf2
  clear hf1 hb1 hf2 hb2
  go_wp2_with fail
  (try rw [hw2]); (try rw [hba])
  clear hw2 hba
  refine (new_any _).mono ?_
  rintro e w3 ⟨gf, rfl, hF, hg, hB⟩
  have hW : Below w2.heap.size w2 w3 := hB
  have HB_w3 := Lib.hid (HB_w2.out.trans (hW.mono HB_w2.out.size))
  have Hf_w3 := Lib.hid (Hf_w2.out.below hW)
  clear hW HB_w2 Hf_w2
  have HF := Lib.hid hF
  clear hF hB hg
  go_wp2_with fail
  refine (cnew_yes gf 3 2 w3 HF.out (by omega) (by omega) (by omega)).mono ?_
  rintro e w4 ⟨gc, gf', A0, c0, rfl, hC, hB⟩
  have hW : Below w3.heap.size w3 w4 := hB
  have HB_w4 := Lib.hid (HB_w3.out.trans (hW.mono HB_w3.out.size))
  have Hf_w4 := Lib.hid (Hf_w3.out.below hW)
  clear hW HB_w3 Hf_w3
  have Hc_w4 := Lib.hid (show CP w4 (some ⟨gc, 0, none⟩) 2 3 from .inl ⟨gc, gf', A0, c0, rfl, hC⟩)
  have HCA := Lib.hid hC
  clear hC hB HF
  obtain ⟨⟨f0, f1, f2, f3, f4, f5, f6⟩, fbl⟩ := Hf_w4.out.cells
  go_wp2_with fail
  refine (wants_is _ Bq.s Bq.v Bq.need Bq.ph (Hf_w4.out.fw.fr ok_B) wants_B).mono ?_
  rintro e w5 ⟨A5, c5, rfl, ho5, hB⟩
  clear f0 f1 f2 f3 f4 f5 f6 fbl
  have hW : Below w4.heap.size w4 w5 := hB
  have HB_w5 := Lib.hid (HB_w4.out.trans (hW.mono HB_w4.out.size))
  have Hf_w5 := Lib.hid (Hf_w4.out.below hW)
  have Hc_w5 := Lib.hid (Hc_w4.out.below hW)
  clear hW HB_w4 Hf_w4 Hc_w4
  have HO5 := Lib.hid ho5.wr
  clear ho5 hB
  go_wp2_with fail
  obtain ⟨w6, hw6⟩ : ∃ z, w5.alloc (.cells #[.int .i64 0, .int .u8 4, .int .i64 1, .int .u8 4, .int .i64 2, .int .u8 4] 57) = z := ⟨_, rfl⟩
  have hr6 : WR w6 (some ⟨w5.heap.size, 0, none⟩) 3 [(0, 4), (1, 4), (2, 4)] := ⟨rfl, hw6 ▸ RdV.new w5 (wcs [(0, 4), (1, 4), (2, 4)]) 57 (0, 0)⟩
  have hB : Below w5.heap.size w5 w6 := hw6 ▸ (Below.refl _ _).alloc (Nat.le_refl _) _
  have HO6 := Lib.hid (HO5.out.below hB (Nat.le_refl _))
  have HP6 := Lib.hid hr6
  clear hr6 HO5
  have hW : Below w5.heap.size w5 w6 := hB
  have HB_w6 := Lib.hid (HB_w5.out.trans (hW.mono HB_w5.out.size))
  have Hf_w6 := Lib.hid (Hf_w5.out.below hW)
  have Hc_w6 := Lib.hid (Hc_w5.out.below hW)
  clear hW HB_w5 Hf_w5 Hc_w5
  clear hB
  (try rw [hw6])
  clear hw6
  refine (sameW_is _ HO6.out HP6.out (by decide) (q := true) (by decide)).mono ?_
  rintro e w7 ⟨rfl, hB⟩
  have hW : Below w6.heap.size w6 w7 := hB
  have HB_w7 := Lib.hid (HB_w6.out.trans (hW.mono HB_w6.out.size))
  have Hf_w7 := Lib.hid (Hf_w6.out.below hW)
  have Hc_w7 := Lib.hid (Hc_w6.out.below hW)
  clear hW HB_w6 Hf_w6 Hc_w6
  clear hB HO6 HP6
  obtain ⟨⟨f0, f1, f2, f3, f4, f5, f6⟩, fbl⟩ := Hf_w7.out.cells
  go_wp2_with fail
  obtain ⟨w10, hw10⟩ : ∃ z, w7.alloc (.cells #[.int .u8 122] 5) = z := ⟨_, rfl⟩
  obtain ⟨hrw10, hB⟩ := lit_by (w := w7) (l := [122]) rfl (by decide) hw10
  have HRw10 := Lib.hid hrw10
  clear hrw10
  have hW : Below w7.heap.size w7 w10 := hB
  have HB_w10 := Lib.hid (HB_w7.out.trans (hW.mono HB_w7.out.size))
  have Hf_w10 := Lib.hid (Hf_w7.out.below hW)
  have Hc_w10 := Lib.hid (Hc_w7.out.below hW)
  clear hW HB_w7 Hf_w7 Hc_w7
  clear hB
  obtain ⟨w11, hw11⟩ : ∃ z, w10.alloc (.cells #[.bool false, .int .i64 1, .int .i64 60, .slice none 0 0, .bool false, .int .i64 2, .int .i64 0, .slice (some ⟨w7.heap.size, 0, none⟩) 1 1] 37) = z := ⟨_, rfl⟩
  have hB : Below w10.heap.size w10 w11 := hw11 ▸ (Below.refl _ _).alloc (Nat.le_refl _) _
  have HOP := Lib.hid (lit_op (w := w10) (m := 2) (os := [⟨false, 1, 60, [], none, 0⟩, ⟨false, 2, 0, [122], some ⟨w7.heap.size, 0, none⟩, 1⟩]) rfl rfl hw11 (by
    intro o ho
    simp at ho
    rcases ho with rfl | rfl
    · exact Rd.nil _ _
    · exact HRw10.out.below (hw11 ▸ (Below.refl _ _).alloc (Nat.le_refl _) _) (Nat.le_refl _)))
  rw [show w10.heap.size = w7.heap.size + 1 by rw [← hw10]; simp] at HOP
  have hW : Below w10.heap.size w10 w11 := hB
  have HB_w11 := Lib.hid (HB_w10.out.trans (hW.mono HB_w10.out.size))
  have Hf_w11 := Lib.hid (Hf_w10.out.below hW)
  have Hc_w11 := Lib.hid (Hc_w10.out.below hW)
  clear hW HB_w10 Hf_w10 Hc_w10
  clear hB
  (try rw [hw10])
  (try rw [hw11])
  clear hw11 hw10
  refine (ltold_is _ Bq Hf_w11.out.fw ok_B HOP.out (by decide) (by simp) (Q := Aq) (z := true) (by unfold toldL; simp only [List.foldl_cons, List.foldl_nil, toldA, t1, t2]; rfl)).mono ?_
  rintro e w12 ⟨A10, c10, B10, d10, C10, k10, rfl, hfn, hB⟩
  clear f0 f1 f2 f3 f4 f5 f6 fbl
  have hW : Below w11.heap.size w11 w12 := hB
  have HB_w12 := Lib.hid (HB_w11.out.trans (hW.mono HB_w11.out.size))
  have Hf_w12 := Lib.hid (Hf_w11.out.below hW)
  have Hc_w12 := Lib.hid (Hc_w11.out.below hW)
  clear hW HB_w11 Hf_w11 Hc_w11
  clear hB HOP
  obtain ⟨ba, hba⟩ : ∃ z, w12.heap.size = z := ⟨_, rfl⟩
  obtain ⟨w13, hw13⟩ : ∃ z, w12.alloc (.cells #[.int .i64 Aq.s, .int .i64 Aq.v, .int .i64 Aq.need, .int .i64 Aq.ph, .slice A10 Aq.ms.length c10, .slice B10 Aq.ws.length d10, .slice C10 Aq.bs.length k10] 27) = z := ⟨_, rfl⟩
  obtain ⟨hfb, hB⟩ := BF.new hfn hw13 hba
  have hW : Below w12.heap.size w12 w13 := hB
  have HB_w13 := Lib.hid (HB_w12.out.trans (hW.mono HB_w12.out.size))
  have Hf_w13 := Lib.hid (Hf_w12.out.below hW)
  have Hc_w13 := Lib.hid (Hc_w12.out.below hW)
  clear hW HB_w12 Hf_w12 Hc_w12
  have Ha_w13 := Lib.hid (hfb)
  clear hfn hfb hB
  obtain ⟨⟨f0, f1, f2, f3, f4, f5, f6⟩, fbl⟩ := Ha_w13.out.cells
  go_wp2_with fail
  (try rw [hw13]); (try rw [hba])
  clear hw13 hba
  obtain ⟨w20, hw20⟩ : ∃ z, w13.alloc (.cells #[.int .u8 1] 5) = z := ⟨_, rfl⟩
  obtain ⟨hrw20, hB⟩ := lit_by (w := w13) (l := [1]) rfl (by decide) hw20
  have HRw20 := Lib.hid hrw20
  clear hrw20
  have hW : Below w13.heap.size w13 w20 := hB
  have HB_w20 := Lib.hid (HB_w13.out.trans (hW.mono HB_w13.out.size))
  have Hf_w20 := Lib.hid (Hf_w13.out.below hW)
  have Hc_w20 := Lib.hid (Hc_w13.out.below hW)
  have Ha_w20 := Lib.hid (Ha_w13.out.below hW)
  clear hW HB_w13 Hf_w13 Hc_w13 Ha_w13
  clear hB
  obtain ⟨w21, hw21⟩ : ∃ z, w20.alloc (.cells #[.bool false, .int .i64 0, .int .i64 0, .slice (some ⟨w13.heap.size, 0, none⟩) 1 1] 37) = z := ⟨_, rfl⟩
  have hB : Below w20.heap.size w20 w21 := hw21 ▸ (Below.refl _ _).alloc (Nat.le_refl _) _
  have HOP := Lib.hid (lit_op (w := w20) (m := 1) (os := [⟨false, 0, 0, [1], some ⟨w13.heap.size, 0, none⟩, 1⟩]) rfl rfl hw21 (by
    intro o ho
    simp at ho
    subst ho
    exact HRw20.out.below (hw21 ▸ (Below.refl _ _).alloc (Nat.le_refl _) _) (Nat.le_refl _)))
  rw [show w20.heap.size = w13.heap.size + 1 by rw [← hw20]; simp] at HOP
  have hW : Below w20.heap.size w20 w21 := hB
  have HB_w21 := Lib.hid (HB_w20.out.trans (hW.mono HB_w20.out.size))
  have Hf_w21 := Lib.hid (Hf_w20.out.below hW)
  have Hc_w21 := Lib.hid (Hc_w20.out.below hW)
  have Ha_w21 := Lib.hid (Ha_w20.out.below hW)
  clear hW HB_w20 Hf_w20 Hc_w20 Ha_w20
  clear hB
  (try rw [hw20])
  (try rw [hw21])
  clear hw21 hw20
  refine (ltold_is _ Aq Ha_w21.out.fw ok_A HOP.out (by decide) (by simp) (Q := Dq) (z := true) (by unfold toldL; simp only [List.foldl_cons, List.foldl_nil, toldA, t3]; rfl)).mono ?_
  rintro e w22 ⟨A20, c20, B20, d20, C20, k20, rfl, hfn, hB⟩
  clear f0 f1 f2 f3 f4 f5 f6 fbl
  have hW : Below w21.heap.size w21 w22 := hB
  have HB_w22 := Lib.hid (HB_w21.out.trans (hW.mono HB_w21.out.size))
  have Hf_w22 := Lib.hid (Hf_w21.out.below hW)
  have Hc_w22 := Lib.hid (Hc_w21.out.below hW)
  have Ha_w22 := Lib.hid (Ha_w21.out.below hW)
  clear hW HB_w21 Hf_w21 Hc_w21 Ha_w21
  clear hB HOP
  obtain ⟨bd, hbd⟩ : ∃ z, w22.heap.size = z := ⟨_, rfl⟩
  obtain ⟨w23, hw23⟩ : ∃ z, w22.alloc (.cells #[.int .i64 Dq.s, .int .i64 Dq.v, .int .i64 Dq.need, .int .i64 Dq.ph, .slice A20 Dq.ms.length c20, .slice B20 Dq.ws.length d20, .slice C20 Dq.bs.length k20] 27) = z := ⟨_, rfl⟩
  obtain ⟨hfb, hB⟩ := BF.new hfn hw23 hbd
  have hW : Below w22.heap.size w22 w23 := hB
  have HB_w23 := Lib.hid (HB_w22.out.trans (hW.mono HB_w22.out.size))
  have Hf_w23 := Lib.hid (Hf_w22.out.below hW)
  have Hc_w23 := Lib.hid (Hc_w22.out.below hW)
  have Ha_w23 := Lib.hid (Ha_w22.out.below hW)
  clear hW HB_w22 Hf_w22 Hc_w22 Ha_w22
  have Hd_w23 := Lib.hid (hfb)
  clear hfn hfb hB
  obtain ⟨⟨f0, f1, f2, f3, f4, f5, f6⟩, fbl⟩ := Hd_w23.out.cells
  go_wp2_with fail
  (try rw [hw23]); (try rw [hbd])
  clear hw23 hbd
  refine (data_is _ Dq.s Dq.v Dq.need Dq.ph (Hd_w23.out.fw.fr ok_D) Hc_w23.out (Q := 2) (M := [[1], [1]]) (r := 0) (fun h => absurd dataD h) (fun _ wx hwx => ?hdat)).mono ?_
  case hdat =>
    have hca : ∃ gf A c, CodeAt wx gc 3 2 gf A c := by
      rcases (Hc_w23.out.below hwx) with ⟨g, gf, A, c, e, h⟩ | ⟨_, e, _⟩
      · injection e with e
        injection e with e _ _
        subst e
        exact ⟨gf, A, c, h⟩
      · exact absurd e (by decide)
    obtain ⟨gf9, A9, c9, hca⟩ := hca
    have hfx := (Hd_w23.out.fw.fr ok_D).below hwx (Nat.le_refl _)
    have hM : MR wx C20 2 (tabM 2 1 (matF [[122], [1]])) := by rw [← u5]; exact hfx.sh
    have hdc := dec_yes B20 2 d20 [2, 0] C20 k20 1 (matF [[122], [1]]) wx hca (by exact hfx.wa) hM (by omega) (by omega) (by have := Hd_w23.out.fw.ob.cap; exact this) pl20 (by omega)
    refine hdc.mono ?_
    rintro e' w' ⟨A8, c8, he, hm, hb⟩
    rw [u4] at hm
    exact ⟨A8, c8, he, hm.mr, hb⟩
  rintro e w24 ⟨A24, c24, rfl, hm24, hB⟩
  clear f0 f1 f2 f3 f4 f5 f6 fbl
  have hW : Below w23.heap.size w23 w24 := hB
  have HB_w24 := Lib.hid (HB_w23.out.trans (hW.mono HB_w23.out.size))
  have Hf_w24 := Lib.hid (Hf_w23.out.below hW)
  have Hc_w24 := Lib.hid (Hc_w23.out.below hW)
  have Ha_w24 := Lib.hid (Ha_w23.out.below hW)
  have Hd_w24 := Lib.hid (Hd_w23.out.below hW)
  clear hW HB_w23 Hf_w23 Hc_w23 Ha_w23 Hd_w23
  have Hm_w24 := Lib.hid (hm24)
  clear hm24 hB
  obtain ⟨⟨f0, f1, f2, f3, f4, f5, f6⟩, fbl⟩ := Ha_w24.out.cells
  go_wp2_with fail
  obtain ⟨w31, hw31⟩ : ∃ z, w24.alloc (.cells #[.bool false, .int .i64 0, .int .i64 12, .slice none 0 0] 37) = z := ⟨_, rfl⟩
  have hB : Below w24.heap.size w24 w31 := hw31 ▸ (Below.refl _ _).alloc (Nat.le_refl _) _
  have HOP := Lib.hid (lit_op (w := w24) (m := 1) (os := [⟨false, 0, 12, [], none, 0⟩]) rfl rfl hw31 (by
    intro o ho
    simp at ho
    subst ho
    exact Rd.nil _ _))
  have hW : Below w24.heap.size w24 w31 := hB
  have HB_w31 := Lib.hid (HB_w24.out.trans (hW.mono HB_w24.out.size))
  have Hf_w31 := Lib.hid (Hf_w24.out.below hW)
  have Hc_w31 := Lib.hid (Hc_w24.out.below hW)
  have Ha_w31 := Lib.hid (Ha_w24.out.below hW)
  have Hd_w31 := Lib.hid (Hd_w24.out.below hW)
  have Hm_w31 := Lib.hid (Hm_w24.out.below hW (Nat.le_refl _))
  clear hW HB_w24 Hf_w24 Hc_w24 Ha_w24 Hd_w24 Hm_w24
  clear hB
  skip
  (try rw [hw31])
  clear hw31
  refine (ltold_is _ Aq Ha_w31.out.fw ok_A HOP.out (by decide) (by simp) (Q := Lq) (z := true) (by unfold toldL; simp only [List.foldl_cons, List.foldl_nil, toldA, t4]; rfl)).mono ?_
  rintro e w32 ⟨A30, c30, B30, d30, C30, k30, rfl, hfn, hB⟩
  clear f0 f1 f2 f3 f4 f5 f6 fbl
  have hW : Below w31.heap.size w31 w32 := hB
  have HB_w32 := Lib.hid (HB_w31.out.trans (hW.mono HB_w31.out.size))
  have Hf_w32 := Lib.hid (Hf_w31.out.below hW)
  have Hc_w32 := Lib.hid (Hc_w31.out.below hW)
  have Ha_w32 := Lib.hid (Ha_w31.out.below hW)
  have Hd_w32 := Lib.hid (Hd_w31.out.below hW)
  have Hm_w32 := Lib.hid (Hm_w31.out.below hW (Nat.le_refl _))
  clear hW HB_w31 Hf_w31 Hc_w31 Ha_w31 Hd_w31 Hm_w31
  clear hB HOP
  obtain ⟨bl, hbl⟩ : ∃ z, w32.heap.size = z := ⟨_, rfl⟩
  obtain ⟨w33, hw33⟩ : ∃ z, w32.alloc (.cells #[.int .i64 Lq.s, .int .i64 Lq.v, .int .i64 Lq.need, .int .i64 Lq.ph, .slice A30 Lq.ms.length c30, .slice B30 Lq.ws.length d30, .slice C30 Lq.bs.length k30] 27) = z := ⟨_, rfl⟩
  obtain ⟨hfb, hB⟩ := BF.new hfn hw33 hbl
  have hW : Below w32.heap.size w32 w33 := hB
  have HB_w33 := Lib.hid (HB_w32.out.trans (hW.mono HB_w32.out.size))
  have Hf_w33 := Lib.hid (Hf_w32.out.below hW)
  have Hc_w33 := Lib.hid (Hc_w32.out.below hW)
  have Ha_w33 := Lib.hid (Ha_w32.out.below hW)
  have Hd_w33 := Lib.hid (Hd_w32.out.below hW)
  have Hm_w33 := Lib.hid (Hm_w32.out.below hW (Nat.le_refl _))
  clear hW HB_w32 Hf_w32 Hc_w32 Ha_w32 Hd_w32 Hm_w32
  have Hl_w33 := Lib.hid (hfb)
  clear hfn hfb hB
  obtain ⟨⟨f0, f1, f2, f3, f4, f5, f6⟩, fbl⟩ := Ha_w33.out.cells
  go_wp2_with fail
  (try rw [hw33]); (try rw [hbl])
  clear hw33 hbl
  refine (lacks_is _ Aq.s Aq.v Aq.need Aq.ph (Ha_w33.out.fw.fr ok_A) lacks_A).mono ?_
  rintro e w34 ⟨A34, c34, rfl, ho34, hB⟩
  clear f0 f1 f2 f3 f4 f5 f6 fbl
  have hW : Below w33.heap.size w33 w34 := hB
  have HB_w34 := Lib.hid (HB_w33.out.trans (hW.mono HB_w33.out.size))
  have Hf_w34 := Lib.hid (Hf_w33.out.below hW)
  have Hc_w34 := Lib.hid (Hc_w33.out.below hW)
  have Ha_w34 := Lib.hid (Ha_w33.out.below hW)
  have Hd_w34 := Lib.hid (Hd_w33.out.below hW)
  have Hm_w34 := Lib.hid (Hm_w33.out.below hW (Nat.le_refl _))
  have Hl_w34 := Lib.hid (Hl_w33.out.below hW)
  clear hW HB_w33 Hf_w33 Hc_w33 Ha_w33 Hd_w33 Hm_w33 Hl_w33
  have Ho_w34 := Lib.hid (ho34.rd)
  clear ho34 hB
  go_wp2_with fail
  obtain ⟨w35, hw35⟩ : ∃ z, w34.alloc (.cells #[.int .i64 1] 3) = z := ⟨_, rfl⟩
  obtain ⟨hr35, hB⟩ := lit_in (w := w34) (l := [1]) rfl hw35
  have hW : Below w34.heap.size w34 w35 := hB
  have HB_w35 := Lib.hid (HB_w34.out.trans (hW.mono HB_w34.out.size))
  have Hf_w35 := Lib.hid (Hf_w34.out.below hW)
  have Hc_w35 := Lib.hid (Hc_w34.out.below hW)
  have Ha_w35 := Lib.hid (Ha_w34.out.below hW)
  have Hd_w35 := Lib.hid (Hd_w34.out.below hW)
  have Hm_w35 := Lib.hid (Hm_w34.out.below hW (Nat.le_refl _))
  have Hl_w35 := Lib.hid (Hl_w34.out.below hW)
  have Ho_w35 := Lib.hid (Ho_w34.out.below hW (Nat.le_refl _))
  clear hW HB_w34 Hf_w34 Hc_w34 Ha_w34 Hd_w34 Hm_w34 Hl_w34 Ho_w34
  clear hB
  (try rw [hw35]); clear hw35
  refine (ints_is Ho_w35.out hr35 (by decide) (q := true) (by decide)).mono ?_
  rintro e w36 ⟨rfl, hB⟩
  clear hr35
  have hW : Below w35.heap.size w35 w36 := hB
  have HB_w36 := Lib.hid (HB_w35.out.trans (hW.mono HB_w35.out.size))
  have Hf_w36 := Lib.hid (Hf_w35.out.below hW)
  have Hc_w36 := Lib.hid (Hc_w35.out.below hW)
  have Ha_w36 := Lib.hid (Ha_w35.out.below hW)
  have Hd_w36 := Lib.hid (Hd_w35.out.below hW)
  have Hm_w36 := Lib.hid (Hm_w35.out.below hW (Nat.le_refl _))
  have Hl_w36 := Lib.hid (Hl_w35.out.below hW)
  have Ho_w36 := Lib.hid (Ho_w35.out.below hW (Nat.le_refl _))
  clear hW HB_w35 Hf_w35 Hc_w35 Ha_w35 Hd_w35 Hm_w35 Hl_w35 Ho_w35
  clear hB
  clear Ho_w36
  have hph : Dq.ph = 2 := rfl
  have hlp : Lq.ph = 3 := rfl
  obtain ⟨⟨f0, f1, f2, f3, f4, f5, f6⟩, fbl⟩ := Hd_w36.out.cells
  obtain ⟨⟨g0, g1, g2, g3, g4, g5, g6⟩, gbl⟩ := Hl_w36.out.cells
  go_wp2_with fail
  obtain ⟨w37, hw37⟩ : ∃ z, w36.alloc (.cells #[.int .i64 2, .int .i64 0] 3) = z := ⟨_, rfl⟩
  obtain ⟨hr37, hB⟩ := lit_in (w := w36) (l := [2, 0]) rfl hw37
  have hW : Below w36.heap.size w36 w37 := hB
  have HB_w37 := Lib.hid (HB_w36.out.trans (hW.mono HB_w36.out.size))
  have Hf_w37 := Lib.hid (Hf_w36.out.below hW)
  have Hc_w37 := Lib.hid (Hc_w36.out.below hW)
  have Ha_w37 := Lib.hid (Ha_w36.out.below hW)
  have Hd_w37 := Lib.hid (Hd_w36.out.below hW)
  have Hm_w37 := Lib.hid (Hm_w36.out.below hW (Nat.le_refl _))
  have Hl_w37 := Lib.hid (Hl_w36.out.below hW)
  clear hW HB_w36 Hf_w36 Hc_w36 Ha_w36 Hd_w36 Hm_w36 Hl_w36
  clear hB
  (try rw [hw37]); clear hw37
  refine (ints_is (l := [2, 0]) Hd_w37.out.fw.ob.rd hr37 (by decide) (q := true) (by decide)).mono ?_
  rintro e w38 ⟨rfl, hB⟩
  clear hr37
  clear f0 f1 f2 f3 f4 f5 f6 fbl g0 g1 g2 g3 g4 g5 g6 gbl
  have hW : Below w37.heap.size w37 w38 := hB
  have HB_w38 := Lib.hid (HB_w37.out.trans (hW.mono HB_w37.out.size))
  have Hf_w38 := Lib.hid (Hf_w37.out.below hW)
  have Hc_w38 := Lib.hid (Hc_w37.out.below hW)
  have Ha_w38 := Lib.hid (Ha_w37.out.below hW)
  have Hd_w38 := Lib.hid (Hd_w37.out.below hW)
  have Hm_w38 := Lib.hid (Hm_w37.out.below hW (Nat.le_refl _))
  have Hl_w38 := Lib.hid (Hl_w37.out.below hW)
  clear hW HB_w37 Hf_w37 Hc_w37 Ha_w37 Hd_w37 Hm_w37 Hl_w37
  clear hB
  obtain ⟨⟨g0, g1, g2, g3, g4, g5, g6⟩, gbl⟩ := Hl_w38.out.cells
  go_wp2_with fail
  obtain ⟨w39, hw39⟩ : ∃ z, w38.alloc (.cells #[.int .u8 1] 5) = z := ⟨_, rfl⟩
  obtain ⟨hr39, hB⟩ := lit_by (w := w38) (l := [1]) rfl (by decide) hw39
  have hW : Below w38.heap.size w38 w39 := hB
  have HB_w39 := Lib.hid (HB_w38.out.trans (hW.mono HB_w38.out.size))
  have Hf_w39 := Lib.hid (Hf_w38.out.below hW)
  have Hc_w39 := Lib.hid (Hc_w38.out.below hW)
  have Ha_w39 := Lib.hid (Ha_w38.out.below hW)
  have Hd_w39 := Lib.hid (Hd_w38.out.below hW)
  have Hm_w39 := Lib.hid (Hm_w38.out.below hW (Nat.le_refl _))
  have Hl_w39 := Lib.hid (Hl_w38.out.below hW)
  clear hW HB_w38 Hf_w38 Hc_w38 Ha_w38 Hd_w38 Hm_w38 Hl_w38
  clear hB
  obtain ⟨w40, hw40⟩ : ∃ z, w39.alloc (.cells #[.int .u8 1] 5) = z := ⟨_, rfl⟩
  obtain ⟨hr40, hB⟩ := lit_by (w := w39) (l := [1]) rfl (by decide) hw40
  have hr39 := hr39.below hB (Nat.le_refl _)
  have hW : Below w39.heap.size w39 w40 := hB
  have HB_w40 := Lib.hid (HB_w39.out.trans (hW.mono HB_w39.out.size))
  have Hf_w40 := Lib.hid (Hf_w39.out.below hW)
  have Hc_w40 := Lib.hid (Hc_w39.out.below hW)
  have Ha_w40 := Lib.hid (Ha_w39.out.below hW)
  have Hd_w40 := Lib.hid (Hd_w39.out.below hW)
  have Hm_w40 := Lib.hid (Hm_w39.out.below hW (Nat.le_refl _))
  have Hl_w40 := Lib.hid (Hl_w39.out.below hW)
  clear hW HB_w39 Hf_w39 Hc_w39 Ha_w39 Hd_w39 Hm_w39 Hl_w39
  clear hB
  obtain ⟨w41, hw41⟩ : ∃ z, w40.alloc (.cells #[.slice (some ⟨w38.heap.size, 0, none⟩) 1 1, .slice (some ⟨w38.heap.size + 1, 0, none⟩) 1 1] 35) = z := ⟨_, rfl⟩
  have hs39 : w39.heap.size = w38.heap.size + 1 := by rw [← hw39]; simp
  have hs40 : w40.heap.size = w38.heap.size + 2 := by rw [← hw40, ← hw39]; simp
  rw [hs39] at hr40
  have hr41 : MR w41 (some ⟨w38.heap.size + 2, 0, none⟩) 2 [[1], [1]] := by
    rw [← hs40]
    have hB : Below w40.heap.size w40 w41 := hw41 ▸ (Below.refl _ _).alloc (Nat.le_refl _) _
    refine ⟨rfl, [.slice (some ⟨w38.heap.size, 0, none⟩) 1 1, .slice (some ⟨w38.heap.size + 1, 0, none⟩) 1 1], hw41 ▸ RdV.new w40 [_, _] 35 (0, 0), fun i r hi => ?_⟩
    match i with
    | 0 => simp at hi; subst hi; exact ⟨_, 1, rfl, hr39.below hB (Nat.le_refl _)⟩
    | 1 => simp at hi; subst hi; exact ⟨_, 1, rfl, hr40.below hB (Nat.le_refl _)⟩
    | i + 2 => simp at hi
  have hB : Below w40.heap.size w40 w41 := hw41 ▸ (Below.refl _ _).alloc (Nat.le_refl _) _
  have hW : Below w40.heap.size w40 w41 := hB
  have HB_w41 := Lib.hid (HB_w40.out.trans (hW.mono HB_w40.out.size))
  have Hf_w41 := Lib.hid (Hf_w40.out.below hW)
  have Hc_w41 := Lib.hid (Hc_w40.out.below hW)
  have Ha_w41 := Lib.hid (Ha_w40.out.below hW)
  have Hd_w41 := Lib.hid (Hd_w40.out.below hW)
  have Hm_w41 := Lib.hid (Hm_w40.out.below hW (Nat.le_refl _))
  have Hl_w41 := Lib.hid (Hl_w40.out.below hW)
  clear hW HB_w40 Hf_w40 Hc_w40 Ha_w40 Hd_w40 Hm_w40 Hl_w40
  clear hB hr39 hr40 hs39 hs40
  (try rw [hw39]); (try rw [hw40]); (try rw [hw41])
  clear hw39 hw40 hw41
  refine (lists_is Hm_w41.out hr41 (by decide) (z := true) (by decide)).mono ?_
  rintro e w42 ⟨rfl, hB⟩
  clear hr41
  clear g0 g1 g2 g3 g4 g5 g6 gbl
  have hW : Below w41.heap.size w41 w42 := hB
  have HB_w42 := Lib.hid (HB_w41.out.trans (hW.mono HB_w41.out.size))
  have Hf_w42 := Lib.hid (Hf_w41.out.below hW)
  have Hc_w42 := Lib.hid (Hc_w41.out.below hW)
  have Ha_w42 := Lib.hid (Ha_w41.out.below hW)
  have Hd_w42 := Lib.hid (Hd_w41.out.below hW)
  have Hm_w42 := Lib.hid (Hm_w41.out.below hW (Nat.le_refl _))
  have Hl_w42 := Lib.hid (Hl_w41.out.below hW)
  clear hW HB_w41 Hf_w41 Hc_w41 Ha_w41 Hd_w41 Hm_w41 Hl_w41
  clear hB
  obtain ⟨⟨g0, g1, g2, g3, g4, g5, g6⟩, gbl⟩ := Hl_w42.out.cells
  go_wp2
  go_ret
  exact told_mk rfl HB_w42.out
end
end Go.Proofs.Ytkkpfehgobanbaa
