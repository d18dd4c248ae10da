/- What is no matrix; the ranks of the greatest ones. -/
import Derived.Test.YtcggcbfddgfigaaMtxS
namespace Go.Proofs.Ytcggcbfddgfigaa
open Go.RowKit Go.Coop

set_option maxRecDepth 100000 in
theorem errs_any {bo br : Nat} (g : Nat) (A : Option Addr) (n c : Nat) (M : List (List UInt8)) (w : World) (hf : FldAt w g) (h : MO w bo br A n c M) (hn : n ≤ 140737488355328) (hr : rightB M = false) :
    Calls Try.prog 11 #[.pointer (some ⟨g, 0, none⟩), .slice A n c] w fun e w' => e = .returned (.bool true) ∧ Below w.heap.size w w' := by
  have HF := Lib.hid hf
  have HM := Lib.hid h
  have HR := Lib.hid hr
  clear hf h hr
  go_enter Try.func11, Try.ntmps11
  go_wp2_with fail
  refine (mul_shape g A n c M A n c M w HF.out HM.out HM.out hn hn (.inl HR.out)).mono ?_
  rintro e w1 ⟨rfl, hB⟩
  have HF1 := Lib.hid (HF.out.below hB HF.out.lt)
  have HM1 := Lib.hid (HM.out.below hB (Nat.le_refl _))
  have HB1 := Lib.hid hB
  clear hB
  go_wp2_with fail
  refine (pick_shape A n c M _ 1 1 _ (by exact HM1.out.alloc _) hn HR.out).mono ?_
  rintro e w2 ⟨rfl, hB⟩
  have hW : Below w1.heap.size w1 w2 := ((Below.refl w1.heap.size w1).alloc (Nat.le_refl _) _).trans (hB.mono (by simp))
  have HF2 := Lib.hid (HF1.out.below hW HF1.out.lt)
  have HM2 := Lib.hid (HM1.out.below hW (Nat.le_refl _))
  have HB2 := Lib.hid (HB1.out.trans (hW.mono HB1.out.size))
  clear hB hW
  go_wp2_with fail
  refine (invert_shape g A n c M w2 HF2.out HM2.out hn (.inl HR.out)).mono ?_
  rintro e w3 ⟨rfl, hB⟩
  have HF3 := Lib.hid (HF2.out.below hB HF2.out.lt)
  have HM3 := Lib.hid (HM2.out.below hB (Nat.le_refl _))
  have HB3 := Lib.hid (HB2.out.trans (hB.mono HB2.out.size))
  clear hB
  go_wp2_with fail
  have K := right_any A n c M w3 HM3.out hn
  rw [HR.out] at K
  refine K.mono ?_
  rintro e w4 ⟨rfl, rfl⟩
  clear K
  go_wp2_with fail
  refine (rank_wrong g A n c M w3 HF3.out HM3.out hn HR.out).mono ?_
  rintro e w4 ⟨rfl, j, rfl⟩
  go_wp2
  go_ret
  exact ⟨rfl, HB3.out.trans ⟨rfl, rfl, rfl, Nat.le_refl _, fun _ _ => rfl⟩⟩

theorem cauchy_rank {s : Nat} (h : s + s ≤ 256) : rankF s s (cauF s) unitF = s := by
  have hR : RankIs (nf (cauF s)) s s s := by
    refine ⟨nf (cauF s), fun t ht hs => ?_, fun i hi => Span.self hi (nf_lt _), fun i hi => Span.self hi (nf_lt _)⟩
    refine cauchy_free s (fun i => s + i) (fun j => j) t (fun i hi => ?_) (fun j hj => ?_) (fun i j hi hj => ?_) (fun i j hi hj hij => ?_) (fun i j hi hj hij => hij) (fun i _ => ht i) (fun j hj => ?_)
    · show s + i < 256; omega
    · show j < 256; omega
    · show s + i ≠ j; omega
    · show s + i ≠ s + j; omega
    · refine (xs_congr fun i _ => ?_).trans (hs j hj)
      rw [nf_cauF]
  exact (rankF_is s s (cauF s) unitF).unique hR (nf_lt _)
theorem unit_rank (n : Nat) : rankF n n unitF unitF = n := by
  have e : nf unitF = unitM := by funext i j; exact nf_unit i j
  exact full_of_inv (F := unitF) (G := unitF) unitM_lt (by rw [e]; exact Inv2.unit n)

/-- one that is no matrix -/
def Bad (w : World) (A : Option Addr) (n c : Nat) : Prop := n ≤ 256 ∧ ∃ M, MO w 0 0 A n c M ∧ rightB M = false
theorem Bad.below {w w' : World} {A : Option Addr} {n c B : Nat} (h : Bad w A n c) (hb : Below B w w') (hB : w.heap.size ≤ B) : Bad w' A n c := by
  obtain ⟨h1, M, h2, h3⟩ := h
  exact ⟨h1, M, h2.below hb hB, h3⟩
theorem Bad.alloc {w : World} {A : Option Addr} {n c : Nat} (h : Bad w A n c) (o : Obj) : Bad (w.alloc o) A n c := h.below ((Below.refl w.heap.size w).alloc (Nat.le_refl _) o) (Nat.le_refl _)
theorem bad_of {w : World} {bo br : Nat} {A : Option Addr} {n c : Nat} {M : List (List UInt8)} (h : MO w bo br A n c M) (hn : n ≤ 256) (hr : rightB M = false) : Bad w A n c := ⟨hn, M, h.lower (Nat.zero_le _) (Nat.zero_le _), hr⟩
theorem bad_nil (w : World) : Bad w none 0 0 := bad_of (MO.nil w 0 0) (by omega) rfl
theorem bad_zero (w : World) : Bad (w.alloc (.cells #[] 26)) (some ⟨w.heap.size, 0, none⟩) 0 0 :=
  bad_of (bo := w.heap.size) (br := 0) (M := []) ⟨rfl, [], ⟨rfl, World.ownsRow_lit (base := w.heap.size) (e := 26) (size := 1) w #[] 0 (Nat.le_refl _) (by simp) rfl⟩, fun i r hi => by simp at hi⟩ (by omega) rfl
theorem own_empty (w : World) : Own (w.alloc (.cells #[] 5)) w.heap.size 5 (some ⟨w.heap.size, 0, none⟩) 0 0 [] := own_new w [] 0 rfl (by decide)
theorem bad_one {w : World} {br k d : Nat} {B : Option Addr} {r : List UInt8} (h : Own w br 5 B k d r) (hr : rightB [r] = false) : Bad (w.alloc (.cells #[.slice B k d] 26)) (some ⟨w.heap.size, 0, none⟩) 1 1 := bad_of (lit_one h) (by omega) hr
theorem bad_two {w : World} {br k d k' d' : Nat} {B B' : Option Addr} {r r' : List UInt8} (h : Own w br 5 B k d r) (h' : Own w br 5 B' k' d' r') (hr : rightB [r, r'] = false) : Bad (w.alloc (.cells #[.slice B k d, .slice B' k' d'] 26)) (some ⟨w.heap.size, 0, none⟩) 2 2 := bad_of (lit_two h h') (by omega) hr

/-- the world behind the law's list of such, and what stands there -/
def seven (w : World) (g : Nat) : World :=
  ((((((((((w.alloc (.cells #[] 26)).alloc (.cells #[] 5)).alloc (.cells #[.slice (some ⟨w.heap.size + 1, 0, none⟩) 0 0] 26)).alloc (.cells #[.int .u8 1, .int .u8 2] 5)).alloc (.cells #[.int .u8 3] 5)).alloc
    (.cells #[.slice (some ⟨w.heap.size + 3, 0, none⟩) 2 2, .slice (some ⟨w.heap.size + 4, 0, none⟩) 1 1] 26)).alloc (.cells #[.int .u8 1] 5)).alloc (.cells #[.slice none 0 0, .slice (some ⟨w.heap.size + 6, 0, none⟩) 1 1] 26)).alloc
    (.cells (rowC 256 (fun _ => 0)) 5)).alloc (.cells #[.slice (some ⟨w.heap.size + 8, 0, none⟩) 256 256] 26)).alloc
    (.cells #[.slice none 0 0, .slice (some ⟨w.heap.size, 0, none⟩) 0 0, .slice (some ⟨w.heap.size + 2, 0, none⟩) 1 1, .slice (some ⟨w.heap.size + 5, 0, none⟩) 2 2, .slice (some ⟨w.heap.size + 7, 0, none⟩) 2 2, .slice (some ⟨w.heap.size + 9, 0, none⟩) 1 1, .slice (some ⟨g, 0, none⟩) 256 256] 25)
theorem seven_ok (w : World) (g : Nat) (h : Bad w (some ⟨g, 0, none⟩) 256 256) : Below w.heap.size w (seven w g) ∧ ∀ i, i < 7 → ∃ A n c, (seven w g).cell? ⟨w.heap.size + 10, i, none⟩ = some (.slice A n c) ∧ Bad (seven w g) A n c := by
  obtain ⟨s, hs⟩ : ∃ s, w.heap.size = s := ⟨_, rfl⟩
  have b0 := bad_nil w
  have b1 := bad_zero w
  rw [hs] at b1
  have s1 : (w.alloc (.cells #[] 26)).heap.size = s + 1 := by rw [size_alloc, hs]
  generalize hw1 : w.alloc (.cells #[] 26) = w1 at *
  have o1 := own_empty w1
  have s2 : (w1.alloc (.cells #[] 5)).heap.size = s + 2 := by rw [size_alloc, s1]
  generalize hw2 : w1.alloc (.cells #[] 5) = w2 at *
  have b2 := bad_one o1 (by decide)
  rw [s1, s2] at b2
  have s3 : (w2.alloc (.cells #[.slice (some ⟨s + 1, 0, none⟩) 0 0] 26)).heap.size = s + 3 := by rw [size_alloc, s2]
  generalize hw3 : w2.alloc (.cells #[.slice (some ⟨s + 1, 0, none⟩) 0 0] 26) = w3 at *
  have o3 := own_new w3 [1, 2] 2 rfl (by decide)
  have s4 : (w3.alloc (.cells (bvs [1, 2]).toArray 5)).heap.size = s + 4 := by rw [size_alloc, s3]
  generalize hw4 : w3.alloc (.cells (bvs [1, 2]).toArray 5) = w4 at *
  have o4 := own_new w4 [3] 1 rfl (by decide)
  have s5 : (w4.alloc (.cells (bvs [3]).toArray 5)).heap.size = s + 5 := by rw [size_alloc, s4]
  have o3' := o3.alloc (.cells (bvs [3]).toArray 5)
  generalize hw5 : w4.alloc (.cells (bvs [3]).toArray 5) = w5 at *
  have b3 := bad_two (o3'.lower (Nat.zero_le _)) (o4.lower (Nat.zero_le _)) (by decide)
  rw [s3, s4, s5] at b3
  have s6 : (w5.alloc (.cells #[.slice (some ⟨s + 3, 0, none⟩) 2 2, .slice (some ⟨s + 4, 0, none⟩) 1 1] 26)).heap.size = s + 6 := by rw [size_alloc, s5]
  generalize hw6 : w5.alloc (.cells #[.slice (some ⟨s + 3, 0, none⟩) 2 2, .slice (some ⟨s + 4, 0, none⟩) 1 1] 26) = w6 at *
  have o6 := own_new w6 [1] 1 rfl (by decide)
  have s7 : (w6.alloc (.cells (bvs [1]).toArray 5)).heap.size = s + 7 := by rw [size_alloc, s6]
  generalize hw7 : w6.alloc (.cells (bvs [1]).toArray 5) = w7 at *
  have b4 := bad_two (Own.nil w7 0 5) (o6.lower (Nat.zero_le _)) (by decide)
  rw [s6, s7] at b4
  have s8 : (w7.alloc (.cells #[.slice none 0 0, .slice (some ⟨s + 6, 0, none⟩) 1 1] 26)).heap.size = s + 8 := by rw [size_alloc, s7]
  generalize hw8 : w7.alloc (.cells #[.slice none 0 0, .slice (some ⟨s + 6, 0, none⟩) 1 1] 26) = w8 at *
  have o8 := own_new w8 (rowL 256 fun _ => 0) 256 (rowL_len _ _) (by decide)
  have s9 : (w8.alloc (.cells (bvs (rowL 256 fun _ => 0)).toArray 5)).heap.size = s + 9 := by rw [size_alloc, s8]
  have e9 : w8.alloc (.cells (bvs (rowL 256 fun _ => 0)).toArray 5) = w8.alloc (.cells (rowC 256 (fun _ => 0)) 5) := rfl
  generalize hw9 : w8.alloc (.cells (bvs (rowL 256 fun _ => 0)).toArray 5) = w9 at *
  have b5 := bad_one o8 (by unfold rightB; simp [rowL_len])
  rw [s8, s9] at b5
  have s10 : (w9.alloc (.cells #[.slice (some ⟨s + 8, 0, none⟩) 256 256] 26)).heap.size = s + 10 := by rw [size_alloc, s9]
  generalize hw10 : w9.alloc (.cells #[.slice (some ⟨s + 8, 0, none⟩) 256 256] 26) = w10 at *
  have hfin : seven w g = w10.alloc (.cells #[.slice none 0 0, .slice (some ⟨s, 0, none⟩) 0 0, .slice (some ⟨s + 2, 0, none⟩) 1 1, .slice (some ⟨s + 5, 0, none⟩) 2 2, .slice (some ⟨s + 7, 0, none⟩) 2 2, .slice (some ⟨s + 9, 0, none⟩) 1 1, .slice (some ⟨g, 0, none⟩) 256 256] 25) := by
    unfold seven
    rw [hs, ← hw10, e9, ← hw8, ← hw7, ← hw6, ← hw5, ← hw4, ← hw3, ← hw2, ← hw1]
    rfl
  have t1 : Below s w w1 := by rw [← hw1]; exact (Below.refl _ _).alloc (by omega) _
  have t2 : Below s w w2 := by rw [← hw2]; exact t1.alloc (by omega) _
  have t3 : Below s w w3 := by rw [← hw3]; exact t2.alloc (by omega) _
  have t4 : Below s w w4 := by rw [← hw4]; exact t3.alloc (by omega) _
  have t5 : Below s w w5 := by rw [← hw5]; exact t4.alloc (by omega) _
  have t6 : Below s w w6 := by rw [← hw6]; exact t5.alloc (by omega) _
  have t7 : Below s w w7 := by rw [← hw7]; exact t6.alloc (by omega) _
  have t8 : Below s w w8 := by rw [← hw8]; exact t7.alloc (by omega) _
  have t9 : Below s w w9 := by rw [e9]; exact t8.alloc (by omega) _
  have t10 : Below s w w10 := by rw [← hw10]; exact t9.alloc (by omega) _
  have u1 : ∀ {A n c}, Bad w1 A n c → Bad w2 A n c := fun x => by rw [← hw2]; exact x.alloc _
  have u2 : ∀ {A n c}, Bad w2 A n c → Bad w3 A n c := fun x => by rw [← hw3]; exact x.alloc _
  have u3 : ∀ {A n c}, Bad w3 A n c → Bad w4 A n c := fun x => by rw [← hw4]; exact x.alloc _
  have u4 : ∀ {A n c}, Bad w4 A n c → Bad w5 A n c := fun x => by rw [← hw5]; exact x.alloc _
  have u5 : ∀ {A n c}, Bad w5 A n c → Bad w6 A n c := fun x => by rw [← hw6]; exact x.alloc _
  have u6 : ∀ {A n c}, Bad w6 A n c → Bad w7 A n c := fun x => by rw [← hw7]; exact x.alloc _
  have u7 : ∀ {A n c}, Bad w7 A n c → Bad w8 A n c := fun x => by rw [← hw8]; exact x.alloc _
  have u8 : ∀ {A n c}, Bad w8 A n c → Bad w9 A n c := fun x => by rw [e9]; exact x.alloc _
  have u9 : ∀ {A n c}, Bad w9 A n c → Bad w10 A n c := fun x => by rw [← hw10]; exact x.alloc _
  have hc : ∀ i v, #[Value.slice none 0 0, .slice (some ⟨s, 0, none⟩) 0 0, .slice (some ⟨s + 2, 0, none⟩) 1 1, .slice (some ⟨s + 5, 0, none⟩) 2 2, .slice (some ⟨s + 7, 0, none⟩) 2 2, .slice (some ⟨s + 9, 0, none⟩) 1 1, .slice (some ⟨g, 0, none⟩) 256 256][i]? = some v → (seven w g).cell? ⟨s + 10, i, none⟩ = some v := fun i v hv => by
    rw [hfin, cell_of_row _ (s + 10) i _ 25 (0, 0) (by rw [← s10]; exact heap_alloc_new w10 _)]; exact hv
  rw [hs]
  refine ⟨by rw [hfin]; exact t10.alloc (by omega) _, fun i hi => ?_⟩
  match i, hi with
  | 0, _ => exact ⟨_, _, _, hc 0 _ rfl, bad_nil _⟩
  | 1, _ => exact ⟨_, _, _, hc 1 _ rfl, by rw [hfin]; exact (u9 (u8 (u7 (u6 (u5 (u4 (u3 (u2 (u1 b1)))))))) ).alloc _⟩
  | 2, _ => exact ⟨_, _, _, hc 2 _ rfl, by rw [hfin]; exact (u9 (u8 (u7 (u6 (u5 (u4 (u3 b2))))))).alloc _⟩
  | 3, _ => exact ⟨_, _, _, hc 3 _ rfl, by rw [hfin]; exact (u9 (u8 (u7 (u6 b3)))).alloc _⟩
  | 4, _ => exact ⟨_, _, _, hc 4 _ rfl, by rw [hfin]; exact (u9 (u8 b4)).alloc _⟩
  | 5, _ => exact ⟨_, _, _, hc 5 _ rfl, by rw [hfin]; exact b5.alloc _⟩
  | 6, _ => exact ⟨_, _, _, hc 6 _ rfl, by rw [hfin]; exact (h.below t10 (by rw [hs]; exact Nat.le_refl _)).alloc _⟩
end Go.Proofs.Ytcggcbfddgfigaa
