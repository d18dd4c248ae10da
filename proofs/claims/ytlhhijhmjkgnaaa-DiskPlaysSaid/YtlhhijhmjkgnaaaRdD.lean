/- The reference's Spoil, Read, Arm. -/
import Derived.Test.YtlhhijhmjkgnaaaRdC
namespace Go.Proofs.Ytlhhijhmjkgnaaa
open Go.RowKit Go.Coop
set_option maxRecDepth 100000
theorem addr_succ (a : Addr) (j : Nat) : a.add (j + 1) = ⟨(a.add j).block, (a.add j).off + 1, none⟩ := by
  rw [addr_add_block, addr_off]
  unfold Addr.add
  rw [if_neg (by omega)]
  rfl
section
variable {A : Option Addr} {n c : Nat} {lf : Int} {dn : Bool} (w : World)
theorem rspoil_sector {i : Int} (hi : i < 0 ∨ (n : Int) ≤ i) (a t : Int) : Calls Try.prog 26 #[.agg #[.slice A n c, .int .i64 lf, .bool dn], .int .i64 i, .int .i64 a, .int .u8 t] w (RSame A n c lf dn 50 w) := by
  by_cases h0 : i < 0
  · go_enter Try.func26, Try.ntmps26
    go_wp2
    refine bodyPost_ret (v := .tuple #[.agg #[.slice A n c, .int .i64 lf, .bool dn], .int .i64 50]) ?_ rfl ⟨rfl, below_two _ _ _⟩
    rw [results_cell_tmp rfl]
    simp [asAddr, Result.andThen, load42 (heap_second w (.cells #[.slice A n c, .int .i64 lf, .bool dn] 42) (.cells #[.slice A n c, .int .i64 lf, .bool dn] 42)) rfl]
  · have h1 : (n : Int) ≤ i := by omega
    go_enter Try.func26, Try.ntmps26
    go_wp2
    refine bodyPost_ret (v := .tuple #[.agg #[.slice A n c, .int .i64 lf, .bool dn], .int .i64 50]) ?_ rfl ⟨rfl, below_two _ _ _⟩
    rw [results_cell_tmp rfl]
    simp [asAddr, Result.andThen, load42 (heap_second w (.cells #[.slice A n c, .int .i64 lf, .bool dn] 42) (.cells #[.slice A n c, .int .i64 lf, .bool dn] 42)) rfl]
theorem rspoil_arg {i : Nat} (hi : i < n) {a : Int} (ha : a < 0 ∨ 64 ≤ a) (t : Int) : Calls Try.prog 26 #[.agg #[.slice A n c, .int .i64 lf, .bool dn], .int .i64 (i : Int), .int .i64 a, .int .u8 t] w (RSame A n c lf dn 2 w) := by
  by_cases h0 : a < 0
  · go_enter Try.func26, Try.ntmps26
    go_wp2
    refine bodyPost_ret (v := .tuple #[.agg #[.slice A n c, .int .i64 lf, .bool dn], .int .i64 2]) ?_ rfl ⟨rfl, below_two _ _ _⟩
    rw [results_cell_tmp rfl]
    simp [asAddr, Result.andThen, load42 (heap_second w (.cells #[.slice A n c, .int .i64 lf, .bool dn] 42) (.cells #[.slice A n c, .int .i64 lf, .bool dn] 42)) rfl]
  · have h1 : (64 : Int) ≤ a := by omega
    go_enter Try.func26, Try.ntmps26
    go_wp2
    refine bodyPost_ret (v := .tuple #[.agg #[.slice A n c, .int .i64 lf, .bool dn], .int .i64 2]) ?_ rfl ⟨rfl, below_two _ _ _⟩
    rw [results_cell_tmp rfl]
    simp [asAddr, Result.andThen, load42 (heap_second w (.cells #[.slice A n c, .int .i64 lf, .bool dn] 42) (.cells #[.slice A n c, .int .i64 lf, .bool dn] 42)) rfl]
theorem rread_down (i : Int) : Calls Try.prog 25 #[.agg #[.slice A n c, .int .i64 lf, .bool true], .int .i64 i] w fun e w' => e = .returned (.tuple #[.slice none 0 0, .int .i64 15]) ∧ Below w.heap.size w w' := by
  go_enter Try.func25, Try.ntmps25
  go_wp2
  go_ret2
  exact ⟨rfl, (Below.refl _ _).alloc (Nat.le_refl _) _⟩
theorem rread_yes {med : Nat → List UInt8} {cache : Nat → Option (List UInt8)} (h : RDk w A n med cache) {i : Nat} (hi : i < n) : Calls Try.prog 25 #[.agg #[.slice A n c, .int .i64 lf, .bool false], .int .i64 (i : Int)] w fun e w' => ∃ X d, e = .returned (.tuple #[.slice X 64 d, .int .i64 0]) ∧ Rd w' X 64 ((cache i).getD (med i)) ∧ Below w.heap.size w w' := by
  obtain ⟨ad, k, rfl, hlt, hk1, hk2, hk3, hk4⟩ := h.get hi
  have HK := Lib.hid hk3
  have hl1 : (ad.add (i * 2)).block < w.heap.size := by rw [addr_add_block]; exact hlt
  have hl2 : (ad.add (i * 2 + 1)).block < w.heap.size := by rw [addr_add_block]; exact hlt
  have hb1 : Below w.heap.size w (w.alloc (.cells #[.slice (some ad) n c, .int .i64 lf, .bool false] 42)) := (Below.refl _ _).alloc (Nat.le_refl _) _
  replace hk1 := (hb1.cell hl1).trans hk1
  replace hk2 := (hb1.cell hl2).trans hk2
  rw [addr_succ] at hk2
  clear h hk3 hl1 hl2 hb1
  cases ho : cache i with
  | none =>
    rw [ho] at hk4
    change k.lc = 0 at hk4
    rw [hk4] at hk2
    clear hk4
    go_enter Try.func25, Try.ntmps25
    go_wp2
    go_ret2
    exact ⟨_, _, rfl, HK.out.1.alloc _, (Below.refl _ _).alloc (Nat.le_refl _) _⟩
  | some l =>
    rw [ho] at hk4
    obtain ⟨h1, h2⟩ := hk4
    rw [h1] at hk2
    have HL := Lib.hid h2
    clear h1 h2
    go_enter Try.func25, Try.ntmps25
    go_wp2
    go_ret2
    exact ⟨_, _, rfl, HL.out.1.alloc _, (Below.refl _ _).alloc (Nat.le_refl _) _⟩
/-- a disk alone -/
def ROne (n : Nat) (lf : Int) (dn : Bool) (A : Option Addr) (c : Nat) (w : World) (e : Ending) (w' : World) : Prop := e = .returned (.agg #[.slice A n c, .int .i64 lf, .bool dn]) ∧ Below w.heap.size w w'
theorem rarm_down (k : Int) : Calls Try.prog 27 #[.agg #[.slice A n c, .int .i64 lf, .bool true], .int .i64 k] w (ROne n lf true A c w) := by
  go_enter Try.func27, Try.ntmps27
  go_wp2
  refine bodyPost_ret (v := .agg #[.slice A n c, .int .i64 lf, .bool true]) (results_cell_row rfl _ _ (w.heap.size + 1) 42 _ (0, 0) _ rfl (heap_second w (.cells #[.slice A n c, .int .i64 lf, .bool true] 42) (.cells #[.slice A n c, .int .i64 lf, .bool true] 42)) Try.underlying42 rfl (by kernel_rfl)) rfl ⟨rfl, below_two _ _ _⟩
theorem rarm_up (k : Int) : Calls Try.prog 27 #[.agg #[.slice A n c, .int .i64 lf, .bool false], .int .i64 k] w (ROne n (max k 0) false A c w) := by
  by_cases h0 : k < 0
  · rw [show max k 0 = 0 by omega]
    go_enter Try.func27, Try.ntmps27
    go_wp2
    refine bodyPost_ret (v := .agg #[.slice A n c, .int .i64 0, .bool false]) (results_cell_row rfl _ _ (w.heap.size + 1) 42 _ (0, 0) _ rfl (heap_second w (.cells #[.slice A n c, .int .i64 0, .bool false] 42) (.cells #[.slice A n c, .int .i64 0, .bool false] 42)) Try.underlying42 rfl (by kernel_rfl)) rfl ⟨rfl, below_two _ _ _⟩
  · rw [show max k 0 = k by omega]
    go_enter Try.func27, Try.ntmps27
    go_wp2
    refine bodyPost_ret (v := .agg #[.slice A n c, .int .i64 k, .bool false]) (results_cell_row rfl _ _ (w.heap.size + 1) 42 _ (0, 0) _ rfl (heap_second w (.cells #[.slice A n c, .int .i64 k, .bool false] 42) (.cells #[.slice A n c, .int .i64 k, .bool false] 42)) Try.underlying42 rfl (by kernel_rfl)) rfl ⟨rfl, below_two _ _ _⟩
end
theorem rspoil_yes (w : World) {A : Option Addr} {n c i k : Nat} {med : Nat → List UInt8} {cache : Nat → Option (List UInt8)} {lf : Int} {dn : Bool} (h : RDk w A n med cache) (hn : n ≤ 1000000) (hi : i < n) (hk : k < 64) (t : UInt8) :
    Calls Try.prog 26 #[.agg #[.slice A n c, .int .i64 lf, .bool dn], .int .i64 (i : Int), .int .i64 (k : Int), .int .u8 (t.toNat : Int)] w (RNew n (upd med i (turn (med i) k t)) cache lf dn 0 w) := by
  obtain ⟨ad, q, rfl, hlt, hk1, hk2, hk3, hk4⟩ := h.get hi
  have HX := Lib.hid (And.intro h (And.intro hk1 (And.intro hk2 (And.intro hk3 (And.intro hk4 hlt)))))
  have hl1 : (ad.add (i * 2)).block < w.heap.size := by rw [addr_add_block]; exact hlt
  have hb1 := below_two w (.cells #[.slice (some ad) n c, .int .i64 lf, .bool dn] 42) (.cells #[.slice none 0 0, .int .i64 0, .bool false] 42)
  replace hk1 := (hb1.cell hl1).trans hk1
  clear h hk2 hk3 hk4 hl1 hb1
  go_enter Try.func26, Try.ntmps26
  go_wp2_with fail
  refine (rown_any _ 64 _ (med i) _ ((HX.out.2.2.2.1.1.alloc _).alloc _) (by omega)).mono ?_
  rintro e w1 ⟨Y, yc, rfl, hY, hB⟩
  obtain ⟨h4, h8, hw⟩ := boxes hB
  obtain ⟨gy, rfl, hgy, hgl, hgf⟩ := hY.addr (by omega)
  obtain ⟨ad', b, e', hbl, hb, hcell⟩ := hY.rd.at_ hk
  injection e' with e'
  subst e'
  rw [addr_at, Nat.zero_add] at hcell
  unfold BV at hcell
  have hfr := hgf k
  have hx := u8_xor b t
  have c30 := cell_of_row w1 w.heap.size 0 _ 42 (0, 0) h4
  have c31 := cell_of_row w1 w.heap.size 1 _ 42 (0, 0) h4
  have c32 := cell_of_row w1 w.heap.size 2 _ 42 (0, 0) h4
  have c60 := cell_of_row w1 (w.heap.size + 1) 0 _ 42 (0, 0) h8
  have c61 := cell_of_row w1 (w.heap.size + 1) 1 _ 42 (0, 0) h8
  have c62 := cell_of_row w1 (w.heap.size + 1) 2 _ 42 (0, 0) h8
  have r30 := frozen_of_row w1 w.heap.size 0 _ 42 h4
  have r31 := frozen_of_row w1 w.heap.size 1 _ 42 h4
  have r32 := frozen_of_row w1 w.heap.size 2 _ 42 h4
  have r60 := frozen_of_row w1 (w.heap.size + 1) 0 _ 42 h8
  have r61 := frozen_of_row w1 (w.heap.size + 1) 1 _ 42 h8
  have r62 := frozen_of_row w1 (w.heap.size + 1) 2 _ 42 h8
  simp at c30 c31 c32 c60 c61 c62
  have HH := Lib.hid (And.intro h4 (And.intro h8 (And.intro hw (And.intro hY (And.intro hgy hb)))))
  clear h4 h8 hw hY hgy hgf hb hB hbl hk1 r30 r31 r32
  have hkk := hk
  go_upto_region 7 with (fail)
  obtain ⟨w2, hw2⟩ : ∃ w2, w1.setCell ⟨gy, k, none⟩ (.int .u8 ((b.toNat ^^^ t.toNat : Nat) : Int)) = w2 := ⟨_, rfl⟩
  have hY2 : Rd5 w2 (some ⟨gy, 0, none⟩) (turn (med i) k t) := by
    have := rd5_own (HH.out.2.2.2.1.set (k := k) rfl (b ^^^ t))
    rw [← hw2]
    unfold turn
    rw [List.getD_eq_getElem?_getD, HH.out.2.2.2.2.2]
    unfold BV at this
    rw [UInt8.toNat_xor] at this
    exact this
  have hb2 : But [gy] w1 w2 := hw2 ▸ (But.refl [gy] w1).setCell (by simp) _
  have h4 := hb2.cells HH.out.1 (by have := HH.out.2.2.2.2.1; simp at this ⊢; omega)
  have h8 := hb2.cells HH.out.2.1 (by have := HH.out.2.2.2.2.1; simp at this ⊢; omega)
  have hw : Below w.heap.size w w2 := HH.out.2.2.1.trans (hb2.below HH.out.2.2.1.size (by have := HH.out.2.2.2.2.1; simp at this ⊢; omega))
  rw [hw2]
  clear hw2 hb2 hcell hfr hx c60 c61 c62 c30 c31 c32 r60 r61 r62
  have hl1 : (ad.add (i * 2)).block < w.heap.size := by rw [addr_add_block]; exact hlt
  have hl2 : (ad.add (i * 2 + 1)).block < w.heap.size := by rw [addr_add_block]; exact hlt
  have hk1 := (hw.cell hl1).trans HX.out.2.1
  have hk2 := (hw.cell hl2).trans HX.out.2.2.1
  rw [addr_succ] at hk2
  have c30 := cell_of_row w2 w.heap.size 0 _ 42 (0, 0) h4
  have c31 := cell_of_row w2 w.heap.size 1 _ 42 (0, 0) h4
  have c32 := cell_of_row w2 w.heap.size 2 _ 42 (0, 0) h4
  simp at c30 c31 c32
  have HH2 := Lib.hid (And.intro h4 (And.intro h8 (And.intro hw hY2)))
  clear h4 h8 hw hY2 HH hl1 hl2
  refine wp_region_still_tail 10 (by kernel_rfl) (by kernel_rfl) ?_
  simp only [List.take_succ_cons, List.take_zero, List.drop_succ_cons, List.drop_zero]
  iterate 10 still_step
  refine wpStill_nil ?_
  have HWD := Lib.hid ((RDk.below HX.out.1 HH2.out.2.2.1))
  go_wp2_with fail
  refine (with_any _ (RDk.below HWD.out (show Below w2.heap.size w2 w2.drew from (Below.refl _ _).drew)) hn hi ⟨some ⟨gy, 0, none⟩, yc, q.ac, q.lc, q.cc⟩ (lm := turn (med i) k t) (oc := cache i) (HH2.out.2.2.2.drew) ?_ lf dn).mono ?_
  · exact (HX.out.2.2.2.2.1.below HH2.out.2.2.1).below (w := w2) (Below.refl _ _).drew
  rintro e w5 ⟨A', c', rfl, hD5, hB5⟩
  rw [upd_id] at hD5
  have HB5 : Hid (Below w2.heap.size w2 w5) := (Below.refl _ _).drew.trans hB5
  have h8 := (HB5.out.block _ (Array.getElem?_eq_some_iff.1 HH2.out.2.1).1).trans HH2.out.2.1
  have c60 := cell_of_row w5 (w.heap.size + 1) 0 _ 42 (0, 0) h8
  have c61 := cell_of_row w5 (w.heap.size + 1) 1 _ 42 (0, 0) h8
  have c62 := cell_of_row w5 (w.heap.size + 1) 2 _ 42 (0, 0) h8
  have r60 := frozen_of_row w5 (w.heap.size + 1) 0 _ 42 h8
  have r61 := frozen_of_row w5 (w.heap.size + 1) 1 _ 42 h8
  have r62 := frozen_of_row w5 (w.heap.size + 1) 2 _ 42 h8
  simp at c60 c61 c62
  have HD5 := Lib.hid (And.intro hD5 h8)
  clear hD5 hB5 h8
  go_wp2
  have hBw : Below w.heap.size w w5 := HH2.out.2.2.1.trans (HB5.out.mono HH2.out.2.2.1.size)
  have HZ : But [w.heap.size + 1] w5 (((w5.setCell ⟨(w.heap.size + 1), 0, none⟩ (.slice A' n c')).setCell ⟨(w.heap.size + 1), 1, none⟩ (.int .i64 lf)).setCell ⟨(w.heap.size + 1), 2, none⟩ (.bool dn)) := (((But.refl [w.heap.size + 1] w5).setCell (by simp) _).setCell (by simp) _).setCell (by simp) _
  have hE6 := row3 (v0 := .slice A' n c') (v1 := .int .i64 lf) (v2 := .bool dn) HD5.out.2
  have hE := (hBw).trans (((((But.refl [w.heap.size + 1] w5).setCell (p := ⟨w.heap.size + 1, 0, none⟩) (by simp) (.slice A' n c')).setCell (p := ⟨w.heap.size + 1, 1, none⟩) (by simp) (.int .i64 lf)).setCell (p := ⟨w.heap.size + 1, 2, none⟩) (by simp) (.bool dn)).below (hBw).size (by simp))
  refine bodyPost_ret (v := .tuple #[.agg #[.slice A' n c', .int .i64 lf, .bool dn], .int .i64 0]) ?_ rfl ?_
  · rw [results_cell_tmp rfl]
    simp [asAddr, Result.andThen, load42 hE6 rfl]
  · exact ⟨A', c', rfl, RDk.box ⟨_, _, _, _, _, HD5.out.2⟩ HZ HD5.out.1 (by omega), hE⟩
end Go.Proofs.Ytlhhijhmjkgnaaa
