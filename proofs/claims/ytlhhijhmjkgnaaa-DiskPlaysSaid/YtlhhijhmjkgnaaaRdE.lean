/- The reference's Cached, Flush. -/
import Derived.Test.YtlhhijhmjkgnaaaRdD
namespace Go.Proofs.Ytlhhijhmjkgnaaa
open Go.RowKit Go.Coop
set_option maxRecDepth 100000
theorem info3 : (Try.prog.info? 3).map (fun i => (i.zero, i.size, i.bytes)) = some (some (.int .i64 0), 1, 8) := by kernel_rfl
def cachedTo (cache : Nat → Option (List UInt8)) (j : Nat) : List Nat := (List.range j).filter fun i => (cache i).isSome
theorem cachedTo_yes {cache : Nat → Option (List UInt8)} {j : Nat} {l : List UInt8} (h : cache j = some l) : cachedTo cache (j + 1) = cachedTo cache j ++ [j] := by simp [cachedTo, List.range_succ, List.filter_append, h]
theorem cachedTo_no {cache : Nat → Option (List UInt8)} {j : Nat} (h : cache j = none) : cachedTo cache (j + 1) = cachedTo cache j := by simp [cachedTo, List.range_succ, List.filter_append, h]
theorem cachedTo_le (cache : Nat → Option (List UInt8)) (j : Nat) : (cachedTo cache j).length ≤ j := by
  have := List.length_filter_le (fun i => (cache i).isSome) (List.range j)
  simpa [cachedTo] using this
def CRel (w0 : World) (cache : Nat → Option (List UInt8)) (j : Nat) (v : Value) (wr : World) : Prop := ∃ X d, v = .slice X (cachedTo cache j).length d ∧ OwnV wr w0.heap.size 3 X (cachedTo cache j).length d (ints (cachedTo cache j)) ∧ Below w0.heap.size w0 wr
theorem rcached_any (w : World) {A : Option Addr} {n c : Nat} {med : Nat → List UInt8} {cache : Nat → Option (List UInt8)} {lf : Int} {dn : Bool} (h : RDk w A n med cache) (hn : n ≤ 1000000) :
    Calls Try.prog 45 #[.agg #[.slice A n c, .int .i64 lf, .bool dn]] w fun e w' => ∃ X d, e = .returned (.slice X (cachedTo cache n).length d) ∧ RdV w' X (cachedTo cache n).length (ints (cachedTo cache n)) ∧ Below w.heap.size w w' := by
  have H := Lib.hid h
  clear h
  go_enter Try.func45, Try.ntmps45
  go_wp2
  obtain ⟨b1, hb1⟩ : ∃ b1, w.heap.size = b1 := ⟨_, rfl⟩
  obtain ⟨w0, hw0⟩ : ∃ w0, w.alloc (.cells #[.slice A n c, .int .i64 lf, .bool dn] 42) = w0 := ⟨_, rfl⟩
  have h1 : w0.heap[b1]? = some (.cells #[.slice A n c, .int .i64 lf, .bool dn] 42 (0, 0)) := by rw [← hw0, ← hb1]; exact heap_alloc_new w _
  have hB0 : Below w.heap.size w w0 := by rw [← hw0]; exact (Below.refl _ _).alloc (Nat.le_refl _) _
  have hlt1 : b1 < w0.heap.size := (Array.getElem?_eq_some_iff.1 h1).1
  have c0 := cell_of_row w0 b1 0 _ 42 (0, 0) h1
  simp at c0
  have HH := Lib.hid (And.intro hB0 (And.intro hlt1 (And.intro c0 (H.out.below hB0))))
  rw [hw0, hb1]
  clear hw0 hb1 h1 hB0 hlt1 c0 H
  go_loopw [3, 4] (fun v i wr => ∃ j : Nat, j ≤ n ∧ i = .int .i64 j ∧ CRel w0 cache j v wr) (fun _ i _ => n - (Go.RowKit.intOf i).toNat)
  case atStart => exact ⟨0, by omega, rfl, none, 0, rfl, OwnV.nil _ _ _, Below.refl _ _⟩
  case round =>
    obtain ⟨j, hj, rfl, X, d, rfl, hO, hB⟩ := hrel
    have hcb := (hB.cell (p := ⟨b1, 0, none⟩) HH.out.2.1).trans HH.out.2.2.1
    have HR := Lib.hid (And.intro hO hB)
    clear hO
    by_cases hlt : j < n
    · obtain ⟨ad, k, rfl, hlt', hk1, hk2, hk3, hk4⟩ := (RDk.below HH.out.2.2.2 hB).get hlt
      rw [addr_succ] at hk2
      clear hk1 hk3 hB
      cases ho : cache j with
      | none =>
        rw [ho] at hk4
        change k.lc = 0 at hk4
        rw [hk4] at hk2
        have HO := Lib.hid ho
        clear ho hk4
        go_wp2
        go_roundw
        case rel => exact ⟨j + 1, by omega, by go_num, X, d, by rw [cachedTo_no HO.out], by rw [cachedTo_no HO.out]; exact HR.out.1, HR.out.2⟩
        case measure => simp [Go.RowKit.intOf]; omega
      | some l =>
        rw [ho] at hk4
        rw [hk4.1] at hk2
        have HO := Lib.hid ho
        have hcl := cachedTo_le cache j
        obtain ⟨m, hm⟩ : ∃ m, (cachedTo cache j).length = m := ⟨_, rfl⟩
        have HM := Lib.hid hm
        rw [hm] at hcl HR ⊢
        clear ho hk4 hm
        go_wp2_with (at_builtin; refine wpList_appV _ rfl (.tmp 20) (.tmp 22) 22 rfl w0.heap.size 3 (.int .i64 0) 8 Try.underlying22 info3 rfl rfl (HR.out.1.alloc _) rfl (RdV.one wr (.int .i64 (j : Int)) 3 (0, 0)) (by intro u hu; simp at hu; subst hu; rfl) (by omega) (by omega) (by have := HR.out.2.size; simp; omega) (m + 1) (by omega) ?_; intro A' c' w1 hown hg _)
        have HW := Lib.hid (And.intro hown hg)
        clear hown hg
        go_wp2
        go_roundw
        case rel =>
          refine ⟨j + 1, by omega, by go_num, A', c', ?_, ?_, ?_⟩
          · rw [cachedTo_yes HO.out, List.length_append, HM.out]
            rfl
          · rw [cachedTo_yes HO.out, List.length_append, HM.out]
            have := HW.out.1
            unfold ints at this ⊢
            rw [List.map_append]
            exact this
          · exact (HR.out.2.alloc HR.out.2.size _).grown HW.out.2 (by have := HR.out.2.size; simp; omega) (fun k hk => (HR.out.1.block k hk).1)
        case measure => simp [Go.RowKit.intOf]; omega
    · obtain rfl : j = n := by omega
      go_wp2
      go_ret
      exact ⟨X, d, rfl, HR.out.1.rd, HH.out.1.trans (HR.out.2.mono HH.out.1.size)⟩
theorem rflush_down (w : World) {A : Option Addr} {n c : Nat} {lf : Int} : Calls Try.prog 24 #[.agg #[.slice A n c, .int .i64 lf, .bool true]] w (RSame A n c lf true 15 w) := by
  go_enter Try.func24, Try.ntmps24
  go_wp2
  refine bodyPost_ret (v := .tuple #[.agg #[.slice A n c, .int .i64 lf, .bool true], .int .i64 15]) ?_ rfl ⟨rfl, below_two _ _ _⟩
  rw [results_cell_tmp rfl]
  simp [asAddr, Result.andThen, load42 (heap_second w (.cells #[.slice A n c, .int .i64 lf, .bool true] 42) (.cells #[.slice A n c, .int .i64 lf, .bool true] 42)) rfl]
theorem rflush_fails (w : World) {A : Option Addr} {n c : Nat} : Calls Try.prog 24 #[.agg #[.slice A n c, .int .i64 0, .bool false]] w (RSame A n c (-1) true 15 w) := by
  go_enter Try.func24, Try.ntmps24
  go_wp2_with fail
  refine (rop_fails _ _ _ _ _).mono ?_
  rintro e w1 ⟨rfl, hB⟩
  obtain ⟨h3, h6, hw⟩ := boxes hB
  have c30 := cell_of_row w1 w.heap.size 0 _ 42 (0, 0) h3
  have c31 := cell_of_row w1 w.heap.size 1 _ 42 (0, 0) h3
  have c32 := cell_of_row w1 w.heap.size 2 _ 42 (0, 0) h3
  have c60 := cell_of_row w1 (w.heap.size + 1) 0 _ 42 (0, 0) h6
  have c61 := cell_of_row w1 (w.heap.size + 1) 1 _ 42 (0, 0) h6
  have c62 := cell_of_row w1 (w.heap.size + 1) 2 _ 42 (0, 0) h6
  have r30 := frozen_of_row w1 w.heap.size 0 _ 42 h3
  have r31 := frozen_of_row w1 w.heap.size 1 _ 42 h3
  have r32 := frozen_of_row w1 w.heap.size 2 _ 42 h3
  have r60 := frozen_of_row w1 (w.heap.size + 1) 0 _ 42 h6
  have r61 := frozen_of_row w1 (w.heap.size + 1) 1 _ 42 h6
  have r62 := frozen_of_row w1 (w.heap.size + 1) 2 _ 42 h6
  simp at c30 c31 c32 c60 c61 c62
  have HH := Lib.hid (And.intro h3 (And.intro h6 hw))
  clear h3 h6 hw hB
  go_wp2
  obtain ⟨w3, hw3⟩ : ∃ w3, (((w1.setCell ⟨w.heap.size, 0, none⟩ (.slice A n c)).setCell ⟨w.heap.size, 1, none⟩ (.int .i64 (-1))).setCell ⟨w.heap.size, 2, none⟩ (.bool true)) = w3 := ⟨_, rfl⟩
  have hb3 : But [w.heap.size] w1 w3 := hw3 ▸ (((But.refl [w.heap.size] w1).setCell (by simp) _).setCell (by simp) _).setCell (by simp) _
  have h6 := hb3.cells HH.out.2.1 (by simp)
  have hw := HH.out.2.2.trans (hb3.below HH.out.2.2.size (by simp))
  rw [hw3]
  have hE6 := row3 (v0 := .slice A n c) (v1 := .int .i64 (-1)) (v2 := .bool true) h6
  have hE := (hw).trans (((((But.refl [w.heap.size + 1] w3).setCell (p := ⟨w.heap.size + 1, 0, none⟩) (by simp) (.slice A n c)).setCell (p := ⟨w.heap.size + 1, 1, none⟩) (by simp) (.int .i64 (-1))).setCell (p := ⟨w.heap.size + 1, 2, none⟩) (by simp) (.bool true)).below (hw).size (by simp))
  refine bodyPost_ret (v := .tuple #[.agg #[.slice A n c, .int .i64 (-1), .bool true], .int .i64 15]) ?_ rfl ?_
  · rw [results_cell_tmp rfl]
    simp [asAddr, Result.andThen, load42 hE6 rfl]
  · exact ⟨rfl, hE⟩
def fmed (med : Nat → List UInt8) (cache : Nat → Option (List UInt8)) (j : Nat) : Nat → List UInt8 := fun i => if i < j then (cache i).getD (med i) else med i
def fcache (cache : Nat → Option (List UInt8)) (j : Nat) : Nat → Option (List UInt8) := fun i => if i < j then none else cache i
theorem fcache_at (cache : Nat → Option (List UInt8)) (j : Nat) : fcache cache j j = cache j := by simp [fcache]
theorem fmed_at (med : Nat → List UInt8) (cache : Nat → Option (List UInt8)) (j : Nat) : fmed med cache j j = med j := by simp [fmed]
theorem fcache_yes (cache : Nat → Option (List UInt8)) (j : Nat) : upd (fcache cache j) j none = fcache cache (j + 1) := by
  funext i
  unfold upd fcache
  by_cases e : i = j
  · rw [if_pos e, if_pos (by omega)]
  · rw [if_neg e]
    by_cases h : i < j
    · rw [if_pos h, if_pos (by omega)]
    · rw [if_neg h, if_neg (by omega)]
theorem fcache_no {cache : Nat → Option (List UInt8)} {j : Nat} (h : cache j = none) : fcache cache (j + 1) = fcache cache j := by
  rw [← fcache_yes]
  have := upd_id (fcache cache j) j
  rwa [fcache_at, h] at this
theorem fmed_yes {med : Nat → List UInt8} {cache : Nat → Option (List UInt8)} {j : Nat} : upd (fmed med cache j) j ((cache j).getD (med j)) = fmed med cache (j + 1) := by
  funext i
  unfold upd fmed
  by_cases e : i = j
  · subst e
    rw [if_pos rfl, if_pos (by omega)]
  · rw [if_neg e]
    by_cases h : i < j
    · rw [if_pos h, if_pos (by omega)]
    · rw [if_neg h, if_neg (by omega)]
theorem fmed_no {med : Nat → List UInt8} {cache : Nat → Option (List UInt8)} {j : Nat} (h : cache j = none) : fmed med cache (j + 1) = fmed med cache j := by
  rw [← fmed_yes, h]
  have := upd_id (fmed med cache j) j
  rwa [fmed_at] at this
theorem RDk.congr {w : World} {A : Option Addr} {n : Nat} {med med2 : Nat → List UInt8} {cache cache2 : Nat → Option (List UInt8)} (h : RDk w A n med cache) (h1 : ∀ i, i < n → med i = med2 i) (h2 : ∀ i, i < n → cache i = cache2 i) : RDk w A n med2 cache2 := by
  obtain ⟨cs, g1, g2, g3⟩ := h.out
  refine ⟨⟨cs, g1, g2, fun i c hc => ?_⟩, h.lies⟩
  have hi : i < n := by have := (List.getElem?_eq_some_iff.1 hc).1; omega
  rw [← h1 i hi, ← h2 i hi]
  exact g3 i c hc
/-- where a loop over a disk in a box stands -/
def BRel (w0 : World) (b1 b2 : Nat) (n : Nat) (lf : Int) (dn : Bool) (med : Nat → List UInt8) (cache : Nat → Option (List UInt8)) (wr : World) : Prop :=
  ∃ A c, wr.heap[b1]? = some (.cells #[.slice A n c, .int .i64 lf, .bool dn] 42 (0, 0)) ∧ Box wr b2 ∧ RDk wr A n med cache ∧ Below w0.heap.size w0 wr
theorem rflush_goes (w : World) {A : Option Addr} {n c : Nat} {med : Nat → List UInt8} {cache : Nat → Option (List UInt8)} {lf lf' : Int} (h : RDk w A n med cache) (hn : n ≤ 1000000) (hn0 : 0 < n) (h0 : lf ≠ 0) (hb : -9223372036854775808 ≤ lf ∧ lf ≤ 9223372036854775807) (he : lf' = if 0 < lf then lf - 1 else lf) :
    Calls Try.prog 24 #[.agg #[.slice A n c, .int .i64 lf, .bool false]] w (RNew n (fmed med cache n) (fun _ => none) lf' false 0 w) := by
  have HX := Lib.hid h
  have HO := Lib.hid (rop_goes A n c lf false ((w.alloc (.cells #[.slice A n c, .int .i64 lf, .bool false] 42)).alloc (.cells #[.slice none 0 0, .int .i64 0, .bool false] 42)) h0 hb he)
  clear h h0 hb he
  go_enter Try.func24, Try.ntmps24
  go_wp2_with fail
  refine HO.out.mono ?_
  rintro e w1 ⟨rfl, hB⟩
  obtain ⟨h3, h6, hw⟩ := boxes hB
  have c30 := cell_of_row w1 w.heap.size 0 _ 42 (0, 0) h3
  have c31 := cell_of_row w1 w.heap.size 1 _ 42 (0, 0) h3
  have c32 := cell_of_row w1 w.heap.size 2 _ 42 (0, 0) h3
  have c60 := cell_of_row w1 (w.heap.size + 1) 0 _ 42 (0, 0) h6
  have c61 := cell_of_row w1 (w.heap.size + 1) 1 _ 42 (0, 0) h6
  have c62 := cell_of_row w1 (w.heap.size + 1) 2 _ 42 (0, 0) h6
  have r30 := frozen_of_row w1 w.heap.size 0 _ 42 h3
  have r31 := frozen_of_row w1 w.heap.size 1 _ 42 h3
  have r32 := frozen_of_row w1 w.heap.size 2 _ 42 h3
  have r60 := frozen_of_row w1 (w.heap.size + 1) 0 _ 42 h6
  have r61 := frozen_of_row w1 (w.heap.size + 1) 1 _ 42 h6
  have r62 := frozen_of_row w1 (w.heap.size + 1) 2 _ 42 h6
  simp at c30 c31 c32 c60 c61 c62
  have HH := Lib.hid (And.intro h3 (And.intro h6 hw))
  clear h3 h6 hw hB HO
  go_wp2_with fail
  obtain ⟨w3, hw3⟩ : ∃ w3, (((w1.setCell ⟨w.heap.size, 0, none⟩ (.slice A n c)).setCell ⟨w.heap.size, 1, none⟩ (.int .i64 lf')).setCell ⟨w.heap.size, 2, none⟩ (.bool false)) = w3 := ⟨_, rfl⟩
  have hb3 : But [w.heap.size] w1 w3 := hw3 ▸ (((But.refl [w.heap.size] w1).setCell (by simp) _).setCell (by simp) _).setCell (by simp) _
  have h3 : w3.heap[w.heap.size]? = some (.cells #[.slice A n c, .int .i64 lf', .bool false] 42 (0, 0)) := hw3 ▸ row3 HH.out.1
  have h6 := hb3.cells HH.out.2.1 (by simp)
  have hw := HH.out.2.2.trans (hb3.below HH.out.2.2.size (by simp))
  rw [hw3]
  obtain ⟨b1, hb1⟩ : ∃ b1, w.heap.size = b1 := ⟨_, rfl⟩
  obtain ⟨b2, hb2⟩ : ∃ b2, b1 + 1 = b2 := ⟨_, rfl⟩
  have H0 : Hid (BRel w w.heap.size (w.heap.size + 1) n lf' false (fmed med cache 0) (fcache cache 0) w3) :=
    ⟨A, c, h3, ⟨_, _, _, _, _, h6⟩, RDk.congr (RDk.below HX.out hw) (fun i _ => by simp [fmed]) (fun i _ => by simp [fcache]), hw⟩
  rw [hb1] at H0 ⊢
  rw [hb2] at H0 ⊢
  have HE12 : Hid (w.heap.size = b1 ∧ b1 + 1 = b2) := ⟨hb1, hb2⟩
  clear hw3 hb3 h3 h6 hw hb1 hb2 HH HX c30 c31 c32 c60 c61 c62 r30 r31 r32 r60 r61 r62
  go_loopw [5] (fun i wr => ∃ j : Nat, j ≤ n ∧ i = .int .i64 j ∧ BRel w b1 b2 n lf' false (fmed med cache j) (fcache cache j) wr) (fun i _ => n - (Go.RowKit.intOf i).toNat)
  case atStart => exact ⟨0, by omega, rfl, H0.out⟩
  case round =>
    obtain ⟨j, hj, rfl, A, c, h1, h2, hD, hB⟩ := hrel
    clear H0
    have HR := Lib.hid (And.intro h1 (And.intro h2 (And.intro hD hB)))
    have c30 := cell_of_row wr b1 0 _ 42 (0, 0) h1
    have c31 := cell_of_row wr b1 1 _ 42 (0, 0) h1
    have c32 := cell_of_row wr b1 2 _ 42 (0, 0) h1
    simp at c30 c31 c32
    by_cases hlt : j < n
    · obtain ⟨ad, k, rfl, hlt', hk1, hk2, hk3, hk4⟩ := hD.get hlt
      rw [addr_succ] at hk2
      rw [fcache_at] at hk4
      cases ho : cache j with
      | none =>
        rw [ho] at hk4
        change k.lc = 0 at hk4
        rw [hk4] at hk2
        have HO := Lib.hid ho
        clear ho hk4 h1 h2 hD hB hk3 hk1 c31 c32 hlt'
        go_wp2
        go_roundw
        case rel => exact ⟨j + 1, by omega, by go_num, _, _, HR.out.1, HR.out.2.1, by rw [fmed_no HO.out, fcache_no HO.out]; exact HR.out.2.2.1, HR.out.2.2.2⟩
        case measure => simp [Go.RowKit.intOf]; omega
      | some l =>
        rw [ho] at hk4
        rw [hk4.1] at hk2
        have HO := Lib.hid ho
        have HL := Lib.hid hk4.2
        clear ho hk4 h1 h2 hD hB hk3 hk1 hlt'
        go_wp2_with fail
        refine wp_region_still_tail 9 (by kernel_rfl) (by kernel_rfl) ?_
        simp only [List.take_succ_cons, List.take_zero, List.drop_succ_cons, List.drop_zero]
        iterate 9 still_step
        refine wpStill_nil ?_
        have HWD := Lib.hid (RDk.below HR.out.2.2.1 (w' := wr.drew) (Below.refl _ _).drew)
        clear c30 c31 c32 hk2
        go_wp2_with fail
        refine (with_any _ HWD.out hn hlt ⟨k.ac, k.cc, none, 0, 0⟩ (lm := l) (oc := none) HL.out.drew rfl lf' false).mono ?_
        rintro e w5 ⟨A', c', rfl, hD5, hB5⟩
        have e1 : upd (fmed med cache j) j l = fmed med cache (j + 1) := by rw [← fmed_yes, HO.out]; rfl
        rw [e1, fcache_yes] at hD5
        have HB5 : Hid (Below wr.heap.size wr w5) := (Below.refl _ _).drew.trans hB5
        have h1 := (HB5.out.block _ (Array.getElem?_eq_some_iff.1 HR.out.1).1).trans HR.out.1
        have h2 : Box w5 b2 := by obtain ⟨X, p, q, z, t, hh⟩ := HR.out.2.1; exact ⟨X, p, q, z, t, (HB5.out.block _ (Array.getElem?_eq_some_iff.1 hh).1).trans hh⟩
        have c30 := cell_of_row w5 b1 0 _ 42 (0, 0) h1
        have c31 := cell_of_row w5 b1 1 _ 42 (0, 0) h1
        have c32 := cell_of_row w5 b1 2 _ 42 (0, 0) h1
        have r30 := frozen_of_row w5 b1 0 _ 42 h1
        have r31 := frozen_of_row w5 b1 1 _ 42 h1
        have r32 := frozen_of_row w5 b1 2 _ 42 h1
        simp at c30 c31 c32
        have HQ := Lib.hid (And.intro h1 (And.intro h2 hD5))
        clear h1 h2 hD5 hB5 HWD
        go_wp2
        have hbt : But [b1] w5 (((w5.setCell ⟨b1, 0, none⟩ (.slice A' n c')).setCell ⟨b1, 1, none⟩ (.int .i64 lf')).setCell ⟨b1, 2, none⟩ (.bool false)) := (((But.refl [b1] w5).setCell (by simp) _).setCell (by simp) _).setCell (by simp) _
        have hne : b2 ∉ [b1] := by have := HE12.out; simp; omega
        have HE : Hid (_ ∧ _ ∧ _ ∧ _) := And.intro (row3 (v0 := .slice A' n c') (v1 := .int .i64 lf') (v2 := .bool false) HQ.out.1) (And.intro (show Box _ b2 from by obtain ⟨X, p, q, z, t, hh⟩ := HQ.out.2.1; exact ⟨X, p, q, z, t, hbt.cells hh hne⟩) (And.intro (RDk.box ⟨_, _, _, _, _, HQ.out.1⟩ hbt HQ.out.2.2 (by omega)) ((HR.out.2.2.2.trans (HB5.out.mono HR.out.2.2.2.size)).trans (hbt.below (HR.out.2.2.2.trans (HB5.out.mono HR.out.2.2.2.size)).size (by have := HE12.out; simp; omega)))))
        clear hbt hne
        go_roundw
        case rel => exact ⟨j + 1, by omega, by go_num, A', c', HE.out.1, HE.out.2.1, HE.out.2.2.1, HE.out.2.2.2⟩
        case measure => simp [Go.RowKit.intOf]; omega
    · obtain rfl : j = n := by omega
      obtain ⟨X, p, q, z, t, hh⟩ := h2
      have c60 := cell_of_row wr b2 0 _ 42 (0, 0) hh
      have c61 := cell_of_row wr b2 1 _ 42 (0, 0) hh
      have c62 := cell_of_row wr b2 2 _ 42 (0, 0) hh
      have r60 := frozen_of_row wr b2 0 _ 42 hh
      have r61 := frozen_of_row wr b2 1 _ 42 hh
      have r62 := frozen_of_row wr b2 2 _ 42 hh
      simp at c60 c61 c62
      have HQ := Lib.hid hh
      clear hh h1 hD hB
      go_wp2
      have hbt : But [b2] wr (((wr.setCell ⟨b2, 0, none⟩ (.slice A j c)).setCell ⟨b2, 1, none⟩ (.int .i64 lf')).setCell ⟨b2, 2, none⟩ (.bool false)) := (((But.refl [b2] wr).setCell (by simp) _).setCell (by simp) _).setCell (by simp) _
      have hE6 := row3 (v0 := .slice A j c) (v1 := .int .i64 lf') (v2 := .bool false) HQ.out
      have hE := (HR.out.2.2.2).trans (((((But.refl [b2] wr).setCell (p := ⟨b2, 0, none⟩) (by simp) (.slice A j c)).setCell (p := ⟨b2, 1, none⟩) (by simp) (.int .i64 lf')).setCell (p := ⟨b2, 2, none⟩) (by simp) (.bool false)).below (HR.out.2.2.2).size (by have := HE12.out; simp; omega))
      refine bodyPost_ret (v := .tuple #[.agg #[.slice A j c, .int .i64 lf', .bool false], .int .i64 0]) ?_ rfl ?_
      · rw [results_cell_tmp rfl]
        simp [asAddr, Result.andThen, load42 hE6 rfl]
      · exact ⟨A, c, rfl, RDk.congr (RDk.box ⟨_, _, _, _, _, HQ.out⟩ hbt HR.out.2.2.1 (by omega)) (fun _ _ => rfl) (fun i hi => by unfold fcache; rw [if_pos hi]), hE⟩
end Go.Proofs.Ytlhhijhmjkgnaaa
