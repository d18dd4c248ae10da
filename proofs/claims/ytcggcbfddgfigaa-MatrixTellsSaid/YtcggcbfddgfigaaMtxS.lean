/- MatrixCauchy. -/
import Derived.Test.YtcggcbfddgfigaaMtxR
namespace Go.Proofs.Ytcggcbfddgfigaa
open Go.RowKit Go.Coop

/-- a square part of a Cauchy matrix -/
def partF (k : Nat) (la lb : List Nat) : Fn2 := fun i j => cauF k (la.getD i 0) (lb.getD j 0)
/-- it is of full rank -/
theorem part_full {n k s : Nat} {la lb : List Nat} (ha : Rising n la) (hb : Rising k lb) (h1 : s ≤ la.length) (h2 : s ≤ lb.length) (hnk : n + k ≤ 256) (G : Fn2) : rankF s s (partF k la lb) G = s := by
  have ga : ∀ i, i < s → la.getD i 0 = la[i]! := fun i hi => by rw [getD_at (by omega)]; simp [show i < la.length by omega]
  have xa : ∀ i, i < s → la[i]? = some (la.getD i 0) := fun i hi => by rw [getD_at (by omega)]; exact List.getElem?_eq_getElem (by omega)
  have xb : ∀ i, i < s → lb[i]? = some (lb.getD i 0) := fun i hi => by rw [getD_at (by omega)]; exact List.getElem?_eq_getElem (by omega)
  have hR : RankIs (nf (partF k la lb)) s s s := by
    refine ⟨nf (partF k la lb), fun t ht hs => ?_, fun i hi => Span.self hi (nf_lt _), fun i hi => Span.self hi (nf_lt _)⟩
    refine cauchy_free s (fun i => k + la.getD i 0) (fun j => lb.getD j 0) t ?_ ?_ ?_ ?_ ?_ (fun i _ => ht i) (fun j hj => ?_)
    · intro i hi; have := ha.lt i _ (xa i hi); show k + la.getD i 0 < 256; omega
    · intro j hj; have := hb.lt j _ (xb j hj); show lb.getD j 0 < 256; omega
    · intro i j hi hj; have := hb.lt j _ (xb j hj); show k + la.getD i 0 ≠ lb.getD j 0; omega
    · intro i j hi hj hij
      show k + la.getD i 0 ≠ k + la.getD j 0
      rcases Nat.lt_or_gt_of_ne hij with h | h
      · have := ha.up i j _ _ h (xa i hi) (xa j hj); omega
      · have := ha.up j i _ _ h (xa j hj) (xa i hi); omega
    · intro i j hi hj hij
      show lb.getD i 0 ≠ lb.getD j 0
      rcases Nat.lt_or_gt_of_ne hij with h | h
      · have := hb.up i j _ _ h (xb i hi) (xb j hj); omega
      · have := hb.up j i _ _ h (xb j hj) (xb i hi); omega
    · refine (xs_congr fun i _ => ?_).trans (hs j hj)
      unfold partF
      rw [show nf (fun i j => cauF k (la.getD i 0) (lb.getD j 0)) i j = nf (cauF k) (la.getD i 0) (lb.getD j 0) from rfl, nf_cauF]
  exact (rankF_is s s (partF k la lb) G).unique hR (nf_lt _)
theorem rowL_snoc (j : Nat) (f : Nat → UInt8) : rowL (j + 1) f = rowL j f ++ [f j] := by simp [rowL, List.range_succ]

/-- a row of the part, so far -/
def RowRel (b0 s k : Nat) (la lb : List Nat) (q : Nat) (wo : World) (v i : Value) (wr : World) : Prop := ∃ (j : Nat) (A' : Option Addr) (c' : Nat), j ≤ s ∧ i = .int .i64 j ∧ v = .slice A' j c' ∧ Hid (Own wr b0 5 A' j c' (rowL j (partF k la lb q))) ∧ Hid (Below b0 wo wr)
set_option maxHeartbeats 4000000 in
set_option maxRecDepth 100000 in
theorem cauchy_law (z z' : Nat) (B : Option Addr) (m d : Nat) (fl : List Bool) (B' : Option Addr) (m' d' : Nat) (fl' : List Bool) (w : World) (hz : z < 256) (hz' : z' < 256) (h : RdV w B m (fl.map Value.bool)) (h' : RdV w B' m' (fl'.map Value.bool)) :
    Calls Try.prog 5 #[.int .u8 (z : Int), .int .u8 (z' : Int), .slice B m d, .slice B' m' d'] w fun e w' => e = .returned (.bool true) ∧ Below w.heap.size w w' := by
  have HR0 := Lib.hid h
  have HS0 := Lib.hid h'
  obtain ⟨n, hn⟩ : ∃ n, n = 1 + z % 60 := ⟨_, rfl⟩
  have hn' : (1 : Int) + (z : Int) % 60 = (n : Int) := by omega
  have hn1 : 1 ≤ n := by omega
  have hn2 : n ≤ 60 := by omega
  obtain ⟨k, hk⟩ : ∃ k, k = 1 + z' % 60 := ⟨_, rfl⟩
  have hk' : (1 : Int) + (z' : Int) % 60 = (k : Int) := by omega
  have hk1 : 1 ≤ k := by omega
  have hk2 : k ≤ 60 := by omega
  clear h h' hn hk
  go_enter Try.func5, Try.ntmps5
  go_wp2_with fail
  refine (new_any _).mono ?_
  rintro e w1 ⟨g, rfl, hF, hg, hB⟩
  have hW : Below w.heap.size w w1 := hB
  have HR1 := Lib.hid (HR0.out.below hW (Nat.le_refl _))
  have HS1 := Lib.hid (HS0.out.below hW (Nat.le_refl _))
  have HB1 : Hid (Below w.heap.size w w1) := hW
  have HF1 := Lib.hid (hF)
  clear hW HR0 HS0
  clear hF hg hB
  go_wp2_with fail
  refine (cauchy_yes g n k w1 HF1.out hn1 hk1 (by omega)).mono ?_
  rintro e w2 ⟨Am, cm, rfl, hM, hB⟩
  have hW : Below w1.heap.size w1 w2 := hB
  have HR2 := Lib.hid (HR1.out.below hW (Nat.le_refl _))
  have HS2 := Lib.hid (HS1.out.below hW (Nat.le_refl _))
  have HF2 := Lib.hid (HF1.out.below hW HF1.out.lt)
  have HB2 : Hid (Below w.heap.size w w2) := HB1.out.trans (hW.mono HB1.out.size)
  have Hm2 := Lib.hid (hM)
  clear hW HR1 HS1 HF1 HB1
  clear hM hB
  go_wp2_with fail
  refine (some_any n B m d fl w2 HR2.out hn1 hn2).mono ?_
  rintro e w3 ⟨la, ka, Aa, ca, rfl, hO, ha1, ha2, hra, hB⟩
  have hW : Below w2.heap.size w2 w3 := hB
  have HS3 := Lib.hid (HS2.out.below hW (Nat.le_refl _))
  have HF3 := Lib.hid (HF2.out.below hW HF2.out.lt)
  have Hm3 := Lib.hid (Hm2.out.below hW (Nat.le_refl _))
  have HB3 : Hid (Below w.heap.size w w3) := HB2.out.trans (hW.mono HB2.out.size)
  have Ha3 := Lib.hid (hO.rd)
  clear hW HR2 HS2 HF2 Hm2 HB2
  have HLA := Lib.hid hra
  have HLa : Hid (la.length = ka) := by have := hO.len; rwa [nvs_len] at this
  clear hO hB hra
  go_wp2_with fail
  refine (some_any k B' m' d' fl' w3 HS3.out hk1 hk2).mono ?_
  rintro e w4 ⟨lb, kb, Ab, cb, rfl, hO, hb1, hb2, hrb, hB⟩
  have hW : Below w3.heap.size w3 w4 := hB
  have HF4 := Lib.hid (HF3.out.below hW HF3.out.lt)
  have Hm4 := Lib.hid (Hm3.out.below hW (Nat.le_refl _))
  have Ha4 := Lib.hid (Ha3.out.below hW (Nat.le_refl _))
  have HB4 : Hid (Below w.heap.size w w4) := HB3.out.trans (hW.mono HB3.out.size)
  have Hb4 := Lib.hid (hO.rd)
  clear hW HS3 HF3 Hm3 Ha3 HB3
  have HLB := Lib.hid hrb
  have HLb : Hid (lb.length = kb) := by have := hO.len; rwa [nvs_len] at this
  clear hO hB hrb
  obtain ⟨gm, _, _, _, rfl, _⟩ := Hm4.out.row (show 0 < n by omega)
  obtain ⟨s1, hm1, hsa1, hsb1, hs11⟩ : ∃ s1 : Nat, (if kb < ka then (kb : Int) else (ka : Int)) = (s1 : Int) ∧ s1 ≤ ka ∧ s1 ≤ kb ∧ 1 ≤ s1 := ⟨if kb < ka then kb else ka, by split <;> rfl, by split <;> omega, by split <;> omega, by split <;> omega⟩
  obtain ⟨s, hm2, hss, hs1, hs12⟩ : ∃ s : Nat, (if (12 : Int) < (s1 : Int) then (12 : Int) else (s1 : Int)) = (s : Int) ∧ s ≤ s1 ∧ 1 ≤ s ∧ s ≤ 12 := ⟨if 12 < s1 then 12 else s1, by split <;> split <;> omega, by split <;> omega, by split <;> omega, by split <;> omega⟩
  have hm2' : (if 12 < s1 then (12 : Int) else (s1 : Int)) = (s : Int) := by rw [← hm2]; split <;> split <;> omega
  have hsa : s ≤ ka := by omega
  have hsb : s ≤ kb := by omega
  go_wp2_with fail
  clear hm1 hm2 hm2'
  go_loopw [17, 18] (fun v i wr => ∃ (q : Nat) (A : Option Addr) (c : Nat), q ≤ s ∧ i = .int .i64 q ∧ v = .slice A q c ∧ Hid (MO wr w4.heap.size w4.heap.size A q c (tabM q s (partF k la lb))) ∧ Hid (Below w4.heap.size w4 wr)) (fun _ i _ => s - (intOf i).toNat)
  case atStart => exact ⟨0, none, 0, by omega, rfl, rfl, MO.nil _ _ _, Below.refl _ _⟩
  case round =>
    obtain ⟨q, A, c, hq, rfl, rfl, HM, HB⟩ := hrel
    obtain ⟨wo, rfl⟩ : ∃ wo : World, wo = wr := ⟨_, rfl⟩
    by_cases hlt : q < s
    · obtain ⟨ada, v, rfl, hada, hv, hca⟩ := (Ha4.out.below HB.out (Nat.le_refl _)).at_ (show q < ka by omega)
      obtain ⟨x, hx, rfl⟩ := nvs_at hv
      have hxn := HLA.out.lt q x hx
      have HX := Lib.hid hx
      have HMm := Lib.hid (Hm4.out.below HB.out (Nat.le_refl _))
      obtain ⟨gb, db, hrw, _⟩ := HMm.out.elem hxn hk1
      have hqa : (q : Int) < ka := by omega
      have hxn' : (x : Int) < n := by omega
      have hgb := block_lt_of_cell hrw
      clear hv hx
      go_wp2_with fail
      obtain ⟨b0, hb0⟩ : ∃ b0, wo.heap.size = b0 := ⟨_, rfl⟩
      go_loopw [19, 20] (fun v i wr => RowRel b0 s k la lb q wo v i wr) (fun _ i _ => s - (intOf i).toNat)
      case atStart => exact ⟨0, none, 0, by omega, rfl, rfl, Own.nil _ _ _, Below.refl _ _⟩
      case round =>
        obtain ⟨j, A', c', hj, rfl, rfl, HO, HI⟩ := hrel
        by_cases hjs : j < s
        · obtain ⟨adb, v, rfl, hadb, hv, hcb⟩ := (Hb4.out.below HB.out (Nat.le_refl _)).at_ (show j < kb by omega)
          obtain ⟨y, hy, rfl⟩ := nvs_at hv
          have hyk := HLB.out.lt j y hy
          obtain ⟨gb2, db2, hrw2, hel⟩ := HMm.out.elem hxn hyk
          rw [hrw] at hrw2
          injection hrw2 with hrw2
          injection hrw2 with hrw2 _ _
          injection hrw2 with hrw2
          injection hrw2 with hrw2 _ _
          subst hrw2
          have hjb : (j : Int) < kb := by omega
          have hyk' : (y : Int) < k := by omega
          have hyk0 : (0 : Int) ≤ y := by omega
          have hxn0 : (0 : Int) ≤ x := by omega
          have hEb := (cauF k x y).toNat_lt
          obtain ⟨E, hE⟩ : ∃ E, (cauF k x y).toNat = E := ⟨_, rfl⟩
          rw [hE] at hel hEb
          have HY := Lib.hid (And.intro hy hE)
          have hbi := HI.out
          have hc1 : wr.cell? (ada.add q) = some (.int .i64 (x : Int)) := (hbi.cell (by rw [addr_add_block]; omega)).trans hca
          have hc2 : wr.cell? ⟨gm, x, none⟩ = some (.slice (some ⟨gb, 0, none⟩) k db) := (hbi.cell (by show gm < b0; have hgb' : gm < wo.heap.size := hgb; omega)).trans hrw
          have hadb' : adb.block < wo.heap.size := hadb
          have hc3 : wr.cell? (adb.add j) = some (.int .i64 (y : Int)) := (hbi.cell (by rw [addr_add_block]; omega)).trans hcb
          have hel' := block_lt_of_cell hel
          have hc4 : wr.cell? ⟨gb, y, none⟩ = some (.int .u8 (E : Int)) := (hbi.cell (by show gb < b0; have : gb < wo.heap.size := hel'; omega)).trans hel
          have HCC := Lib.hid (And.intro hc1 (And.intro hc2 (And.intro hc3 hc4)))
          have HLT : Hid ((ada.add q).block < b0 ∧ gm < b0 ∧ (adb.add j).block < b0 ∧ gb < b0) := ⟨by rw [addr_add_block]; omega, by have : gm < wo.heap.size := hgb; omega, by rw [addr_add_block]; omega, by have : gb < wo.heap.size := hel'; omega⟩
          clear hv hy hE hel hbi hc1 hc2 hc3 hc4 hcb hadb hadb' hel'
          go_upto_region 18 with (fail)
          refine wp_region_held_drew (S := fun u => u.cell? (ada.add q) = some (.int .i64 (x : Int)) ∧ u.cell? ⟨gm, x, none⟩ = some (.slice (some ⟨gb, 0, none⟩) k db) ∧ u.cell? (adb.add j) = some (.int .i64 (y : Int)) ∧ u.cell? ⟨gb, y, none⟩ = some (.int .u8 (E : Int))) (by kernel_rfl) (by exact HCC.out) (fun hHeld => ?_)
          refine wpAnyH_take (i := 0) (oi := ⟨some 82, _, _, _, _, _⟩) (v := ?_) rfl (by kernel_rfl) (by kernel_rfl) (by kernel_rfl) (fun _ _ _ h => h) (Or.inl ⟨by rfl, ?_⟩) (by assumption) ?_
          rotate_left
          · intro w hSw
            obtain ⟨s1, s2, s3, s4⟩ := hSw
            go_simp
            all_goals (with_reducible rfl)
          try simp only [Act.put, List.setIfInBounds_toArray, List.set_cons_zero, List.set_cons_succ]
          refine wpAnyH_take (i := 1) (oi := ⟨some 83, _, _, _, _, _⟩) (v := ?_) rfl (by kernel_rfl) (by kernel_rfl) (by kernel_rfl) (fun _ _ _ h => h) (Or.inl ⟨by rfl, ?_⟩) (by assumption) ?_
          rotate_left
          · intro w hSw
            obtain ⟨s1, s2, s3, s4⟩ := hSw
            go_simp
            all_goals (with_reducible rfl)
          try simp only [Act.put, List.setIfInBounds_toArray, List.set_cons_zero, List.set_cons_succ]
          refine wpAnyH_take (i := 2) (oi := ⟨some 84, _, _, _, _, _⟩) (v := ?_) rfl (by kernel_rfl) (by kernel_rfl) (by kernel_rfl) (fun _ _ _ h => h) (Or.inl ⟨by rfl, ?_⟩) (by assumption) ?_
          rotate_left
          · intro w hSw
            obtain ⟨s1, s2, s3, s4⟩ := hSw
            go_simp
            all_goals (with_reducible rfl)
          try simp only [Act.put, List.setIfInBounds_toArray, List.set_cons_zero, List.set_cons_succ]
          refine wpAnyH_take (i := 3) (oi := ⟨some 85, _, _, _, _, _⟩) (v := ?_) rfl (by kernel_rfl) (by kernel_rfl) (by kernel_rfl) (fun _ _ _ h => h) (Or.inl ⟨by rfl, ?_⟩) (by assumption) ?_
          rotate_left
          · intro w hSw
            obtain ⟨s1, s2, s3, s4⟩ := hSw
            go_simp
            all_goals (with_reducible rfl)
          try simp only [Act.put, List.setIfInBounds_toArray, List.set_cons_zero, List.set_cons_succ]
          refine wpAnyH_take (i := 4) (oi := ⟨some 86, _, _, _, _, _⟩) (v := ?_) rfl (by kernel_rfl) (by kernel_rfl) (by kernel_rfl) (fun _ _ _ h => h) (Or.inl ⟨by rfl, ?_⟩) (by assumption) ?_
          rotate_left
          · intro w hSw
            obtain ⟨s1, s2, s3, s4⟩ := hSw
            go_simp
            all_goals (with_reducible rfl)
          try simp only [Act.put, List.setIfInBounds_toArray, List.set_cons_zero, List.set_cons_succ]
          refine wpAnyH_take (i := 5) (oi := ⟨some 87, _, _, _, _, _⟩) (v := ?_) rfl (by kernel_rfl) (by kernel_rfl) (by kernel_rfl) (fun _ _ _ h => h) (Or.inl ⟨by rfl, ?_⟩) (by assumption) ?_
          rotate_left
          · intro w hSw
            obtain ⟨s1, s2, s3, s4⟩ := hSw
            go_simp
            all_goals (with_reducible rfl)
          try simp only [Act.put, List.setIfInBounds_toArray, List.set_cons_zero, List.set_cons_succ]
          refine wpAnyH_take (i := 6) (oi := ⟨some 88, _, _, _, _, _⟩) (v := ?_) rfl (by kernel_rfl) (by kernel_rfl) (by kernel_rfl) (fun _ _ _ h => h) (Or.inl ⟨by rfl, ?_⟩) (by assumption) ?_
          rotate_left
          · intro w hSw
            obtain ⟨s1, s2, s3, s4⟩ := hSw
            go_simp
            all_goals (with_reducible rfl)
          try simp only [Act.put, List.setIfInBounds_toArray, List.set_cons_zero, List.set_cons_succ]
          refine wpAnyH_take (i := 7) (oi := ⟨some 89, _, _, _, _, _⟩) (v := ?_) rfl (by kernel_rfl) (by kernel_rfl) (by kernel_rfl) (fun _ _ _ h => h) (Or.inl ⟨by rfl, ?_⟩) (by assumption) ?_
          rotate_left
          · intro w hSw
            obtain ⟨s1, s2, s3, s4⟩ := hSw
            go_simp
            all_goals (with_reducible rfl)
          try simp only [Act.put, List.setIfInBounds_toArray, List.set_cons_zero, List.set_cons_succ]
          refine wpAnyH_take (i := 8) (oi := ⟨some 90, _, _, _, _, _⟩) (v := ?_) rfl (by kernel_rfl) (by kernel_rfl) (by kernel_rfl) (fun _ _ _ h => h) (Or.inl ⟨by rfl, ?_⟩) (by assumption) ?_
          rotate_left
          · intro w hSw
            obtain ⟨s1, s2, s3, s4⟩ := hSw
            go_simp
            all_goals (with_reducible rfl)
          try simp only [Act.put, List.setIfInBounds_toArray, List.set_cons_zero, List.set_cons_succ]
          refine wpAnyH_take (i := 9) (oi := ⟨some 91, _, _, _, _, _⟩) (v := ?_) rfl (by kernel_rfl) (by kernel_rfl) (by kernel_rfl) (fun _ _ _ h => h) (Or.inl ⟨by rfl, ?_⟩) (by assumption) ?_
          rotate_left
          · intro w hSw
            obtain ⟨s1, s2, s3, s4⟩ := hSw
            go_simp
            all_goals (with_reducible rfl)
          try simp only [Act.put, List.setIfInBounds_toArray, List.set_cons_zero, List.set_cons_succ]
          refine wpAnyH_take (i := 10) (oi := ⟨some 92, _, _, _, _, _⟩) (v := ?_) rfl (by kernel_rfl) (by kernel_rfl) (by kernel_rfl) (fun _ _ _ h => h) (Or.inl ⟨by rfl, ?_⟩) (by assumption) ?_
          rotate_left
          · intro w hSw
            obtain ⟨s1, s2, s3, s4⟩ := hSw
            go_simp
            all_goals (with_reducible rfl)
          try simp only [Act.put, List.setIfInBounds_toArray, List.set_cons_zero, List.set_cons_succ]
          refine wpAnyH_take (i := 11) (oi := ⟨some 93, _, _, _, _, _⟩) (v := ?_) rfl (by kernel_rfl) (by kernel_rfl) (by kernel_rfl) (fun _ _ _ h => h) (Or.inl ⟨by rfl, ?_⟩) (by assumption) ?_
          rotate_left
          · intro w hSw
            obtain ⟨s1, s2, s3, s4⟩ := hSw
            go_simp
            all_goals (with_reducible rfl)
          try simp only [Act.put, List.setIfInBounds_toArray, List.set_cons_zero, List.set_cons_succ]
          refine wpAnyH_take (i := 12) (oi := ⟨some 94, _, _, _, _, _⟩) (v := ?_) rfl (by kernel_rfl) (by kernel_rfl) (by kernel_rfl) (fun _ _ _ h => h) (Or.inl ⟨by rfl, ?_⟩) (by assumption) ?_
          rotate_left
          · intro w hSw
            obtain ⟨s1, s2, s3, s4⟩ := hSw
            go_simp
            all_goals (with_reducible rfl)
          try simp only [Act.put, List.setIfInBounds_toArray, List.set_cons_zero, List.set_cons_succ]
          refine wpAnyH_take (i := 13) (oi := ⟨some 95, _, _, _, _, _⟩) (v := ?_) rfl (by kernel_rfl) (by kernel_rfl) (by kernel_rfl) (fun _ _ _ h => h) (Or.inl ⟨by rfl, ?_⟩) (by assumption) ?_
          rotate_left
          · intro w hSw
            obtain ⟨s1, s2, s3, s4⟩ := hSw
            go_simp
            all_goals (with_reducible rfl)
          try simp only [Act.put, List.setIfInBounds_toArray, List.set_cons_zero, List.set_cons_succ]
          have hH := hHeld
          refine wpAnyH_ready (rs := [14]) (by kernel_rfl) (by simp) (AllReadyH.cons (o := ⟨some 96, _, _, _, _, _⟩) rfl (fun K hK => ?_) AllReadyH.nil)
          go_simp
          refine hK.out _ _ (⟨(World.cell?_alloc_lt _ _ _ (block_lt_of_cell hH.1)).trans hH.1, (World.cell?_alloc_lt _ _ _ (block_lt_of_cell hH.2.1)).trans hH.2.1, (World.cell?_alloc_lt _ _ _ (block_lt_of_cell hH.2.2.1)).trans hH.2.2.1, (World.cell?_alloc_lt _ _ _ (block_lt_of_cell hH.2.2.2)).trans hH.2.2.2⟩) (fun hHeld => ?_)
          clear hK K
          try simp only [Act.put, List.setIfInBounds_toArray, List.set_cons_zero, List.set_cons_succ]
          have hHB := hHeld
          refine wpAnyH_ready (rs := [15]) (by kernel_rfl) (by simp) (AllReadyH.cons (o := ⟨some 97, _, _, _, _, _⟩) rfl (fun K hK => ?_) AllReadyH.nil)
          refine step_app _ rfl (.tmp 82) (.tmp 96) 26 rfl b0 5 Try.underlying26 info5 (A := A') (n := j) (c := c') (by simp [Act.eval]) (by exact HO.out.drew.alloc _) (B := some ⟨wr.heap.size, 0, none⟩) (m := 1) (d := 1) (by simp [Act.eval]) (by exact Rd.one wr.drew (E : Int) (by omega) (by omega) 5 (0, 0)) (by omega) (by simp; have := HI.out.size; omega) (j + 1) rfl ?_
          intro A2 c2 w2 ho hg hat
          have HO2 := Lib.hid ho
          have HB2 : Hid (Below b0 wo w2) := (show Below b0 wo (wr.drew.alloc (.cells #[.int .u8 (E : Int)] 5)) from ((HI.out.drew).alloc (by show b0 ≤ wr.heap.size; have := HI.out.size; omega) _)).grown hg (by simp; have := HI.out.size; omega) (fun k hk => (HO.out.block k hk).1)
          have hW2 : Below b0 wr w2 := ((Below.refl b0 wr).drew.alloc (by show b0 ≤ wr.heap.size; have := HI.out.size; omega) (.cells #[.int .u8 (E : Int)] 5)).grown hg (by simp; have := HI.out.size; omega) (fun k hk => (HO.out.block k hk).1)
          clear ho hg hat
          refine hK.out _ _ (⟨(hW2.cell HLT.out.1).trans HCC.out.1, (hW2.cell (p := ⟨gm, x, none⟩) HLT.out.2.1).trans HCC.out.2.1, (hW2.cell HLT.out.2.2.1).trans HCC.out.2.2.1, (hW2.cell (p := ⟨gb, y, none⟩) HLT.out.2.2.2).trans HCC.out.2.2.2⟩) (fun hHeld => ?_)
          clear hK K
          try simp only [Act.put, List.setIfInBounds_toArray, List.set_cons_zero, List.set_cons_succ]
          refine wpAnyH_take (i := 16) (oi := ⟨some 19, _, _, _, _, _⟩) (v := ?_) rfl (by kernel_rfl) (by kernel_rfl) (by kernel_rfl) (fun _ _ _ h => h) (Or.inl ⟨by rfl, ?_⟩) (by assumption) ?_
          rotate_left
          · intro w hSw
            obtain ⟨s1, s2, s3, s4⟩ := hSw
            go_simp
            all_goals (with_reducible rfl)
          try simp only [Act.put, List.setIfInBounds_toArray, List.set_cons_zero, List.set_cons_succ]
          refine wpAnyH_done (by kernel_rfl) ?_ _
          go_wp2
          go_roundw
          case rel =>
            refine ⟨j + 1, A2, c2, by omega, by go_num, rfl, ?_, HB2.out⟩
            have e : UInt8.ofNat (E : Int).toNat = partF k la lb q j := by
              unfold partF
              have e1 : la.getD q 0 = x := by rw [List.getD_eq_getElem?_getD, HX.out]; rfl
              have e2 : lb.getD j 0 = y := by rw [List.getD_eq_getElem?_getD, HY.out.1]; rfl
              rw [e1, e2, Int.toNat_natCast, ← HY.out.2]
              apply UInt8.toNat_inj.1
              rw [UInt8.toNat_ofNat']
              exact Nat.mod_eq_of_lt (UInt8.toNat_lt _)
            rw [rowL_snoc, ← e]
            exact HO2.out
          case measure => simp [intOf]; omega
        · obtain rfl : j = s := by omega
          have HM2 := Lib.hid (HM.out.below HI.out (by omega))
          have hbs := HB.out.size
          have hbi := HI.out.size
          have HO2 : Hid (Own wr w4.heap.size 5 A' j c' (rowL j (partF k la lb q))) := HO.out.lower (by omega)
          have HB2 := Lib.hid (HB.out.trans (HI.out.mono (by omega)))
          go_wp2_with (at_builtin; refine wpList_appM _ rfl (.tmp 98) (.tmp 100) rfl rfl (HM2.out.alloc _) rfl (RdV.one _ _ _ _) (rowL_len _ _) (HO2.out.alloc _) (by omega) (by rw [size_alloc]; have := HB2.out.size; omega) (q + 1) rfl ?_; intro A2 c2 w2 hM2 hg2)
          have HM3 := Lib.hid hM2
          have HB3 : Hid (Below w4.heap.size w4 w2) := (HB2.out.alloc HB2.out.size _).grown hg2 (by rw [size_alloc]; have := HB2.out.size; omega) (fun k hk => (mo_block HM2.out k hk).1)
          clear hM2 hg2
          go_roundw
          case rel => exact ⟨q + 1, A2, c2, by omega, by go_num, rfl, by rw [tabM_snoc]; exact HM3.out, HB3.out⟩
          case measure => simp [intOf]; omega
    · obtain rfl : q = s := by omega
      obtain ⟨w5, rfl⟩ : ∃ w5 : World, w5 = wo := ⟨_, rfl⟩
      have HF5 := Lib.hid (HF4.out.below HB.out HF4.out.lt)
      have Hp5 := Lib.hid (HM.out.lower (Nat.zero_le _) (Nat.zero_le _))
      have HB5 : Hid (Below w.heap.size w w5) := HB4.out.trans (HB.out.mono HB4.out.size)
      have hfull : rankF q q (partF k la lb) unitF = q := part_full HLA.out HLB.out (by rw [HLa.out]; omega) (by rw [HLb.out]; omega) (by omega) unitF
      obtain ⟨P, hP⟩ : ∃ P, partF k la lb = P := ⟨_, rfl⟩
      rw [hP] at hfull Hp5
      have HK := Lib.hid hfull
      clear hfull hP HM HB HF4 Hm4 Ha4 Hb4 HB4
      go_wp2_with fail
      refine (invert_any g _ q c P w5 HF5.out Hp5.out hs1 (by omega)).mono ?_
      rintro e w6 hI
      obtain ⟨_, Ax, cx, rfl, hM, hB⟩ := hI.resolve_right (fun h => h.1 HK.out)
      obtain ⟨X, hX⟩ : ∃ X, besF q q P unitF = X := ⟨_, rfl⟩
      rw [hX] at hM
      have HX : Hid (Inv2 q (nf X) (nf P)) := by rw [← hX]; exact invF_spec HK.out
      have hW : Below w5.heap.size w5 w6 := hB
      have HF6 := Lib.hid (HF5.out.below hW HF5.out.lt)
      have Hp6 := Lib.hid (Hp5.out.below hW (Nat.le_refl _))
      have HB6 : Hid (Below w.heap.size w w6) := HB5.out.trans (hW.mono HB5.out.size)
      have Hx6 := Lib.hid (hM)
      clear hW HF5 Hp5 HB5
      clear hM hB hX
      go_wp2_with fail
      refine (rank_any g _ q c q P w6 HF6.out Hp6.out hs1 (by omega) hs1 (by omega)).mono ?_
      rintro e w7 ⟨rfl, hB⟩
      rw [HK.out]
      have hW : Below w6.heap.size w6 w7 := hB
      have HF7 := Lib.hid (HF6.out.below hW HF6.out.lt)
      have Hp7 := Lib.hid (Hp6.out.below hW (Nat.le_refl _))
      have Hx7 := Lib.hid (Hx6.out.below hW (Nat.le_refl _))
      have HB7 : Hid (Below w.heap.size w w7) := HB6.out.trans (hW.mono HB6.out.size)
      clear hW HF6 Hp6 Hx6 HB6
      clear hB
      go_wp2_with fail
      refine (mul_yes g _ q c q P _ cx q X w7 HF7.out Hp7.out Hx7.out hs1 (by omega) hs1 (by omega) hs1 (by omega)).mono ?_
      rintro e w8 ⟨Ao, co, rfl, hM, hB⟩
      rw [mul_inv (inv_flip HX.out)] at hM
      have hW : Below w7.heap.size w7 w8 := hB
      have HF8 := Lib.hid (HF7.out.below hW HF7.out.lt)
      have Hp8 := Lib.hid (Hp7.out.below hW (Nat.le_refl _))
      have Hx8 := Lib.hid (Hx7.out.below hW (Nat.le_refl _))
      have HB8 : Hid (Below w.heap.size w w8) := HB7.out.trans (hW.mono HB7.out.size)
      have Ho8 := Lib.hid (hM)
      clear hW HF7 Hp7 Hx7 HB7
      clear hM hB
      go_wp2_with fail
      refine (unit_yes q w8 hs1 (by omega)).mono ?_
      rintro e w9 ⟨Au, cu, rfl, hM, hB⟩
      have hW : Below w8.heap.size w8 w9 := hB
      have HF9 := Lib.hid (HF8.out.below hW HF8.out.lt)
      have Hp9 := Lib.hid (Hp8.out.below hW (Nat.le_refl _))
      have Hx9 := Lib.hid (Hx8.out.below hW (Nat.le_refl _))
      have Ho9 := Lib.hid (Ho8.out.below hW (Nat.le_refl _))
      have HB9 : Hid (Below w.heap.size w w9) := HB8.out.trans (hW.mono HB8.out.size)
      have Hu9 := Lib.hid (hM)
      clear hW HF8 Hp8 Hx8 Ho8 HB8
      clear hM hB
      go_wp2_with fail
      refine (samem_yes _ q co _ _ cu w9 Ho9.out.mr Hu9.out.mr (by omega)).mono ?_
      rintro e w10 ⟨rfl, j10, hw⟩
      have hW : Below w9.heap.size w9 w10 := by rw [hw]; exact ⟨rfl, rfl, rfl, Nat.le_refl _, fun _ _ => rfl⟩
      have HF10 := Lib.hid (HF9.out.below hW HF9.out.lt)
      have Hp10 := Lib.hid (Hp9.out.below hW (Nat.le_refl _))
      have Hx10 := Lib.hid (Hx9.out.below hW (Nat.le_refl _))
      have Ho10 := Lib.hid (Ho9.out.below hW (Nat.le_refl _))
      have Hu10 := Lib.hid (Hu9.out.below hW (Nat.le_refl _))
      have HB10 : Hid (Below w.heap.size w w10) := HB9.out.trans (hW.mono HB9.out.size)
      clear hW HF9 Hp9 Hx9 Ho9 Hu9 HB9
      clear hw
      go_wp2_with fail
      refine (awake_any w10).mono ?_
      rintro e w11 ⟨rfl, hB⟩
      have hW : Below w10.heap.size w10 w11 := hB
      have HF11 := Lib.hid (HF10.out.below hW HF10.out.lt)
      have Hp11 := Lib.hid (Hp10.out.below hW (Nat.le_refl _))
      have Hx11 := Lib.hid (Hx10.out.below hW (Nat.le_refl _))
      have Ho11 := Lib.hid (Ho10.out.below hW (Nat.le_refl _))
      have Hu11 := Lib.hid (Hu10.out.below hW (Nat.le_refl _))
      have HB11 : Hid (Below w.heap.size w w11) := HB10.out.trans (hW.mono HB10.out.size)
      clear hW HF10 Hp10 Hx10 Ho10 Hu10 HB10
      clear hB
      go_wp2
      go_ret
      exact ⟨rfl, HB11.out⟩
end Go.Proofs.Ytcggcbfddgfigaa
