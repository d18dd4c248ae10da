/- slices.Insert where there is no room; slices.Delete of one timer; slices.Clone. -/
import Derived.Test.YtncjbohpaanpaaaClkA
import Derived.Lib.AppendZerosOnto
import Derived.Laws.NewBlocks
namespace Go.Proofs.Ytncjbohpaanpaaa
open Go.RowKit Go.Coop
set_option maxRecDepth 100000
abbrev zTm : Value := .agg #[.int .i64 0, .int .i64 0]
section
variable (w : World) {B n c i : Nat} {A : Option Addr} {l : List Tm} {x : Tm} {N : Nat}
set_option maxHeartbeats 2000000 in
theorem insert_grow (h : Tl w B A n c l) (hln : l.length = n) (hm : n ≤ 1000000) (hi : i < n) (hroom : c < n + 1) (hB : B ≤ w.heap.size) (hx : w.heap[N]? = some (.cells #[.int .i64 x.due, .int .i64 x.id] 36 (0, 0))) :
    Calls Try.prog 31 #[.slice A n c, .int .i64 (i : Int), .slice (some ⟨N, 0, none⟩) 1 1] w (RwDid w B A (n + 1) (l.take i ++ x :: l.drop i)) := by
  have hnc := h.nc
  rcases h.at_ with ⟨rfl, h0, _⟩ | ⟨g, pre, sp, rfl, hbg, hg, _, hcm, hlen⟩
  · omega
  obtain ⟨n1, hn1⟩ : ∃ n1, n + 1 = n1 := ⟨_, rfl⟩
  obtain ⟨i1, hi1⟩ : ∃ i1, i + 1 = i1 := ⟨_, rfl⟩
  obtain ⟨k1, hk1⟩ : ∃ k1, n1 - i = k1 := ⟨_, rfl⟩
  rw [hn1] at hroom ⊢
  have mixed : Try.prog.follows Departure.mixedOrders = true := by kernel_rfl
  obtain ⟨M, hM⟩ : ∃ M, w.heap.size = M := ⟨_, rfl⟩
  have hv1 : (tvs l).length = n * 2 := h.len
  obtain ⟨L1, hL1⟩ : ∃ L1, (tvs l).take (i * 2) = L1 := ⟨_, rfl⟩
  obtain ⟨L2, hL2⟩ : ∃ L2, (tvs l).drop (i * 2) = L2 := ⟨_, rfl⟩
  have hvs : tvs l = L1 ++ L2 := by rw [← hL1, ← hL2, List.take_append_drop]
  have hl1 : L1.length = i * 2 := by rw [← hL1, List.length_take]; omega
  have hl2 : L2.length = (n - i) * 2 := by rw [← hL2, List.length_drop]; omega
  have ho2 : ∀ v ∈ L2, v.oneCell' = true := fun v hv => tvs_one l v (by rw [hvs]; simp [hv])
  obtain ⟨i0, hi0, hz0, hzs, hzb⟩ := info_parts info36
  have hgl : g < M := by rw [← hM]; exact (Array.getElem?_eq_some_iff.1 hg).1
  have hNl : N < M := by rw [← hM]; exact (Array.getElem?_eq_some_iff.1 hx).1
  have hold : (Builtin.firstCells i0.size i (.slice (some ⟨g, pre.length, none⟩) i c)).run Try.prog w.drew = .ok L1.toArray w.drew := by
    rw [hzs]
    exact run_firstCells_some w.drew 2 i ⟨g, pre.length, none⟩ i c L1 hl1 (fun j v hj => by
      rw [addr_at]
      have hj' := (List.getElem?_eq_some_iff.1 hj).1
      refine (h.cells (w := w) rfl ?_).1
      rw [hvs, List.getElem?_append_left hj', hj])
  obtain ⟨G, hG⟩ : ∃ G, grownCap w n1 c 36 = G := ⟨_, rfl⟩
  have hGn : n1 ≤ G := by rw [← hG]; exact grownCap_ge w _ _ _
  have hG63 : G ≤ maxLen := by
    have := grownCap_le_maxLen w n1 c 36 (by unfold maxLen; omega)
    rwa [hG] at this
  obtain ⟨Z1, hZ1⟩ : ∃ Z1, (Builtin.zeroCells zTm.cells k1).toList = Z1 := ⟨_, rfl⟩
  obtain ⟨Z2, hZ2⟩ : ∃ Z2, (Builtin.zeroCells zTm.cells (G - n1)).toList = Z2 := ⟨_, rfl⟩
  have hz1l : Z1.length = k1 * 2 := by rw [← hZ1, Array.length_toList, size_zeroCells]; rfl
  have hz2l : Z2.length = (G - n1) * 2 := by rw [← hZ2, Array.length_toList, size_zeroCells]; rfl
  obtain ⟨w1, hw1⟩ : ∃ w1, w.drew.alloc (.cells (L1 ++ Z1 ++ Z2).toArray 36) = w1 := ⟨_, rfl⟩
  have hrz : ∀ ty, (Builtin.append_ #[30, 3] ty #[.slice (some ⟨g, pre.length, none⟩) i c, .int .i64 (k1 : Int)]).run Try.prog w = .ok (.slice (some ⟨M, 0, none⟩) n1 G) w1 := fun ty => by
    have h := Lib.run_append_grow_zeros w 30 3 ty 36 i0 _ .i64 .i64 Try.underlying30 Try.underlying3 hi0 hz0 (some ⟨g, pre.length, none⟩) i c L1 hold k1 (by omega) (by rw [hzs]; omega) (by omega) (by omega) (by rw [hzb]; omega) (by rw [hzb]; exact growslice_fits (by omega) (by omega))
    rw [show i + k1 = n1 by omega, hG, hM] at h
    rw [h, ← hw1]
    congr 3
    rw [← hZ1, ← hZ2]
    simp
  have hg1 : w1.heap[M]? = some (.cells (L1 ++ Z1 ++ Z2).toArray 36 (0, 0)) := by rw [← hw1, ← hM]; exact heap_alloc_new w.drew _
  have hb1 : But [] w w1 := hw1 ▸ (drew_but w).alloc _
  obtain ⟨za, zb, hzab, hza, hzbl⟩ : ∃ za zb : List Value, Z1 = za ++ zb ∧ za.length = 2 ∧ zb.length = L2.length := ⟨Z1.take 2, Z1.drop 2, (List.take_append_drop 2 Z1).symm, by rw [List.length_take]; omega, by rw [List.length_drop]; omega⟩
  have hg1' : w1.heap[M]? = some (.cells (L1 ++ za ++ (zb ++ Z2)).toArray 36 (0, 0)) := by
    rw [hg1, hzab]
    simp
  have hx1 : w1.heap[N]? = some (.cells #[.int .i64 x.due, .int .i64 x.id] 36 (0, 0)) := hb1.cells hx (by simp)
  have hcA := fun ty => run_copyK (P := Try.prog) w1 30 30 ty 36 2 M (i * 2) (n1 - i) (G - i) ⟨N, 0, none⟩ 1 1 1 x.vs Try.underlying30 size36 (by simp only [Nat.min_def]; split <;> omega) rfl
    (fun j v hj => by
      rw [addr_at, Nat.zero_add, cell_of_row w1 N j _ 36 (0, 0) hx1]
      simpa [Tm.vs] using hj) 36 L1 za (zb ++ Z2) hg1' hl1 hza (vs_one x)
  obtain ⟨w2, hw2⟩ : ∃ w2, w1.setRow M (L1 ++ x.vs ++ (zb ++ Z2)).toArray = w2 := ⟨_, rfl⟩
  rw [hw2] at hcA
  have hg2 : w2.heap[M]? = some (.cells ((L1 ++ x.vs) ++ zb ++ Z2).toArray 36 (0, 0)) := by
    rw [← hw2, setRow_heap w1 M _ _ 36 _ hg1']
    simp
  have hb2 : But [] w w2 := hb1.trans' (hs := [M]) (hw2 ▸ (But.refl [M] _).setRow (by simp) _) (by simp; omega)
  have hgo : w2.drew.heap[g]? = some (.cells (pre ++ (L1 ++ L2) ++ sp).toArray 36 (0, 0)) := by
    rw [← hvs]
    exact hb2.cells hg (by simp)
  have hcB := fun ty => run_copyK (P := Try.prog) w2.drew 30 30 ty 36 2 M (i1 * 2) (n1 - i1) (G - i1) ⟨g, pre.length + i * 2, none⟩ (n - i) (c - i) (n - i) L2 Try.underlying30 size36 (by simp only [Nat.min_def]; split <;> omega) hl2
    (fun j v hj => by
      rw [addr_at]
      have hj' := (List.getElem?_eq_some_iff.1 hj).1
      simp only [World.cell?, hgo]
      simp only [List.getElem?_toArray]
      rw [List.append_assoc, List.getElem?_append_right (by omega), List.append_assoc, List.getElem?_append_right (by omega), List.getElem?_append_left (by omega)]
      rw [show pre.length + i * 2 + j - pre.length - L1.length = j by omega, hj]
      rfl) 36 (L1 ++ x.vs) zb Z2 hg2 (by rw [List.length_append, vs_len]; omega) hzbl ho2
  obtain ⟨w3, hw3⟩ : ∃ w3, w2.drew.setRow M (L1 ++ x.vs ++ L2 ++ Z2).toArray = w3 := ⟨_, rfl⟩
  rw [hw3] at hcB
  have HE : Hid (RwDid w B (some ⟨g, pre.length, none⟩) n1 (l.take i ++ x :: l.drop i) (.returned (.slice (some ⟨M, 0, none⟩) n1 G)) w3) := by
    have e : tvs (l.take i ++ x :: l.drop i) = L1 ++ x.vs ++ L2 := by rw [tvs_append, tvs_cons, ← tvs_take, ← tvs_drop, hL1, hL2, List.append_assoc]
    refine ⟨_, G, rfl, ⟨?_, .inr ⟨M, [], Z2, rfl, by omega, ?_, hGn, hG63, ?_⟩⟩, ?_, .inr ⟨M, by omega, rfl⟩⟩
    · rw [e]; simp only [List.length_append, vs_len]; omega
    · rw [e, ← hw3, setRow_heap w2.drew M _ _ 36 _ hg2]
      simp
    · rw [e]
      simp only [List.length_append, vs_len]
      omega
    · exact ((hb2.trans (drew_but w2)).trans' (hs := [M]) (hw3 ▸ (But.refl [M] _).setRow (by simp) _) (by simp; omega)).mono (by simp)
  have s0 := fun W => slice_lk (P := Try.prog) 30 Try.underlying30 size36 (some ⟨g, pre.length, none⟩) n c i (by omega) W
  have s1 := fun W => slice_hk (P := Try.prog) 30 Try.underlying30 size36 (some ⟨g, pre.length, none⟩) h.addr n c i (by omega) W
  have s2 := fun W => slice_lk (P := Try.prog) 30 Try.underlying30 size36 (some ⟨M, 0, none⟩) n1 G i (by omega) W
  have s3 := fun W => slice_lk (P := Try.prog) 30 Try.underlying30 size36 (some ⟨M, 0, none⟩) n1 G i1 (by omega) W
  rw [if_neg (by omega)] at s0 s2 s3
  simp only [Option.map_some, addr_at, Nat.zero_add] at s0 s2 s3
  have hwr : IntKind.i64.wrap ((n : Int) + 1) = (n1 : Int) := (IntWalk.i64_in _ (by omega)).trans (by omega)
  have hwr2 : IntKind.i64.wrap ((i : Int) + 1) = (i1 : Int) := (IntWalk.i64_in _ (by omega)).trans (by omega)
  have hwr3 : IntKind.i64.wrap ((n1 : Int) - (i : Int)) = (k1 : Int) := (IntWalk.i64_in _ (by omega)).trans (by omega)
  have hcr : (c : Int) < (n1 : Int) := by omega
  have hbe : ((i : Int) == (n : Int)) = false := by simp; omega
  clear hn1 hi1 hk1 hM hold hG hGn hG63 hZ1 hZ2 hz1l hz2l hw1 hg1 hb1 hzab hza hzbl hg1' hx1 hw2 hg2 hb2 hgo hw3 hi0 hz0 hzs hzb hgl hNl ho2 hl1 hl2 hvs hL1 hL2 hv1 hlen hcm hg hbg h hx hB hln hnc
  go_enter Try.func31, Try.ntmps31
  go_wp2_with (first
    | (at_builtin; refine Lib.wpList_append_run _ rfl _ _ _ _ rfl _ _ rfl rfl _ _ (hrz _) ?_)
    | (at_builtin; refine wpList_copy_runI _ rfl _ _ 30 30 rfl _ _ rfl rfl (hcA _) ?_))
  go_region_law_o (refine step_copy_runI rfl _ _ 30 30 rfl _ _ (by simp [Act.eval, Act.put]) (by simp [Act.eval, Act.put]) (hcB _) ?_)
  go_wp2
  go_ret
  exact HE.out
theorem insert_is (h : Tl w B A n c l) (hln : l.length = n) (hm : n ≤ 1000000) (hi : i ≤ n) (hB : B ≤ w.heap.size) (hx : w.heap[N]? = some (.cells #[.int .i64 x.due, .int .i64 x.id] 36 (0, 0))) (hN : A.map (·.block) ≠ some N) :
    Calls Try.prog 31 #[.slice A n c, .int .i64 (i : Int), .slice (some ⟨N, 0, none⟩) 1 1] w (RwDid w B A (n + 1) (l.take i ++ x :: l.drop i)) := by
  by_cases e : i = n
  · subst e
    have := insert_end w h hln hm hB hx
    rwa [List.take_of_length_le (by omega), List.drop_of_length_le (by omega)]
  · by_cases hr : n + 1 ≤ c
    · exact insert_shift w h hln hm (by omega) hr hB hx hN
    · exact insert_grow w h hln hm (by omega) (by omega) hB hx
set_option maxHeartbeats 1000000 in
theorem delete_is (h : Tl w B A n c l) (hln : l.length = n) (hm : n ≤ 1000000) (hi : i < n) {j m : Nat} (hj : i + 1 = j) (hn : n = m + 1) :
    Calls Try.prog 33 #[.slice A n c, .int .i64 (i : Int), .int .i64 (j : Int)] w (RwDid w B A m (l.take i ++ l.drop j)) := by
  have hnc := h.nc
  rcases h.at_ with ⟨rfl, h0, _⟩ | ⟨g, pre, sp, rfl, hbg, hg, _, hcm, hlen⟩
  · omega
  have mixed : Try.prog.follows Departure.mixedOrders = true := by kernel_rfl
  have hv1 : (tvs l).length = n * 2 := h.len
  obtain ⟨L1, hL1⟩ : ∃ L1, (tvs l).take (i * 2) = L1 := ⟨_, rfl⟩
  obtain ⟨L2, hL2⟩ : ∃ L2, (tvs l).drop (i * 2) = L2 := ⟨_, rfl⟩
  obtain ⟨L3, hL3⟩ : ∃ L3, (tvs l).drop (j * 2) = L3 := ⟨_, rfl⟩
  have hvs : tvs l = L1 ++ L2 := by rw [← hL1, ← hL2, List.take_append_drop]
  have hl1 : L1.length = i * 2 := by rw [← hL1, List.length_take]; omega
  have hl2 : L2.length = (n - i) * 2 := by rw [← hL2, List.length_drop]; omega
  have hl3 : L3.length = (n - j) * 2 := by rw [← hL3, List.length_drop]; omega
  have ho3 : ∀ v ∈ L3, v.oneCell' = true := fun v hv => tvs_one l v (by rw [← hL3] at hv; exact List.mem_of_mem_drop hv)
  obtain ⟨q1, q2, hq12, hq1, hq2⟩ : ∃ q1 q2 : List Value, L2 = q1 ++ q2 ∧ q1.length = L3.length ∧ q2.length = 2 := ⟨L2.take L3.length, L2.drop L3.length, (List.take_append_drop _ _).symm, by rw [List.length_take]; omega, by rw [List.length_drop]; omega⟩
  obtain ⟨i0, hi0, hz0, hzs, hzb⟩ := info_parts info36
  have hgd : w.drew.heap[g]? = some (.cells (pre ++ (L1 ++ L2) ++ sp).toArray 36 (0, 0)) := by rw [← hvs]; exact hg
  have hg0 : w.drew.heap[g]? = some (.cells ((pre ++ L1) ++ q1 ++ (q2 ++ sp)).toArray 36 (0, 0)) := by
    rw [hgd, hq12]
    simp
  obtain ⟨X, hX⟩ : ∃ X : Addr, (if c = j then (⟨g, pre.length, none⟩ : Addr) else ⟨g, pre.length + j * 2, none⟩) = X := ⟨_, rfl⟩
  have hsrc : ∀ t u, L3[t]? = some u → w.drew.cell? (X.add t) = some u := fun t u ht => by
    have ht' := (List.getElem?_eq_some_iff.1 ht).1
    rw [← hX, if_neg (by omega), addr_at]
    rw [← hL3, List.getElem?_drop] at ht
    have := (h.cells (w := w) rfl ht).1
    rw [Nat.add_assoc]
    exact this
  have happ := fun ty => run_append_room_cells (P := Try.prog) w.drew 30 ty 36 i0 Try.underlying30 hi0 g pre.length i c X (n - j) (c - j) L3 (by rw [hzs, hl3]) hsrc ho3 (by omega) (fun t ht => by
      simp only [World.cell?, hgd, hzs]
      simp only [List.getElem?_toArray]
      rw [List.getElem?_eq_getElem (by simp only [List.length_append]; omega)]
      rfl) (fun t _ => frozen_of_row w.drew g _ _ 36 hgd)
  have hpl : (pre ++ L1).length = pre.length + i * i0.size := by rw [List.length_append, hl1, hzs]
  rw [← hpl, setCells_row w.drew Try.prog g 36 (pre ++ L1) q1 (q2 ++ sp) L3 hg0 hq1 ho3, show i + (n - j) = m by omega] at happ
  obtain ⟨w1, hw1⟩ : ∃ w1, w.drew.setRow g (pre ++ L1 ++ L3 ++ (q2 ++ sp)).toArray = w1 := ⟨_, rfl⟩
  rw [hw1] at happ
  have hg1 : w1.heap[g]? = some (.cells ((pre ++ L1 ++ L3) ++ q2 ++ sp).toArray 36 (0, 0)) := by
    rw [← hw1, setRow_heap w.drew g _ _ 36 _ hg0]
    simp
  obtain ⟨zs, hzs', hcl0⟩ := run_clearK (P := Try.prog) w1 30 36 2 zTm Try.underlying30 Try.zeroValue36 rfl (by simp [Value.cells, Value.oneCell']) (by omega) g 36 (c - m) 1 _ q2 sp hg1 hq2
  have hcl := fun ty => hcl0 ty (some ⟨g, pre.length + m * 2, none⟩) (fun _ => by congr 2; simp only [List.length_append]; omega) (fun e => by cases e)
  have s1 := fun W => slice_lhmk (P := Try.prog) 30 Try.underlying30 size36 (some ⟨g, pre.length, none⟩) n c i j n (by omega) (by omega) (by omega) W
  have s2 := fun W => slice_hk (P := Try.prog) 30 Try.underlying30 size36 (some ⟨g, pre.length, none⟩) h.addr n c i (by omega) W
  have s3 := fun W => slice_lk (P := Try.prog) 30 Try.underlying30 size36 (some ⟨g, pre.length, none⟩) n c j (by omega) W
  have s4 := fun W => slice_lhk (P := Try.prog) 30 Try.underlying30 size36 (some ⟨g, pre.length, none⟩) m c m n (by omega) hnc.1 W
  rw [if_neg (by omega)] at s1 s4
  have hX' : (if c = j then some (⟨g, pre.length, none⟩ : Addr) else some ⟨g, pre.length + j * 2, none⟩) = some X := by rw [← hX]; split <;> rfl
  simp only [Option.map_some, addr_at] at s1 s3 s4
  rw [hX'] at s3
  rw [show n - m = 1 by omega] at s4
  obtain ⟨w2, hw2⟩ : ∃ w2, w1.setRow g (pre ++ L1 ++ L3 ++ zs ++ sp).toArray = w2 := ⟨_, rfl⟩
  rw [hw2] at hcl
  have HE : Hid (RwDid w B (some ⟨g, pre.length, none⟩) m (l.take i ++ l.drop j) (.returned (.slice (some ⟨g, pre.length, none⟩) m c)) w2) := by
    have e : tvs (l.take i ++ l.drop j) = L1 ++ L3 := by rw [tvs_append, ← tvs_take, ← tvs_drop, hL1, hL3]
    refine ⟨_, c, rfl, ⟨?_, .inr ⟨g, pre, zs ++ sp, rfl, hbg, ?_, by omega, hcm, ?_⟩⟩, ?_, .inl rfl⟩
    · rw [e]; simp only [List.length_append]; omega
    · rw [e, ← hw2, setRow_heap w1 g _ _ 36 _ hg1]
      simp
    · rw [e]
      simp only [List.length_append]
      omega
    · exact (((drew_but w).mono (by simp)).trans (hw1 ▸ (But.refl [g] _).setRow (by simp) _)).trans (hw2 ▸ (But.refl [g] _).setRow (by simp) _)
  have hne : ((i : Int) == (j : Int)) = false := by simp; omega
  clear hX hX' hpl hsrc hgd hg0 hg1 hq12 hq1 hq2 hw1 hw2 hzs' hcl0 hi0 hz0 hzs hzb ho3 hl1 hl2 hl3 hvs hL1 hL2 hL3 hv1 hlen hcm hg hbg h hln hnc hj hn hm hi
  go_enter Try.func33, Try.ntmps33
  go_wp2
  go_region_law (refine step_app_run rfl _ _ 30 rfl (by simp [Act.eval]; rfl) (by simp [Act.eval]; rfl) (happ 30) ?_)
  go_wp2
  go_ret
  exact HE.out
end
end Go.Proofs.Ytncjbohpaanpaaa
