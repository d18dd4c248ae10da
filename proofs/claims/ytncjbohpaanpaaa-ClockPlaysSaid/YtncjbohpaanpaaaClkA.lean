/- Timers in memory; slices.Insert and slices.Delete at timers. -/
import Derived.Test.YtncjbohpaanpaaaRows
import Derived.Test.YtncjbohpaanpaaaClkP
import Derived.Test.YtncjbohpaanpaaaRwK
import Derived.Shelf.RegionOpenPlain
import Derived.WalkKit
import Derived.Lib.Walk
import Derived.Lib.Overlaps
import Derived.Laws.Externs
import Derived.Deep.RegionLaw
import Derived.Shelf.Spec.SlicesInsert
namespace Go.Proofs.Ytncjbohpaanpaaa
open Go.RowKit Go.Coop
set_option maxRecDepth 100000
def Tm.vs (t : Tm) : List Value := [.int .i64 t.due, .int .i64 t.id]
def tvs (l : List Tm) : List Value := l.flatMap Tm.vs
theorem tvs_nil : tvs [] = [] := rfl
theorem tvs_cons (d : Tm) (l : List Tm) : tvs (d :: l) = d.vs ++ tvs l := rfl
theorem tvs_append (a b : List Tm) : tvs (a ++ b) = tvs a ++ tvs b := List.flatMap_append
theorem tvs_len (l : List Tm) : (tvs l).length = l.length * 2 := by
  induction l with
  | nil => rfl
  | cons a l ih => rw [tvs_cons, List.length_append, ih, List.length_cons]; simp [Tm.vs]; omega
theorem vs_len (d : Tm) : d.vs.length = 2 := rfl
theorem tvs_one (l : List Tm) : ∀ u ∈ tvs l, u.oneCell' = true := by
  intro u hu
  obtain ⟨c, _, hc⟩ := List.mem_flatMap.1 hu
  simp [Tm.vs] at hc
  rcases hc with rfl | rfl <;> rfl
theorem vs_one (d : Tm) : ∀ u ∈ d.vs, u.oneCell' = true := by
  have := tvs_one [d]
  simpa [tvs] using this
theorem tvs_take (l : List Tm) (i : Nat) : (tvs l).take (i * 2) = tvs (l.take i) := by
  by_cases h : i ≤ l.length
  · conv => lhs; rw [← List.take_append_drop i l, tvs_append]
    rw [List.take_append_of_le_length (by rw [tvs_len, List.length_take]; omega), List.take_of_length_le (by rw [tvs_len, List.length_take]; omega)]
  · rw [List.take_of_length_le (by rw [tvs_len]; omega), List.take_of_length_le (by omega)]
theorem tvs_drop (l : List Tm) (i : Nat) : (tvs l).drop (i * 2) = tvs (l.drop i) := by
  by_cases h : i ≤ l.length
  · conv => lhs; rw [← List.take_append_drop i l, tvs_append]
    rw [List.drop_append_of_le_length (by rw [tvs_len, List.length_take]; omega), List.drop_of_length_le (by rw [tvs_len, List.length_take]; omega)]
    rfl
  · rw [List.drop_of_length_le (by rw [tvs_len]; omega), List.drop_of_length_le (by omega)]
    rfl
theorem tvs_get {l : List Tm} {i : Nat} {d : Tm} (h : l[i]? = some d) {j : Nat} {v : Value} (hj : d.vs[j]? = some v) : (tvs l)[i * 2 + j]? = some v := by
  have hi : i < l.length := (List.getElem?_eq_some_iff.1 h).1
  have hj' := (List.getElem?_eq_some_iff.1 hj).1
  rw [← List.getElem?_drop, tvs_drop, List.drop_eq_getElem_cons hi, (List.getElem?_eq_some_iff.1 h).2, tvs_cons, List.getElem?_append_left hj', hj]
theorem info36 : (Try.prog.info? 36).map (fun i => (i.zero, i.size, i.bytes)) = some (some (.agg #[.int .i64 0, .int .i64 0]), 2, 16) := by kernel_rfl
theorem size36 : (Try.prog.info? 36).map (·.size) = some 2 := by kernel_rfl
/-- the list l lies at A -/
abbrev Tl (w : World) (B : Nat) (A : Option Addr) (n c : Nat) (l : List Tm) : Prop := RowW w B 36 2 A n c (tvs l)
theorem drew_but (w : World) : But [] w w.drew := ⟨rfl, rfl, rfl, Nat.le_refl _, fun _ _ _ => rfl⟩
/-- what a call that writes the row at A leaves -/
def RwDid (w : World) (B : Nat) (A : Option Addr) (m : Nat) (l : List Tm) (e : Ending) (w' : World) : Prop :=
  ∃ A' c', e = .returned (.slice A' m c') ∧ Tl w' B A' m c' l ∧ But (A.map (·.block)).toList w w' ∧ (A'.map (·.block) = A.map (·.block) ∨ ∃ j, w.heap.size ≤ j ∧ A'.map (·.block) = some j)
section
variable (w : World) {B n c i : Nat} {A : Option Addr} {l : List Tm} {x : Tm} {N : Nat}
theorem box_rd {w : World} {N : Nat} {x : Tm} (hx : w.heap[N]? = some (.cells #[.int .i64 x.due, .int .i64 x.id] 36 (0, 0))) : RdV w (some ⟨N, 0, none⟩) (1 * 2) x.vs :=
  ⟨rfl, fun _ => ⟨_, rfl, (Array.getElem?_eq_some_iff.1 hx).1, fun j v hj => by
    rw [addr_at, Nat.zero_add, cell_of_row w N j _ 36 (0, 0) hx]
    simpa [Tm.vs] using hj⟩⟩
set_option maxHeartbeats 1000000 in
theorem insert_end (h : Tl w B A n c l) (hln : l.length = n) (hm : n ≤ 1000000) (hB : B ≤ w.heap.size) (hx : w.heap[N]? = some (.cells #[.int .i64 x.due, .int .i64 x.id] 36 (0, 0))) :
    Calls Try.prog 31 #[.slice A n c, .int .i64 (n : Int), .slice (some ⟨N, 0, none⟩) 1 1] w (RwDid w B A (n + 1) (l ++ [x])) := by
  obtain ⟨A', c', w', hrun, h1, h2, h3⟩ := run_appW (P := Try.prog) w B 30 30 36 2 _ 16 Try.underlying30 info36 rfl (by omega) h 1 (box_rd hx) (by omega) (vs_one x) (by omega) (by omega) hB
  have s1 := fun W => slice_lk (P := Try.prog) 30 Try.underlying30 size36 A n c n (Nat.le_refl _) W
  have HR : Hid (RwDid w B A (n + 1) (l ++ [x]) (.returned (.slice A' (n + 1) c')) w') := ⟨A', c', rfl, by unfold Tl; rw [tvs_append]; simpa [tvs] using h1, h2, h3⟩
  have HQ := Lib.hid hrun
  clear h h1 h2 h3 hx hrun hB hln
  go_enter Try.func31, Try.ntmps31
  go_wp2_with (at_builtin; refine Lib.wpList_append_run _ rfl _ _ _ _ rfl _ _ rfl rfl _ _ HQ.out ?_)
  all_goals (go_ret; exact HR.out)
set_option maxHeartbeats 2000000 in
theorem insert_shift (h : Tl w B A n c l) (hln : l.length = n) (hm : n ≤ 1000000) (hi : i < n) (hroom : n + 1 ≤ c) (hB : B ≤ w.heap.size) (hx : w.heap[N]? = some (.cells #[.int .i64 x.due, .int .i64 x.id] 36 (0, 0))) (hN : A.map (·.block) ≠ some N) :
    Calls Try.prog 31 #[.slice A n c, .int .i64 (i : Int), .slice (some ⟨N, 0, none⟩) 1 1] w (RwDid w B A (n + 1) (l.take i ++ x :: l.drop i)) := by
  have hnc := h.nc
  rcases h.at_ with ⟨rfl, h0, _⟩ | ⟨g, pre, sp, rfl, hbg, hg, _, hcm, hlen⟩
  · omega
  have hne : N ≠ g := by rintro rfl; exact hN rfl
  obtain ⟨n1, hn1⟩ : ∃ n1, n + 1 = n1 := ⟨_, rfl⟩
  obtain ⟨i1, hi1⟩ : ∃ i1, i + 1 = i1 := ⟨_, rfl⟩
  rw [hn1] at hroom ⊢
  have mixed : Try.prog.follows Departure.mixedOrders = true := by kernel_rfl
  have s1 := fun W => slice_lk (P := Try.prog) 30 Try.underlying30 size36 (some ⟨g, pre.length, none⟩) n c i (by omega) W
  have s2 := fun W => slice_hk (P := Try.prog) 30 Try.underlying30 size36 (some ⟨g, pre.length, none⟩) h.addr n c n1 hroom W
  have s3 := fun W => slice_lk (P := Try.prog) 30 Try.underlying30 size36 (some ⟨g, pre.length, none⟩) n1 c i1 (by omega) W
  have s4 := fun W => slice_lk (P := Try.prog) 30 Try.underlying30 size36 (some ⟨g, pre.length, none⟩) n1 c i (by omega) W
  rw [if_neg (by omega)] at s1 s3 s4
  simp only [Option.map_some, addr_at] at s1 s3 s4
  have hsub : n1 - i1 = n - i := by omega
  rw [hsub] at s3
  have hv1 : (tvs l).length = n * 2 := h.len
  obtain ⟨L1, hL1⟩ : ∃ L1, (tvs l).take (i * 2) = L1 := ⟨_, rfl⟩
  obtain ⟨L2, hL2⟩ : ∃ L2, (tvs l).drop (i * 2) = L2 := ⟨_, rfl⟩
  have hvs : tvs l = L1 ++ L2 := by rw [← hL1, ← hL2, List.take_append_drop]
  have hl1 : L1.length = i * 2 := by rw [← hL1, List.length_take]; omega
  have hl2 : L2.length = (n - i) * 2 := by rw [← hL2, List.length_drop]; omega
  have ho2 : ∀ v ∈ L2, v.oneCell' = true := fun v hv => tvs_one l v (by rw [hvs]; simp [hv])
  obtain ⟨s0, sp1, hsp, hs0⟩ : ∃ s0 sp1 : List Value, sp = s0 ++ sp1 ∧ s0.length = 2 := ⟨sp.take 2, sp.drop 2, (List.take_append_drop 2 sp).symm, by rw [List.length_take]; omega⟩
  obtain ⟨T2, M2, hTM, hT2, hM2⟩ : ∃ T2 M2 : List Value, L2 ++ s0 = T2 ++ M2 ∧ T2.length = 2 ∧ M2.length = L2.length := ⟨(L2 ++ s0).take 2, (L2 ++ s0).drop 2, (List.take_append_drop 2 _).symm, by rw [List.length_take, List.length_append]; omega, by rw [List.length_drop, List.length_append]; omega⟩
  have hg1 : w.drew.heap[g]? = some (.cells ((pre ++ L1 ++ T2) ++ M2 ++ sp1).toArray 36 (0, 0)) := by
    rw [show w.drew.heap[g]? = w.heap[g]? from rfl, hg, hvs, hsp]
    congr 2
    simp only [List.append_assoc]
    congr 3
    rw [← List.append_assoc, hTM, List.append_assoc]
  have hc1 := fun ty => run_copyK (P := Try.prog) w.drew 30 30 ty 36 2 g (pre.length + i1 * 2) (n - i) (c - i1) ⟨g, pre.length + i * 2, none⟩ (n1 - i) (c - i) (n - i) L2 Try.underlying30 size36 (by simp only [Nat.min_def]; split <;> omega) hl2
    (fun j v hj => by
      rw [addr_at]
      have hj' := (List.getElem?_eq_some_iff.1 hj).1
      simp only [World.cell?, show w.drew.heap[g]? = w.heap[g]? from rfl, hg, hvs]
      simp only [List.getElem?_toArray]
      rw [List.append_assoc, List.getElem?_append_right (by omega), List.append_assoc, List.getElem?_append_right (by omega), List.getElem?_append_left (by omega)]
      rw [show pre.length + i * 2 + j - pre.length - L1.length = j by omega, hj]
      rfl) 36 (pre ++ L1 ++ T2) M2 sp1 hg1 (by rw [List.length_append, List.length_append]; omega) hM2 ho2
  obtain ⟨w1, hw1⟩ : ∃ w1, w.drew.setRow g (pre ++ L1 ++ T2 ++ L2 ++ sp1).toArray = w1 := ⟨_, rfl⟩
  rw [hw1] at hc1
  have hg2 : w1.heap[g]? = some (.cells ((pre ++ L1) ++ T2 ++ (L2 ++ sp1)).toArray 36 (0, 0)) := by
    rw [← hw1, setRow_heap w.drew g _ _ 36 _ hg1]
    simp
  have hb1 : But [g] w w1 := hw1 ▸ ((drew_but w).mono (by simp)).trans ((But.refl [g] _).setRow (by simp) _)
  have hx1 : w1.heap[N]? = some (.cells #[.int .i64 x.due, .int .i64 x.id] 36 (0, 0)) := hb1.cells hx (by simpa using hne)
  have hc2 := fun ty => run_copyK (P := Try.prog) w1 30 30 ty 36 2 g (pre.length + i * 2) (n1 - i) (c - i) ⟨N, 0, none⟩ 1 1 1 x.vs Try.underlying30 size36 (by simp only [Nat.min_def]; split <;> omega) rfl
    (fun j v hj => by
      rw [addr_at, Nat.zero_add, cell_of_row w1 N j _ 36 (0, 0) hx1]
      simpa [Tm.vs] using hj) 36 (pre ++ L1) T2 (L2 ++ sp1) hg2 (by rw [List.length_append]; omega) hT2 (vs_one x)
  obtain ⟨w2, hw2⟩ : ∃ w2, w1.setRow g (pre ++ L1 ++ x.vs ++ (L2 ++ sp1)).toArray = w2 := ⟨_, rfl⟩
  rw [hw2] at hc2
  have hov : ∀ lb cb, (callFunc 38 #[.slice (some ⟨N, 0, none⟩) 1 1, .slice (some ⟨g, pre.length + i1 * 2, none⟩) lb cb]).run Try.prog w = .ok (.value (.bool false)) w := fun lb cb => by
    rw [run_callFunc_extern Try.func38 (by kernel_rfl) (by kernel_rfl) (by kernel_rfl) (e := Extern.SlicesOverlaps.overlaps #[30, 30] #[4]) (by kernel_rfl),
      Lib.run_overlaps_apart w 30 4 36 Try.underlying30 2 Try.sizeOf36 ⟨N, 0, none⟩ ⟨g, pre.length + i1 * 2, none⟩ 1 1 lb cb hne 36 36 2 (pre ++ tvs l ++ sp).length (by simp [World.shape?, hx]) (by simp [World.shape?, hg]) (by rw [List.length_append, List.length_append]; omega) (frozen_of_row w N _ _ 36 hx) (frozen_of_row w N _ _ 36 hx)]
    rfl
  have HE : Hid (RwDid w B (some ⟨g, pre.length, none⟩) n1 (l.take i ++ x :: l.drop i) (.returned (.slice (some ⟨g, pre.length, none⟩) n1 c)) w2) := by
    have e : tvs (l.take i ++ x :: l.drop i) = L1 ++ x.vs ++ L2 := by rw [tvs_append, tvs_cons, ← tvs_take, ← tvs_drop, hL1, hL2, List.append_assoc]
    refine ⟨_, c, rfl, ⟨?_, .inr ⟨g, pre, sp1, rfl, hbg, ?_, hroom, hcm, ?_⟩⟩, ?_, .inl rfl⟩
    · rw [e]; simp only [List.length_append, vs_len]; omega
    · rw [e, ← hw2, setRow_heap w1 g _ _ 36 _ hg2]
      simp
    · rw [e]
      have : sp.length = 2 + sp1.length := by rw [hsp, List.length_append, hs0]
      simp only [List.length_append, vs_len]
      omega
    · exact hb1.trans (hw2 ▸ (But.refl [g] _).setRow (by simp) _)
  have hwr : IntKind.i64.wrap ((n : Int) + 1) = (n1 : Int) := (IntWalk.i64_in _ (by omega)).trans (by omega)
  have hwr2 : IntKind.i64.wrap ((i : Int) + 1) = (i1 : Int) := (IntWalk.i64_in _ (by omega)).trans (by omega)
  have hin : ¬ ((i : Int) = (n : Int)) := by omega
  have hcr : ¬ ((c : Int) < (n1 : Int)) := by omega
  have hbe : ((i : Int) == (n : Int)) = false := by simp; omega
  clear hn1 hi1 hsub hw1 hw2 hb1 hx1 hg2 hg1 hTM hT2 hM2 hsp hs0 ho2 hl1 hl2 hvs hL1 hL2 hv1 hlen hcm hg hbg h hx hN hB hln hnc hin
  go_enter Try.func31, Try.ntmps31
  go_wp2_with (simp only [hov])
  go_region_law_o (refine step_copy_runI rfl _ _ 30 30 rfl _ _ (by simp [Act.eval, Act.put]) (by simp [Act.eval, Act.put]) (hc1 _) ?_)
  go_wp2_with (at_builtin; refine wpList_copy_runI _ rfl _ _ 30 30 rfl _ _ rfl rfl (hc2 _) ?_)
  go_ret
  exact HE.out
end
end Go.Proofs.Ytncjbohpaanpaaa
