import Derived.Test.YtfibkpjodhcppaaTable
import Derived.Test.YtfibkpjodhcppaaEntry
namespace Go.Proofs.Ytfibkpjodhcppaa
open Go.RowKit Go.Coop

/-- the table as far as it is made -/
def made (k : Nat) : List Nat := (List.range k).map entry ++ List.replicate (256 - k) 0
theorem made_length {k : Nat} (h : k ≤ 256) : (made k).length = 256 := by simp [made]; omega
theorem made_set {k : Nat} (h : k < 256) : (made k).set k (entry k) = made (k + 1) := by
  have e : 256 - k = (256 - (k + 1)) + 1 := by omega
  unfold made
  rw [e, List.replicate_succ, List.range_succ, List.map_append, List.set_append_right _ _ (by simp)]
  simp

set_option maxRecDepth 100000 in
theorem rtable_any (w : World) : Calls Try.prog 25 #[] w fun e w' => e = .returned (.agg (tarr ((List.range 256).map entry))) ∧ Below w.heap.size w w' := by
  have hz := (zero_of_info info24).1
  obtain ⟨Z, hZ⟩ : ∃ Z, Z = (Array.replicate 256 (Value.int .u32 0)) := ⟨_, rfl⟩
  rw [← hZ] at hz
  have hZ0 : Z = tarr (made 0) := by rw [hZ]; simp only [tarr, made, List.range_zero, List.map_nil, List.nil_append, Nat.sub_zero, List.map_replicate, List.toArray_replicate]; rfl
  have HZ := Lib.hid hZ0
  clear hZ hZ0
  go_enter Try.func25, Try.ntmps25
  go_wp2
  go_loopw [2] (fun i wr => ∃ (k : Nat) (cur : Array Value), k ≤ 256 ∧ i = .int .i64 k ∧ Hid (cur = tarr (made k)) ∧ wr = (w.alloc (.cells Z 24)).alloc (.cells cur 24)) (fun i _ => 256 - (intOf i).toNat)
  case atStart => exact ⟨0, Z, by omega, rfl, HZ.out, rfl⟩
  case round =>
    obtain ⟨k, cur, hk, rfl, HC, rfl⟩ := hrel
    by_cases hlt : k < 256
    · have hc1 : cur[k]? = some (.int .u32 (((made k).getD k 0 : Nat) : Int)) := by rw [HC.out]; exact tarr_at (by rw [made_length hk]; exact hlt)
      have hset : cur.setIfInBounds k (.int .u32 ((entry k : Nat) : Int)) = tarr (made (k + 1)) := by rw [HC.out, tarr_set, made_set hlt]
      have HS := Lib.hid hset
      generalize (made k).getD k 0 = Y at *
      clear hset HC
      go_wp2_with (go_at_call 12; refine (entry_any _ _ hlt).mono ?_; rintro e w' ⟨rfl, rfl⟩)
      go_roundw
      case rel => exact ⟨k + 1, _, by omega, by go_num, HS.out, rfl⟩
      case measure => simp [intOf]; omega
    · obtain rfl : k = 256 := by omega
      have hcur : cur = tarr ((List.range 256).map entry) := by rw [HC.out]; simp only [made, Nat.sub_self, List.replicate_zero, List.append_nil]
      have hcs : cur.size = 256 := by rw [hcur, tarr_size]; simp
      have HCS := Lib.hid hcs
      have HCU := Lib.hid hcur
      have hZs : Z.size = 256 := by rw [HZ.out, tarr_size]; exact made_length (by omega)
      have HZS := Lib.hid hZs
      have h1 : cur.all (·.oneCell') = true := by rw [hcur]; simp [tarr]; intro x hx; rfl
      have H1 := Lib.hid h1
      clear hcs hcur hZs h1 hz HC
      go_wp2_with (first
        | (refine wpList_load_row rfl 24 _ rfl (w.heap.size + 1) rfl 24 cur (0, 0) _ (heap_alloc2_new w _ _) Try.underlying24 rfl (by rw [HCS.out]; exact size24) ?_)
        | (refine wpList_store_row rfl 24 (.tmp 0) (.tmp 11) rfl w.heap.size cur rfl rfl 24 Z (heap_alloc2_old w _ _) (by rw [HCS.out]; exact size24) (by rw [HCS.out, HZS.out]) H1.out ?_))
      have hg : (((w.alloc (Obj.cells Z 24)).alloc (Obj.cells cur 24)).setRow w.heap.size cur).heap[w.heap.size]? = some (.cells cur 24 (0, 0)) := setRow_heap _ _ _ _ _ _ (heap_alloc2_old w _ _)
      refine bodyPost_ret (v := .agg cur) (results_cell_row (by rfl) _ _ w.heap.size 24 cur (0, 0) _ rfl hg Try.underlying24 rfl (by rw [HCS.out]; exact size24)) rfl ⟨by rw [HCU.out], ?_⟩
      exact (((Below.refl w.heap.size w).alloc (Nat.le_refl _) _).alloc (by simp) _).trans ⟨rfl, rfl, rfl, by simp [World.setRow], fun k hk => setRow_other _ _ _ _ (by omega)⟩
end Go.Proofs.Ytfibkpjodhcppaa
