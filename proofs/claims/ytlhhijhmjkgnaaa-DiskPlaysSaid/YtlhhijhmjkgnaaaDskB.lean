/- New; a sector of one byte (of); Write. -/
import Derived.Test.YtlhhijhmjkgnaaaDskC
import Derived.Laws.MakeOwn
namespace Go.Proofs.Ytlhhijhmjkgnaaa
open Go.RowKit Go.Coop
set_option maxRecDepth 100000

/-- a sector of one byte -/
def ofB (b : UInt8) : List UInt8 := List.replicate 64 b
theorem ofB_len (b : UInt8) : (ofB b).length = 64 := by simp [ofB]
def filled (b : UInt8) (k : Nat) : Array Value := (bvs (List.replicate k b ++ List.replicate (64 - k) 0)).toArray
theorem filled_zero (b : UInt8) : filled b 0 = Array.replicate 64 (.int .u8 0) := by
  unfold filled bvs
  simp
  rfl
theorem filled_all (b : UInt8) : filled b 64 = (bvs (ofB b)).toArray := by simp [filled, ofB]
theorem filled_size (b : UInt8) {k : Nat} (hk : k ≤ 64) : (filled b k).size = 64 := by simp [filled, bvs_length]; omega
theorem filled_step (b : UInt8) {k : Nat} (hk : k < 64) : (filled b k).setIfInBounds k (.int .u8 (b.toNat : Int)) = filled b (k + 1) := by
  unfold filled
  have e : List.replicate (64 - k) (0 : UInt8) = 0 :: List.replicate (64 - (k + 1)) 0 := by
    rw [← List.replicate_succ]
    congr 1
    omega
  show (bvs _).toArray.setIfInBounds k (BV b) = _
  rw [e, List.setIfInBounds_toArray]
  congr 1
  unfold bvs
  rw [← List.map_set, List.set_append_right _ _ (by simp), List.length_replicate, Nat.sub_self, List.set_cons_zero, List.replicate_succ', List.append_assoc]
  rfl
theorem filled_get (b : UInt8) {k : Nat} (hk : k < 64) : (filled b k)[k]? = some (.int .u8 0) := by
  show (bvs _).toArray[k]? = _
  rw [List.getElem?_toArray]
  refine bvs_at' (c := 0) ?_
  rw [List.getElem?_append_right (by simp), List.length_replicate, Nat.sub_self, List.getElem?_replicate, if_pos (by omega)]
theorem made_rep (v : Value) {s : Nat} (hs : 0 < s) (m : Nat) : madeCells (Array.replicate s v) m = Array.replicate m v := by
  apply Array.ext
  · simp [madeCells]
  · intro j h1 h2
    have : j % s < s := Nat.mod_lt _ hs
    simp [madeCells, this]
theorem info5 : (Try.prog.info? 5).map (fun i => (i.zero, i.size, i.bytes)) = some (some (.int .u8 0), 1, 1) := by kernel_rfl
theorem bvs_noughts (n : Nat) : (bvs (List.replicate n 0)).toArray = Array.replicate n (.int .u8 0) := by
  unfold bvs
  rw [List.map_replicate, List.toArray_replicate]
  rfl
theorem make29 (n : Nat) (hn : n ≤ 140737488355328) (w : World) : (Instr.makeSlice 29 (.int .i64 (n : Int)) (.int .i64 (n : Int))).run Try.prog w = .ok (.slice (some ⟨w.heap.size, 0, none⟩) n n) (w.alloc (.cells (bvs (List.replicate n 0)).toArray 5)) := by
  obtain ⟨i, hi, hz, hs, hb⟩ := info_parts info5
  have := run_make (P := Try.prog) w 29 5 i (.int .u8 0) Try.underlying29 hi hz .i64 .i64 n n (by omega) (by omega) (by rw [hb]; omega) (by omega)
  rw [hs, Int.toNat_natCast, Nat.mul_one] at this
  have e : madeCells (Value.int .u8 0).cells n = Array.replicate n (.int .u8 0) := made_rep _ (s := 1) (by omega) n
  rw [this, e, bvs_noughts]
theorem of_any (b : UInt8) (w : World) : Calls Try.prog 14 #[.int .u8 (b.toNat : Int)] w fun e w' => e = .returned (.slice (some ⟨w.heap.size, 0, none⟩) 64 64) ∧ w' = w.alloc (.cells (bvs (ofB b)).toArray 5) := by
  have hmk : ∀ w : World, (Instr.makeSlice 29 (.int .i64 64) (.int .i64 64)).run Try.prog w = .ok (.slice (some ⟨w.heap.size, 0, none⟩) 64 64) (w.alloc (.cells (filled b 0) 5)) := by
    intro w
    rw [filled_zero]
    have := make29 64 (by omega) w
    rw [bvs_noughts] at this
    exact this
  go_enter Try.func14, Try.ntmps14
  go_wp2
  go_loopw [8] (fun i wr => ∃ k : Nat, k ≤ 64 ∧ i = .int .i64 k ∧ wr = w.alloc (.cells (filled b k) 5)) (fun i _ => 64 - (Go.RowKit.intOf i).toNat)
  case atStart => exact ⟨0, by omega, rfl, rfl⟩
  case round =>
    obtain ⟨k, hk, rfl, rfl⟩ := hrel
    by_cases hlt : k < 64
    · have hget := filled_get b hlt
      have hst := Lib.hid (filled_step b hlt)
      go_wp2
      go_roundw
      case rel => exact ⟨k + 1, by omega, by go_num, by rw [← hst.out]⟩
      case measure => simp [Go.RowKit.intOf]; omega
    · obtain rfl : k = 64 := by omega
      go_wp2
      go_ret
      exact ⟨rfl, by rw [filled_all]⟩

theorem info77b : (Try.prog.info? 77).map (fun i => (i.zero, i.size, i.bytes)) = some (some (.agg (Array.replicate 64 (.int .u8 0))), 64, 64) := by kernel_rfl
theorem flat_noughts (n : Nat) : (flat n (fun _ => noughts)).toArray = Array.replicate (n * 64) (.int .u8 0) := by
  have : flat n (fun _ => noughts) = List.replicate (n * 64) (.int .u8 0) := by
    induction n with
    | zero => rfl
    | succ n ih =>
      unfold flat at ih ⊢
      rw [List.range_succ, List.flatMap_append, ih]
      simp only [List.flatMap_cons, List.flatMap_nil, List.append_nil]
      have : bvs noughts = List.replicate 64 (.int .u8 0) := by unfold bvs noughts; rw [List.map_replicate]; rfl
      rw [this, List.replicate_append_replicate]
      congr 1
      omega
  rw [this, List.toArray_replicate]
theorem make56 (n : Nat) (hn : n ≤ 65536) (w : World) : (Instr.makeSlice 56 (.int .i64 (n : Int)) (.int .i64 (n : Int))).run Try.prog w = .ok (.slice (some ⟨w.heap.size, 0, none⟩) n n) (w.alloc (.cells (flat n (fun _ => noughts)).toArray 77)) := by
  obtain ⟨i, hi, hz, hs, hb⟩ := info_parts info77b
  have := run_make (P := Try.prog) w 56 77 i _ Try.underlying56 hi hz .i64 .i64 n n (by omega) (by omega) (by rw [hb]; omega) (by omega)
  rw [hs, Int.toNat_natCast] at this
  have e : madeCells (Value.agg (Array.replicate 64 (.int .u8 0))).cells (n * 64) = Array.replicate (n * 64) (.int .u8 0) := made_rep _ (s := 64) (by omega) _
  rw [this, e, flat_noughts]

def NewIs (w : World) (n : Nat) (e : Ending) (w' : World) : Prop := ∃ g m c, e = .returned (.tuple #[.pointer (some ⟨g, 0, none⟩), .int .i64 0]) ∧ DiskAt w' g m c (DS.new n) ∧ w.heap.size ≤ g ∧ w.heap.size ≤ m ∧ w.heap.size ≤ c ∧ Below w.heap.size w w'
theorem new_at (w : World) (n : Nat) (h1 : 1 ≤ n) (h2 : n ≤ 65536) : DiskAt (((w.alloc (.cells (flat n (fun _ => noughts)).toArray 77)).alloc (.map #[] 0)).alloc (.cells #[.slice (some ⟨w.heap.size, 0, none⟩) n n, .map (some (w.heap.size + 1)), .bool false, .int .i64 0, .bool false] 59)) (w.heap.size + 1 + 1) w.heap.size (w.heap.size + 1) (DS.new n) := by
  refine ⟨DS.new_ok h1 h2, ?_, ?_, .map [], ?_, cache_empty _⟩
  · have := heap_alloc_new ((w.alloc (.cells (flat n (fun _ => noughts)).toArray 77)).alloc (.map #[] 0)) (.cells #[.slice (some ⟨w.heap.size, 0, none⟩) n n, .map (some (w.heap.size + 1)), .bool false, .int .i64 0, .bool false] 59)
    rw [World.size_alloc, World.size_alloc] at this
    exact this
  · rw [Below.heap_alloc _ _ _ (by simp; omega), Below.heap_alloc _ _ _ (by simp)]
    exact heap_alloc_new w _
  · have := (World.ownsMap_made (w.alloc (.cells (flat n (fun _ => noughts)).toArray 77)) Try.prog 3 secR).alloc (.cells #[.slice (some ⟨w.heap.size, 0, none⟩) n n, .map (some (w.heap.size + 1)), .bool false, .int .i64 0, .bool false] 59)
    rw [World.size_alloc] at this
    exact this.mono (Nat.zero_le n)
theorem new_yes (n : Nat) (h1 : 1 ≤ n) (h2 : n ≤ 65536) (w : World) : Calls Try.prog 11 #[.int .i64 (n : Int)] w (NewIs w n) := by
  have hmk := make56 n h2
  have hmm := @run_makeMap Try.prog
  have hd1 : decide ((n : Int) < 1) = false := by simp; omega
  have hd2 : decide ((65536 : Int) < n) = false := by simp; omega
  go_enter Try.func11, Try.ntmps11
  go_wp2
  go_ret2
  exact ⟨_, _, _, rfl, new_at w n h1 h2, by omega, Nat.le_refl _, by omega, (((Below.refl _ _).alloc (Nat.le_refl _) _).alloc (by simp) _).alloc (by simp; omega) _⟩
theorem new_no (n : Int) (h : n < 1 ∨ 65536 < n) (w : World) : Calls Try.prog 11 #[.int .i64 n] w fun e w' => e = .returned (.tuple #[.pointer none, .int .i64 2]) ∧ w = w' := by
  go_enter Try.func11, Try.ntmps11
  rcases h with h | h
  · go_wp2
    go_ret2
    exact ⟨rfl, rfl⟩
  · by_cases h1 : n < 1
    · go_wp2
      go_ret2
      exact ⟨rfl, rfl⟩
    · go_wp2
      go_ret2
      exact ⟨rfl, rfl⟩
end Go.Proofs.Ytlhhijhmjkgnaaa
