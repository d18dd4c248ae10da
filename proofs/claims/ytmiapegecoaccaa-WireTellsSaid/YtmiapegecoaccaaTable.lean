/- The table of sums. -/
import Derived.Test.YtmiapegecoaccaaSums
import Derived.Deep.WholeRow
namespace Go.Proofs.Ytmiapegecoaccaa
open Go.RowKit Go.Coop

theorem info39 : (Try.prog.info? 39).map (fun i => (i.zero, i.size)) = some (some (.agg (Array.replicate 256 (.int .u32 0))), 256) := by kernel_rfl
theorem size39 : (Try.prog.info? 39).map (·.size) = some 256 := (zero_of_info info39).2

/-- the table's cells -/
def tarr (l : List Nat) : Array Value := (l.map fun (x : Nat) => Value.int .u32 (x : Int)).toArray
theorem tarr_size (l : List Nat) : (tarr l).size = l.length := by simp [tarr]
theorem tarr_at {l : List Nat} {i : Nat} (h : i < l.length) : (tarr l)[i]? = some (.int .u32 ((l.getD i 0 : Nat) : Int)) := by
  simp [tarr, List.getD_eq_getElem?_getD, List.getElem?_eq_getElem h]
theorem tarr_set (l : List Nat) (i x : Nat) : (tarr l).setIfInBounds i (.int .u32 (x : Int)) = tarr (l.set i x) := by
  simp [tarr, List.map_set]
theorem getD_lt {l : List Nat} (h : ∀ x ∈ l, x < 4294967296) (i : Nat) : l.getD i 0 < 4294967296 := by
  rw [List.getD_eq_getElem?_getD]
  cases hg : l[i]? with
  | none => simp
  | some y => exact h y (List.mem_of_getElem? hg)

/-- Where the inner loop stands. -/
structure TRel (k b q : Nat) : Prop where
  le : k < 8
  eb : b = 128 / 2 ^ k
  eq : q = 2 ^ k
theorem TRel.bq {k b q : Nat} (h : TRel k b q) : b * q = 128 ∧ 1 ≤ b ∧ b ≤ 128 ∧ 1 ≤ q ∧ q ≤ 128 := by
  obtain ⟨hk, rfl, rfl⟩ := h
  match k, hk with
  | 0, _ => decide
  | 1, _ => decide
  | 2, _ => decide
  | 3, _ => decide
  | 4, _ => decide
  | 5, _ => decide
  | 6, _ => decide
  | 7, _ => decide
theorem TRel.room {k b q j : Nat} (h : TRel k b q) (hj : j < q) : 2 * b * j + b ≤ 255 := by
  obtain ⟨h1, h2, h3, h4, h5⟩ := h.bq
  have h6 : b * (j + 1) ≤ b * q := Nat.mul_le_mul_left b (by omega)
  rw [Nat.mul_add] at h6
  have h7 : 2 * b * j = 2 * (b * j) := Nat.mul_assoc 2 b j
  omega
theorem TRel.bit {k b q : Nat} (h : TRel k b q) : (128 : Int) / 2 ^ k = (b : Int) := by
  rw [h.eb]; simp
theorem TRel.many {k b q : Nat} (h : TRel k b q) : wrap64 (2 ^ k) = (q : Int) := by
  have h5 := h.bq.2.2.2.2
  have e : ((2 : Int) ^ k) = (q : Int) := by rw [h.eq]; simp
  rw [e]
  unfold wrap64
  omega

theorem tround {k b q j H : Nat} {cur : Array Value} (hT : TRel k b q) (hj : j < q) (hH : H ≤ 4294967295) (hJ : cur = tarr (inner b (halve H) j (outer k).2)) :
    ∃ P X Y X' : Nat, P + b ≤ 255 ∧ wrap64 (2 * (b : Int) * (j : Int)) = (P : Int) ∧ cur[P]? = some (.int .u32 (X : Int)) ∧ cur[P + b]? = some (.int .u32 (Y : Int)) ∧ X ≤ 4294967295 ∧
      bits BinOp.xor IntKind.u32 (X : Int) ((halve H : Nat) : Int) = (X' : Int) ∧ cur.setIfInBounds (P + b) (.int .u32 (X' : Int)) = tarr (inner b (halve H) (j + 1) (outer k).2) := by
  have hroom := hT.room hj
  obtain ⟨o1, o2, o3⟩ := outer_ok k
  have hHl : halve H < 4294967296 := halve_lt (by omega)
  have hlen : (inner b (halve H) j (outer k).2).length = 256 := by rw [inner_length]; exact o2
  have hall := inner_lt b (halve H) hHl _ o3 j
  have hx := getD_lt hall (2 * b * j)
  refine ⟨2 * b * j, (inner b (halve H) j (outer k).2).getD (2 * b * j) 0, (inner b (halve H) j (outer k).2).getD (2 * b * j + b) 0, _, hroom, ?_, ?_, ?_, Nat.le_of_lt_succ hx, u32_xor_nat _ _ hx hHl, ?_⟩
  · have e : 2 * (b : Int) * (j : Int) = ((2 * b * j : Nat) : Int) := by push_cast; rfl
    rw [e]; unfold wrap64; omega
  · rw [hJ]; exact tarr_at (by rw [hlen]; omega)
  · rw [hJ]; exact tarr_at (by rw [hlen]; omega)
  · rw [hJ, tarr_set]; rfl

set_option maxRecDepth 100000 in
theorem table_any (w : World) : Calls Try.prog 12 #[] w fun e w' => e = .returned (.agg (tarr ((List.range 256).map entry))) ∧ Below w.heap.size w w' := by
  have hz := (zero_of_info info39).1
  obtain ⟨Z, hZ⟩ : ∃ Z, Z = (Array.replicate 256 (Value.int .u32 0)) := ⟨_, rfl⟩
  rw [← hZ] at hz
  have hZ0 : Z = tarr (outer 0).2 := by rw [hZ]; simp only [tarr, outer, List.map_replicate, List.toArray_replicate]; rfl
  have HZ := Lib.hid hZ0
  clear hZ hZ0
  go_enter Try.func12, Try.ntmps12
  go_wp2
  go_loopw [2, 7] (fun h i wr => ∃ (k H : Nat) (cur : Array Value), k ≤ 8 ∧ i = .int .i64 k ∧ h = .int .u32 H ∧ H ≤ 4294967295 ∧ Hid (H = (outer k).1 ∧ cur = tarr (outer k).2) ∧ wr = (w.alloc (.cells Z 39)).alloc (.cells cur 39)) (fun _ i _ => 8 - (intOf i).toNat)
  case atStart => exact ⟨0, 1, Z, by omega, rfl, rfl, by omega, ⟨rfl, HZ.out⟩, rfl⟩
  case round =>
    obtain ⟨k, H, cur, hk, rfl, rfl, hH, HC, rfl⟩ := hrel
    by_cases hlt : k < 8
    · obtain ⟨b, q, hT⟩ : ∃ b q, TRel k b q := ⟨_, _, hlt, rfl, rfl⟩
      have hbit := hT.bit
      have hm := Lib.hid hT.many
      obtain ⟨_, hb1, hb2, hq1, hq2⟩ := hT.bq
      go_wp2_with (go_at_call 35; refine (halve_any _ _ (by omega) (by omega)).mono ?_; rintro e w' ⟨rfl, rfl⟩)
      clear hbit
      rw [hm.out]
      go_loopw [16] (fun i wr => ∃ (j : Nat) (cur : Array Value), j ≤ q ∧ i = .int .i64 j ∧ Hid (cur = tarr (inner b (halve H) j (outer k).2)) ∧ wr = (w.alloc (.cells Z 39)).alloc (.cells cur 39)) (fun i _ => q - (intOf i).toNat)
      case atStart => exact ⟨0, cur, by omega, rfl, HC.out.2, rfl⟩
      case round =>
        obtain ⟨j, cur, hj, rfl, HJ, rfl⟩ := hrel
        by_cases hjq : j < q
        · have hroom := hT.room hjq
          obtain ⟨P, X, Y, X', hroom, hw1, hc1, hc2, hX, hxor, hset⟩ := tround hT hjq hH HJ.out
          have HS := Lib.hid hset
          have hHl : halve H < 4294967296 := halve_lt (by omega)
          generalize halve H = H' at *
          clear hset HJ HC
          go_wp2
          go_roundw
          case rel => exact ⟨j + 1, _, by omega, by go_num, HS.out, rfl⟩
          case measure => simp [intOf]; omega
        · obtain rfl : j = q := by omega
          go_wp2
          go_roundw
          case rel => exact ⟨k + 1, halve H, cur, by omega, by go_num, rfl, by have := halve_lt (n := H) (by omega); omega, ⟨by rw [HC.out.1]; rfl, by rw [HJ.out, hT.eb, hT.eq, HC.out.1]; rfl⟩, rfl⟩
          case measure => simp [intOf]; omega
    · obtain rfl : k = 8 := by omega
      have hcur : cur = tarr ((List.range 256).map entry) := by rw [HC.out.2, outer_eight]
      have hcs : cur.size = 256 := by rw [hcur, tarr_size]; simp
      have HCS := Lib.hid hcs
      have HCU := Lib.hid hcur
      have hZs : Z.size = 256 := by rw [HZ.out, tarr_size]; exact (outer_ok 0).2.1
      have HZS := Lib.hid hZs
      have h1 : cur.all (·.oneCell') = true := by rw [hcur]; simp [tarr]; intro x hx; rfl
      have H1 := Lib.hid h1
      clear hcs hcur hZs h1 hz HC
      go_wp2_with (first
        | (refine wpList_load_row rfl 39 _ rfl (w.heap.size + 1) rfl 39 cur (0, 0) _ (heap_alloc2_new w _ _) Try.underlying39 rfl (by rw [HCS.out]; exact size39) ?_)
        | (refine wpList_store_row rfl 39 (.tmp 0) (.tmp 34) rfl w.heap.size cur rfl rfl 39 Z (heap_alloc2_old w _ _) (by rw [HCS.out]; exact size39) (by rw [HCS.out, HZS.out]) H1.out ?_))
      have hg : (((w.alloc (Obj.cells Z 39)).alloc (Obj.cells cur 39)).setRow w.heap.size cur).heap[w.heap.size]? = some (.cells cur 39 (0, 0)) := setRow_heap _ _ _ _ _ _ (heap_alloc2_old w _ _)
      refine bodyPost_ret (v := .agg cur) (results_cell_row (by rfl) _ _ w.heap.size 39 cur (0, 0) _ rfl hg Try.underlying39 rfl (by rw [HCS.out]; exact size39)) rfl ⟨by rw [HCU.out], ?_⟩
      exact (((Below.refl w.heap.size w).alloc (Nat.le_refl _) _).alloc (by simp) _).trans ⟨rfl, rfl, rfl, by simp [World.setRow], fun k hk => setRow_other _ _ _ _ (by omega)⟩
end Go.Proofs.Ytmiapegecoaccaa
