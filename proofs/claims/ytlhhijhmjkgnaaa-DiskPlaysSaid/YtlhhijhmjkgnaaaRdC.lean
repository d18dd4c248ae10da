/- The reference's Write, Spoil, Read, Arm. -/
import Derived.Test.YtlhhijhmjkgnaaaRdB
namespace Go.Proofs.Ytlhhijhmjkgnaaa
open Go.RowKit Go.Coop
set_option maxRecDepth 100000
/-- the disk as it is, and an error -/
def RSame (A : Option Addr) (n c : Nat) (lf : Int) (dn : Bool) (r : Int) (w : World) (e : Ending) (w' : World) : Prop := e = .returned (.tuple #[.agg #[.slice A n c, .int .i64 lf, .bool dn], .int .i64 r]) ∧ Below w.heap.size w w'
/-- another disk, and an error -/
def RNew (n : Nat) (med : Nat → List UInt8) (cache : Nat → Option (List UInt8)) (lf : Int) (dn : Bool) (r : Int) (w : World) (e : Ending) (w' : World) : Prop := ∃ A c, e = .returned (.tuple #[.agg #[.slice A n c, .int .i64 lf, .bool dn], .int .i64 r]) ∧ RDk w' A n med cache ∧ Below w.heap.size w w'
/-- two boxes behind a call that makes memory alone -/
theorem boxes {w w1 : World} {X Y : Array Value} {T U : TypeId} (hB : Below ((w.alloc (.cells X T)).alloc (.cells Y U)).heap.size ((w.alloc (.cells X T)).alloc (.cells Y U)) w1) : w1.heap[w.heap.size]? = some (.cells X T (0, 0)) ∧ w1.heap[w.heap.size + 1]? = some (.cells Y U (0, 0)) ∧ Below w.heap.size w w1 :=
  ⟨(hB.block _ (by simp; omega)).trans ((Below.heap_alloc _ _ _ (by simp)).trans (heap_alloc_new w _)), (hB.block _ (by simp)).trans (heap_second w _ _), (below_two w _ _).trans (hB.mono (by simp; omega))⟩
section
variable {A : Option Addr} {n c : Nat} {lf : Int} {dn : Bool} (w : World)
theorem rwrite_down (i : Int) (v : Value) : Calls Try.prog 23 #[.agg #[.slice A n c, .int .i64 lf, .bool true], .int .i64 i, v] w (RSame A n c lf true 15 w) := by
  go_enter Try.func23, Try.ntmps23
  go_wp2
  refine bodyPost_ret (v := .tuple #[.agg #[.slice A n c, .int .i64 lf, .bool true], .int .i64 15]) ?_ rfl ⟨rfl, below_two _ _ _⟩
  rw [results_cell_tmp rfl]
  simp [asAddr, Result.andThen, load42 (heap_second w (.cells #[.slice A n c, .int .i64 lf, .bool true] 42) (.cells #[.slice A n c, .int .i64 lf, .bool true] 42)) rfl]
theorem rwrite_sector {i : Int} (hi : i < 0 ∨ (n : Int) ≤ i) (v : Value) : Calls Try.prog 23 #[.agg #[.slice A n c, .int .i64 lf, .bool false], .int .i64 i, v] w (RSame A n c lf false 50 w) := by
  by_cases h0 : i < 0
  · go_enter Try.func23, Try.ntmps23
    go_wp2
    refine bodyPost_ret (v := .tuple #[.agg #[.slice A n c, .int .i64 lf, .bool false], .int .i64 50]) ?_ rfl ⟨rfl, below_two _ _ _⟩
    rw [results_cell_tmp rfl]
    simp [asAddr, Result.andThen, load42 (heap_second w (.cells #[.slice A n c, .int .i64 lf, .bool false] 42) (.cells #[.slice A n c, .int .i64 lf, .bool false] 42)) rfl]
  · have h1 : (n : Int) ≤ i := by omega
    go_enter Try.func23, Try.ntmps23
    go_wp2
    refine bodyPost_ret (v := .tuple #[.agg #[.slice A n c, .int .i64 lf, .bool false], .int .i64 50]) ?_ rfl ⟨rfl, below_two _ _ _⟩
    rw [results_cell_tmp rfl]
    simp [asAddr, Result.andThen, load42 (heap_second w (.cells #[.slice A n c, .int .i64 lf, .bool false] 42) (.cells #[.slice A n c, .int .i64 lf, .bool false] 42)) rfl]
theorem rwrite_arg {i : Nat} (hi : i < n) (B : Option Addr) (m d : Nat) (hm : m ≠ 64) : Calls Try.prog 23 #[.agg #[.slice A n c, .int .i64 lf, .bool false], .int .i64 (i : Int), .slice B m d] w (RSame A n c lf false 2 w) := by
  go_enter Try.func23, Try.ntmps23
  go_wp2
  refine bodyPost_ret (v := .tuple #[.agg #[.slice A n c, .int .i64 lf, .bool false], .int .i64 2]) ?_ rfl ⟨rfl, below_two _ _ _⟩
  rw [results_cell_tmp rfl]
  simp [asAddr, Result.andThen, load42 (heap_second w (.cells #[.slice A n c, .int .i64 lf, .bool false] 42) (.cells #[.slice A n c, .int .i64 lf, .bool false] 42)) rfl]
end
theorem addr_off (a : Addr) (n : Nat) : (a.add n).off = a.off + n := by
  unfold Addr.add
  split
  · rename_i h
    rw [h]
    rfl
  · rfl
/-- a box of a disk -/
def Box (w : World) (b : Nat) : Prop := ∃ X p q z t, w.heap[b]? = some (.cells #[.slice X p q, .int .i64 z, .bool t] 42 (0, 0))
theorem box_slice {w : World} {b : Nat} (h : Box w b) {p : Addr} {A : Option Addr} {n c : Nat} (hb : p.block = b) (hc : w.cell? p = some (.slice A n c)) : p.off = 0 := by
  obtain ⟨X, x, y, z, t, hh⟩ := h
  subst hb
  simp only [World.cell?, hh] at hc
  split at hc
  · cases hc
  · simp only [List.getElem?_toArray] at hc
    match hk : p.off, hc with
    | 0, _ => rfl
    | 1, hc => simp at hc
    | 2, hc => simp at hc
    | _ + 3, hc => simp at hc
/-- bytes lie elsewhere -/
theorem box_rd {w : World} {b : Nat} (h : Box w b) {ad : Addr} {n : Nat} {l : List UInt8} (hr : Rd w (some ad) n l) (hn : 0 < n) : ad.block ≠ b := by
  rintro rfl
  obtain ⟨X, x, y, z, t, hb⟩ := h
  obtain ⟨ad', b, e, _, _, hc⟩ := hr.at_ hn
  injection e with e
  subst e
  have e0 : ad.add 0 = ad := by simp [Addr.add]
  rw [e0] at hc
  simp only [World.cell?, hb] at hc
  split at hc
  · cases hc
  · simp only [List.getElem?_toArray] at hc
    match hk : ad.off, hc with
    | 0, hc => simp [BV] at hc
    | 1, hc => simp [BV] at hc
    | 2, hc => simp [BV] at hc
    | _ + 3, hc => simp at hc
theorem rd_box {w w' : World} {b : Nat} (h : Box w b) (hb : But [b] w w') {A : Option Addr} {n : Nat} {l : List UInt8} (hr : Rd w A n l) : Rd w' A n l := by
  rcases Nat.eq_zero_or_pos n with h0 | h0
  · subst h0
    have := List.eq_nil_of_length_eq_zero hr.len
    subst this
    exact Rd.nil _ _
  · obtain ⟨ad, rfl, _⟩ := hr.cells h0
    exact rd_but hr hb (by simpa using box_rd h hr h0)
theorem RDk.box {w w' : World} {b : Nat} (h : Box w b) (hb : But [b] w w') {A : Option Addr} {n : Nat} {med : Nat → List UInt8} {cache : Nat → Option (List UInt8)} (hd : RDk w A n med cache) (_ : 0 < n) : RDk w' A n med cache := by
  refine hd.but hb fun k hk cur => ?_
  obtain ⟨X, p, q, z, t, hh⟩ := h
  simp at hk
  subst hk
  rw [hh]
  constructor
  · intro e
    injection e with e
    injection e with _ e _
    cases e
  · intro e
    injection e with e
    injection e with _ e _
    cases e
theorem RDk.addr {w : World} {A : Option Addr} {n : Nat} {med : Nat → List UInt8} {cache : Nat → Option (List UInt8)} (hd : RDk w A n med cache) (hn : 0 < n) : ∃ ad, A = some ad ∧ ad.block < w.heap.size := by
  obtain ⟨ad, k, h, hlt, _⟩ := hd.get hn
  exact ⟨ad, h, hlt⟩
theorem upd_id {α : Type} (f : Nat → α) (i : Nat) : upd f i (f i) = f := by
  funext j
  unfold upd
  split
  · rename_i e; rw [e]
  · rfl
theorem but_cell {w w' : World} {gs : List Nat} (hb : But gs w w') {p : Addr} (hn : p.block ∉ gs) (hlt : p.block < w.heap.size) : w'.cell? p = w.cell? p := World.cell?_of_block (w := w) (hb.block _ hlt hn)
theorem rwrite_fails (w : World) {A : Option Addr} {n c i : Nat} (hi : i < n) (B : Option Addr) (d : Nat) : Calls Try.prog 23 #[.agg #[.slice A n c, .int .i64 0, .bool false], .int .i64 (i : Int), .slice B 64 d] w (RSame A n c (-1) true 15 w) := by
  go_enter Try.func23, Try.ntmps23
  go_wp2_with fail
  refine (rop_fails _ _ _ _ _).mono ?_
  rintro e w1 ⟨rfl, hB⟩
  obtain ⟨h3, h6, hw⟩ := boxes hB
  have c30 := cell_of_row w1 w.heap.size 0 _ 42 (0, 0) h3
  have c31 := cell_of_row w1 w.heap.size 1 _ 42 (0, 0) h3
  have c32 := cell_of_row w1 w.heap.size 2 _ 42 (0, 0) h3
  have c60 := cell_of_row w1 (w.heap.size + 1) 0 _ 42 (0, 0) h6
  have c61 := cell_of_row w1 (w.heap.size + 1) 1 _ 42 (0, 0) h6
  have c62 := cell_of_row w1 (w.heap.size + 1) 2 _ 42 (0, 0) h6
  have r30 := frozen_of_row w1 w.heap.size 0 _ 42 h3
  have r31 := frozen_of_row w1 w.heap.size 1 _ 42 h3
  have r32 := frozen_of_row w1 w.heap.size 2 _ 42 h3
  have r60 := frozen_of_row w1 (w.heap.size + 1) 0 _ 42 h6
  have r61 := frozen_of_row w1 (w.heap.size + 1) 1 _ 42 h6
  have r62 := frozen_of_row w1 (w.heap.size + 1) 2 _ 42 h6
  simp at c30 c31 c32 c60 c61 c62
  have HH := Lib.hid (And.intro h3 (And.intro h6 hw))
  clear h3 h6 hw hB
  go_wp2
  obtain ⟨w3, hw3⟩ : ∃ w3, (((w1.setCell ⟨w.heap.size, 0, none⟩ (.slice A n c)).setCell ⟨w.heap.size, 1, none⟩ (.int .i64 (-1))).setCell ⟨w.heap.size, 2, none⟩ (.bool true)) = w3 := ⟨_, rfl⟩
  have hb3 : But [w.heap.size] w1 w3 := hw3 ▸ (((But.refl [w.heap.size] w1).setCell (by simp) _).setCell (by simp) _).setCell (by simp) _
  have h6 := hb3.cells HH.out.2.1 (by simp)
  have hw := HH.out.2.2.trans (hb3.below HH.out.2.2.size (by simp))
  rw [hw3]
  have hE6 := row3 (v0 := .slice A n c) (v1 := .int .i64 (-1)) (v2 := .bool true) h6
  have hE := (hw).trans (((((But.refl [w.heap.size + 1] w3).setCell (p := ⟨w.heap.size + 1, 0, none⟩) (by simp) (.slice A n c)).setCell (p := ⟨w.heap.size + 1, 1, none⟩) (by simp) (.int .i64 (-1))).setCell (p := ⟨w.heap.size + 1, 2, none⟩) (by simp) (.bool true)).below (hw).size (by simp))
  refine bodyPost_ret (v := .tuple #[.agg #[.slice A n c, .int .i64 (-1), .bool true], .int .i64 15]) ?_ rfl ?_
  · rw [results_cell_tmp rfl]
    simp [asAddr, Result.andThen, load42 hE6 rfl]
  · exact ⟨rfl, hE⟩
theorem rwrite_goes (w : World) {A : Option Addr} {n c i : Nat} {med : Nat → List UInt8} {cache : Nat → Option (List UInt8)} {l : List UInt8} {lf lf' : Int} (h : RDk w A n med cache) (hn : n ≤ 1000000) (hi : i < n) {B : Option Addr} (d : Nat) (hr : Rd w B 64 l) (h0 : lf ≠ 0) (hb : -9223372036854775808 ≤ lf ∧ lf ≤ 9223372036854775807) (he : lf' = if 0 < lf then lf - 1 else lf) :
    Calls Try.prog 23 #[.agg #[.slice A n c, .int .i64 lf, .bool false], .int .i64 (i : Int), .slice B 64 d] w (RNew n med (upd cache i (some l)) lf' false 0 w) := by
  have HX := Lib.hid (And.intro h hr)
  have HO := Lib.hid (rop_goes A n c lf false ((w.alloc (.cells #[.slice A n c, .int .i64 lf, .bool false] 42)).alloc (.cells #[.slice none 0 0, .int .i64 0, .bool false] 42)) h0 hb he)
  clear h hr h0 hb he
  go_enter Try.func23, Try.ntmps23
  go_wp2_with fail
  refine HO.out.mono ?_
  rintro e w1 ⟨rfl, hB⟩
  obtain ⟨h3, h6, hw⟩ := boxes hB
  have c30 := cell_of_row w1 w.heap.size 0 _ 42 (0, 0) h3
  have c31 := cell_of_row w1 w.heap.size 1 _ 42 (0, 0) h3
  have c32 := cell_of_row w1 w.heap.size 2 _ 42 (0, 0) h3
  have c60 := cell_of_row w1 (w.heap.size + 1) 0 _ 42 (0, 0) h6
  have c61 := cell_of_row w1 (w.heap.size + 1) 1 _ 42 (0, 0) h6
  have c62 := cell_of_row w1 (w.heap.size + 1) 2 _ 42 (0, 0) h6
  have r30 := frozen_of_row w1 w.heap.size 0 _ 42 h3
  have r31 := frozen_of_row w1 w.heap.size 1 _ 42 h3
  have r32 := frozen_of_row w1 w.heap.size 2 _ 42 h3
  have r60 := frozen_of_row w1 (w.heap.size + 1) 0 _ 42 h6
  have r61 := frozen_of_row w1 (w.heap.size + 1) 1 _ 42 h6
  have r62 := frozen_of_row w1 (w.heap.size + 1) 2 _ 42 h6
  simp at c30 c31 c32 c60 c61 c62
  have HH := Lib.hid (And.intro h3 (And.intro h6 hw))
  clear h3 h6 hw hB HO
  go_upto_region 10 with (fail)
  clear c30 c31 c32 c60 c61 c62 r30 r31 r32 r60 r61 r62
  obtain ⟨w3, hw3⟩ : ∃ w3, (((w1.setCell ⟨w.heap.size, 0, none⟩ (.slice A n c)).setCell ⟨w.heap.size, 1, none⟩ (.int .i64 lf')).setCell ⟨w.heap.size, 2, none⟩ (.bool false)) = w3 := ⟨_, rfl⟩
  have hb3 : But [w.heap.size] w1 w3 := hw3 ▸ (((But.refl [w.heap.size] w1).setCell (by simp) _).setCell (by simp) _).setCell (by simp) _
  have h3 : w3.heap[w.heap.size]? = some (.cells #[.slice A n c, .int .i64 lf', .bool false] 42 (0, 0)) := hw3 ▸ row3 HH.out.1
  have h6 := hb3.cells HH.out.2.1 (by simp)
  have hw := HH.out.2.2.trans (hb3.below HH.out.2.2.size (by simp))
  rw [hw3]
  obtain ⟨b3, hb3'⟩ : ∃ b3, w.heap.size = b3 := ⟨_, rfl⟩
  obtain ⟨b6, hb6'⟩ : ∃ b6, b3 + 1 = b6 := ⟨_, rfl⟩
  have HD : Hid (RDk w3 A n med cache) := HX.out.1.below hw
  have HR : Hid (Rd w3 B 64 l) := HX.out.2.below hw (Nat.le_refl _)
  have HW := Lib.hid hw
  rw [hb3'] at h3 h6 ⊢
  rw [hb6'] at h6 ⊢
  obtain ⟨ad0, e0, hlt0⟩ := HX.out.1.addr (by omega)
  obtain ⟨ad, k, rfl, hlt, hk1, hk2, hk3, hk4⟩ := HD.out.get hi
  injection e0 with e0
  subst e0
  have hadn : ad.block ≠ b6 := by omega
  have h36 : b3 ≠ b6 := by omega
  have HN := Lib.hid (And.intro hadn h36)
  clear hadn h36 hlt0
  have HK := Lib.hid (And.intro hk3 hk4)
  have hlt3 : b3 < w3.heap.size := (Array.getElem?_eq_some_iff.1 h3).1
  have hlt6 : b6 < w3.heap.size := (Array.getElem?_eq_some_iff.1 h6).1
  have HL := Lib.hid (And.intro hlt3 (And.intro hlt (And.intro hk1 hk2)))
  have HL6 := Lib.hid (And.intro hlt6 h6)
  have HE := Lib.hid (And.intro hb3' hb6')
  have c30 := cell_of_row w3 b3 0 _ 42 (0, 0) h3
  have c31 := cell_of_row w3 b3 1 _ 42 (0, 0) h3
  have c32 := cell_of_row w3 b3 2 _ 42 (0, 0) h3
  simp at c30 c31 c32
  clear hw3 hb3 h3 h6 hw hb3' hb6' hk3 hk4 hlt3 hlt6 HX HH
  refine wp_region_held_drew (S := fun v => v.cell? ⟨b3, 0, none⟩ = some (.slice (some ad) n c) ∧ v.cell? ⟨b3, 1, none⟩ = some (.int .i64 lf') ∧ v.cell? ⟨b3, 2, none⟩ = some (.bool false) ∧ v.cell? (ad.add (i * 2)) = some (.slice k.am 64 k.cm) ∧ v.cell? (ad.add (i * 2 + 1)) = some (.slice k.ac k.lc k.cc)) (by kernel_rfl) (⟨c30, c31, c32, hk1, hk2⟩) (fun hHeld => ?_)
  refine wpAnyH_take (i := 0) (oi := ⟨some 34, _, _, _, _, _⟩) (v := ?_) rfl (by kernel_rfl) (by kernel_rfl) (by kernel_rfl) (fun _ _ _ h => h) (Or.inl ⟨by rfl, ?_⟩) (by assumption) ?_
  rotate_left
  · intro w hSw
    (try dsimp only at hSw)
    go_simp
    all_goals (with_reducible rfl)
  try simp only [Act.put, List.setIfInBounds_toArray, List.set_cons_zero, List.set_cons_succ]
  refine wpAnyH_take (i := 1) (oi := ⟨some 35, _, _, _, _, _⟩) (v := ?_) rfl (by kernel_rfl) (by kernel_rfl) (by kernel_rfl) (fun _ _ _ h => h) (Or.inl ⟨by rfl, ?_⟩) (by assumption) ?_
  rotate_left
  · intro w hSw
    (try dsimp only at hSw)
    go_simp
    all_goals (with_reducible rfl)
  try simp only [Act.put, List.setIfInBounds_toArray, List.set_cons_zero, List.set_cons_succ]
  refine wpAnyH_take (i := 2) (oi := ⟨some 36, _, _, _, _, _⟩) (v := ?_) rfl (by kernel_rfl) (by kernel_rfl) (by kernel_rfl) (fun _ _ _ h => h) (Or.inl ⟨by rfl, ?_⟩) (by assumption) ?_
  rotate_left
  · intro w hSw
    (try dsimp only at hSw)
    go_simp
    all_goals (with_reducible rfl)
  try simp only [Act.put, List.setIfInBounds_toArray, List.set_cons_zero, List.set_cons_succ]
  refine wpAnyH_take (i := 3) (oi := ⟨some 37, _, _, _, _, _⟩) (v := ?_) rfl (by kernel_rfl) (by kernel_rfl) (by kernel_rfl) (fun _ _ _ h => h) (Or.inl ⟨by rfl, ?_⟩) (by assumption) ?_
  rotate_left
  · intro w hSw
    (try dsimp only at hSw)
    go_simp
    all_goals (with_reducible rfl)
  try simp only [Act.put, List.setIfInBounds_toArray, List.set_cons_zero, List.set_cons_succ]
  refine wpAnyH_take (i := 4) (oi := ⟨some 38, _, _, _, _, _⟩) (v := ?_) rfl (by kernel_rfl) (by kernel_rfl) (by kernel_rfl) (fun _ _ _ h => h) (Or.inl ⟨by rfl, ?_⟩) (by assumption) ?_
  rotate_left
  · intro w hSw
    (try dsimp only at hSw)
    go_simp
    all_goals (with_reducible rfl)
  try simp only [Act.put, List.setIfInBounds_toArray, List.set_cons_zero, List.set_cons_succ]
  refine wpAnyH_take (i := 5) (oi := ⟨some 39, _, _, _, _, _⟩) (v := ?_) rfl (by kernel_rfl) (by kernel_rfl) (by kernel_rfl) (fun _ _ _ h => h) (Or.inl ⟨by rfl, ?_⟩) (by assumption) ?_
  rotate_left
  · intro w hSw
    (try dsimp only at hSw)
    go_simp
    all_goals (with_reducible rfl)
  try simp only [Act.put, List.setIfInBounds_toArray, List.set_cons_zero, List.set_cons_succ]
  refine wpAnyH_take (i := 6) (oi := ⟨some 40, _, _, _, _, _⟩) (v := ?_) rfl (by kernel_rfl) (by kernel_rfl) (by kernel_rfl) (fun _ _ _ h => h) (Or.inl ⟨by rfl, ?_⟩) (by assumption) ?_
  rotate_left
  · intro w hSw
    (try dsimp only at hSw)
    go_simp
    all_goals (with_reducible rfl)
  try simp only [Act.put, List.setIfInBounds_toArray, List.set_cons_zero, List.set_cons_succ]
  refine wpAnyH_take (i := 7) (oi := ⟨some 41, _, _, _, _, _⟩) (v := ?_) rfl (by kernel_rfl) (by kernel_rfl) (by kernel_rfl) (fun _ _ _ h => h) (Or.inl ⟨by rfl, ?_⟩) (by assumption) ?_
  rotate_left
  · intro w hSw
    (try dsimp only at hSw)
    go_simp
    all_goals (with_reducible rfl)
  try simp only [Act.put, List.setIfInBounds_toArray, List.set_cons_zero, List.set_cons_succ]
  refine wpAnyH_take (i := 8) (oi := ⟨some 42, _, _, _, _, _⟩) (v := ?_) rfl (by kernel_rfl) (by kernel_rfl) (by kernel_rfl) (fun _ _ _ h => h) (Or.inl ⟨by rfl, ?_⟩) (by assumption) ?_
  rotate_left
  · intro w hSw
    (try dsimp only at hSw)
    go_simp
    all_goals (with_reducible rfl)
  try simp only [Act.put, List.setIfInBounds_toArray, List.set_cons_zero, List.set_cons_succ]
  refine wpAnyH_ready (rs := [9]) (by kernel_rfl) (by simp) (AllReadyH.cons (o := ⟨some 43, _, _, _, _, _⟩) rfl (fun K hK => ?_) AllReadyH.nil)
  go_simp
  refine (rown_any B 64 d l _ (HR.out.drew) (by omega)).mono ?_
  rintro e w4 ⟨Y, yc, rfl, hY, hB4⟩
  have HB4 : Hid (Below w3.heap.size w3 w4) := (Below.refl _ _).drew.trans hB4
  have HY := Lib.hid hY
  clear hY hB4
  refine hK.out _ _ (⟨(HB4.out.cell (p := ⟨b3, 0, none⟩) HL.out.1).trans c30, (HB4.out.cell (p := ⟨b3, 1, none⟩) HL.out.1).trans c31, (HB4.out.cell (p := ⟨b3, 2, none⟩) HL.out.1).trans c32, (HB4.out.cell (by rw [addr_add_block]; exact HL.out.2.1)).trans HL.out.2.2.1, (HB4.out.cell (by rw [addr_add_block]; exact HL.out.2.1)).trans HL.out.2.2.2⟩) (fun hHeld => ?_)
  clear hK K
  try simp only [Act.put, List.setIfInBounds_toArray, List.set_cons_zero, List.set_cons_succ]
  refine wpAnyH_take (i := 10) (oi := ⟨some 44, _, _, _, _, _⟩) (v := ?_) rfl (by kernel_rfl) (by kernel_rfl) (by kernel_rfl) (fun _ _ _ h => h) (Or.inl ⟨by rfl, ?_⟩) (by assumption) ?_
  rotate_left
  · intro w hSw
    (try dsimp only at hSw)
    go_simp
    all_goals (with_reducible rfl)
  try simp only [Act.put, List.setIfInBounds_toArray, List.set_cons_zero, List.set_cons_succ]
  refine wpAnyH_ready (rs := [11]) (by kernel_rfl) (by simp) (AllReadyH.cons (o := ⟨some 45, _, _, _, _, _⟩) rfl (fun K hK => ?_) AllReadyH.nil)
  go_simp
  refine (with_any _ (HD.out.below HB4.out) hn hi ⟨k.am, k.cm, Y, 64, yc⟩ (HK.out.1.below HB4.out (Nat.le_refl _)) (oc := some l) ⟨rfl, rd5_own HY.out⟩ lf' false).mono ?_
  rintro e w5 ⟨A', c', rfl, hD5, hB5⟩
  have HB5 : Hid (Below w3.heap.size w3 w5) := HB4.out.trans (hB5.mono HB4.out.size)
  rw [upd_id] at hD5
  have HD5 := Lib.hid hD5
  have H6 := Lib.hid ((HB5.out.block _ HL6.out.1).trans HL6.out.2)
  have c60 := cell_of_row w5 b6 0 _ 42 (0, 0) H6.out
  have c61 := cell_of_row w5 b6 1 _ 42 (0, 0) H6.out
  have c62 := cell_of_row w5 b6 2 _ 42 (0, 0) H6.out
  have r60 := frozen_of_row w5 b6 0 _ 42 H6.out
  have r61 := frozen_of_row w5 b6 1 _ 42 H6.out
  have r62 := frozen_of_row w5 b6 2 _ 42 H6.out
  simp at c60 c61 c62
  have HZ : Hid (But [b6] w5 (((w5.setCell ⟨b6, 0, none⟩ (.slice A' n c')).setCell ⟨b6, 1, none⟩ (.int .i64 lf')).setCell ⟨b6, 2, none⟩ (.bool false))) := (((But.refl [b6] w5).setCell (by simp) _).setCell (by simp) _).setCell (by simp) _
  clear hD5 hB5
  refine hK.out _ _ (⟨(HB5.out.cell (p := ⟨b3, 0, none⟩) HL.out.1).trans c30, (HB5.out.cell (p := ⟨b3, 1, none⟩) HL.out.1).trans c31, (HB5.out.cell (p := ⟨b3, 2, none⟩) HL.out.1).trans c32, (HB5.out.cell (by rw [addr_add_block]; exact HL.out.2.1)).trans HL.out.2.2.1, (HB5.out.cell (by rw [addr_add_block]; exact HL.out.2.1)).trans HL.out.2.2.2⟩) (fun hHeld => ?_)
  clear hK K
  try simp only [Act.put, List.setIfInBounds_toArray, List.set_cons_zero, List.set_cons_succ]
  refine wpAnyH_ready (rs := [12]) (by kernel_rfl) (by simp) (AllReadyH.cons (o := ⟨none, _, _, _, _, _⟩) rfl (fun K hK => ?_) AllReadyH.nil)
  go_simp
  refine hK.out _ _ (by have hb := HZ.out; have h1 := HL.out.1; have h2 := HB5.out.size; have h3 := HL.out.2.1; exact ⟨(but_cell hb (p := ⟨b3, 0, none⟩) (by simpa using HN.out.2) (by show b3 < _; omega)).trans ((HB5.out.cell (p := ⟨b3, 0, none⟩) HL.out.1).trans c30), (but_cell hb (p := ⟨b3, 1, none⟩) (by simpa using HN.out.2) (by show b3 < _; omega)).trans ((HB5.out.cell (p := ⟨b3, 1, none⟩) HL.out.1).trans c31), (but_cell hb (p := ⟨b3, 2, none⟩) (by simpa using HN.out.2) (by show b3 < _; omega)).trans ((HB5.out.cell (p := ⟨b3, 2, none⟩) HL.out.1).trans c32), (but_cell hb (by rw [addr_add_block]; simpa using HN.out.1) (by rw [addr_add_block]; omega)).trans ((HB5.out.cell (by rw [addr_add_block]; exact HL.out.2.1)).trans HL.out.2.2.1), (but_cell hb (by rw [addr_add_block]; simpa using HN.out.1) (by rw [addr_add_block]; omega)).trans ((HB5.out.cell (by rw [addr_add_block]; exact HL.out.2.1)).trans HL.out.2.2.2)⟩) (fun hHeld => ?_)
  clear hK K
  try simp only [Act.put, List.setIfInBounds_toArray, List.set_cons_zero, List.set_cons_succ]
  refine wpAnyH_take (i := 13) (oi := ⟨some 7, _, _, _, _, _⟩) (v := ?_) rfl (by kernel_rfl) (by kernel_rfl) (by kernel_rfl) (fun _ _ _ h => h) (Or.inl ⟨by rfl, ?_⟩) (by assumption) ?_
  rotate_left
  · intro w hSw
    (try dsimp only at hSw)
    go_simp
    all_goals (with_reducible rfl)
  try simp only [Act.put, List.setIfInBounds_toArray, List.set_cons_zero, List.set_cons_succ]
  refine wpAnyH_done (by kernel_rfl) ?_ _
  go_wp2
  have hBw : Below w.heap.size w w5 := HW.out.trans (HB5.out.mono HW.out.size)
  have hE6 := row3 (v0 := .slice A' n c') (v1 := .int .i64 lf') (v2 := .bool false) H6.out
  have hE := (hBw).trans (((((But.refl [b6] w5).setCell (p := ⟨b6, 0, none⟩) (by simp) (.slice A' n c')).setCell (p := ⟨b6, 1, none⟩) (by simp) (.int .i64 lf')).setCell (p := ⟨b6, 2, none⟩) (by simp) (.bool false)).below (hBw).size (by have := HE.out; simp; omega))
  refine bodyPost_ret (v := .tuple #[.agg #[.slice A' n c', .int .i64 lf', .bool false], .int .i64 0]) ?_ rfl ?_
  · rw [results_cell_tmp rfl]
    simp [asAddr, Result.andThen, load42 hE6 rfl]
  · exact ⟨A', c', rfl, RDk.box ⟨_, _, _, _, _, H6.out⟩ HZ.out HD5.out (by omega), hE⟩
end Go.Proofs.Ytlhhijhmjkgnaaa
