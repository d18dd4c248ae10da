/- Pieces of a slice, one by one: the library's Chunk. -/
import Derived.Test.YtobbjeephmfdeaaRnd
namespace Go.Proofs.Ytobbjeephmfdeaa
open Go.RowKit Go.Coop Go.Shelf
set_option maxRecDepth 100000

attribute [local go_sem] Oper.semAt_some

theorem chunk_any (X : Option Addr) (n c : Nat) (k : Nat) (w : World) (hk : 1 ≤ k) : Calls Try.prog 51 #[.slice X n c, .int .i64 (k : Int)] w fun e w' => e = .returned (.func (.func 78) #[] #[.pointer (some ⟨w.heap.size, 0, none⟩), .pointer (some ⟨w.heap.size + 1, 0, none⟩)]) ∧ w' = (w.alloc (.cells #[.slice X n c] 31)).alloc (.cells #[.int .i64 (k : Int)] 3) := by
  go_enter Try.func51, Try.ntmps51
  go_wp2
  go_ret
  exact ⟨rfl, rfl⟩

/-- the slice that is piece number x -/
def chunkV (X : Option Addr) (len K x : Nat) : Value := .slice (cutA X (min (x * K + K) len) (x * K)) (min (x * K + K) len - x * K) (min (x * K + K) len - x * K)
theorem slice_lhm (A : Option Addr) (n c x y : Nat) (hxy : x ≤ y) (hyc : y ≤ c) (w : World) :
    (Instr.slice 31 (.slice A n c) (some (.int .i64 (x : Int))) (some (.int .i64 (y : Int))) (some (.int .i64 (y : Int)))).run Try.prog w = .ok (.slice (cutA A y x) (y - x) (y - x)) w := by
  obtain ⟨i, hi, hz, h1, h2⟩ := info5b
  have he : Try.prog.elem 31 = 5 := by simp [Program.elem, Try.underlying31]
  have hb : (Instr.sliceBounds true n c (some (.int .i64 (x : Int))) (some (.int .i64 (y : Int))) (some (.int .i64 (y : Int)))).run Try.prog w = .ok (x, y, y) w := by
    simp [Instr.sliceBounds, run_sliceBound, *]
  rw [run_slice_any w 31 A n c (by rw [he]; exact Try.underlying31), hb, he]
  simp [sizeOf, typeInfo, hi, h1, sliced, cutA, Result.andThen]

/-- what a round leaves -/
def KpC (b : Nat) (sv nv : Value) (A B : World) : Prop := (Boxed A b 31 sv ∧ Boxed A (b + 1) 3 nv) → (Boxed B b 31 sv ∧ Boxed B (b + 1) 3 nv)

set_option maxHeartbeats 2000000 in
theorem chunk1_in (n l b : Nat) (X : Option Addr) (len cap K : Nat) (hK : 1 ≤ K) (hK2 : K ≤ 1099511627776) (hlen : len ≤ 140737488355328) (hcap : len ≤ cap) (J Jx : List Nat → World → Prop) (N : Nat) (hN : ∀ x, x * K < len → x < N)
    (hY : ∀ pre x W, J pre W → pre.length < N → YieldAt (openF none) (n - 1) Try.prog l #[chunkV X len K x] W fun e W' =>
      (e = .returned (.bool true) ∧ J (pre ++ [x]) W' ∧ KpC b (.slice X len cap) (.int .i64 (K : Int)) W W') ∨ (e = .returned (.bool false) ∧ Jx (pre ++ [x]) W'))
    (hJd : ∀ pre W, J pre W → J pre W.drew)
    (W : World) (h1 : Boxed W b 31 (.slice X len cap)) (h2 : Boxed W (b + 1) 3 (.int .i64 (K : Int))) (h0 : J [] W) :
    CallsIn (openF none) n Try.prog 78 #[.func (.yield l) #[] #[], .pointer (some ⟨b, 0, none⟩), .pointer (some ⟨b + 1, 0, none⟩)] W fun e W' => (∃ v, e = .returned v) ∧
      ((∃ ys, (∃ c, ys = List.range c ∧ len ≤ c * K ∧ ∀ x, x < c → x * K < len) ∧ J ys W') ∨ (∃ pre, True ∧ Jx pre W')) := by
  have hro : (openF none).round = none := rfl
  have hfn : ∀ f, (openF none).fn f := fun _ => trivial
  refine callsIn_of_wp Try.func78 rfl trivial ?_ rfl
  simp only [Try.ntmps78, List.size_toArray, List.length_cons, List.length_nil, Nat.reduceAdd, Nat.reduceSub, Array.replicate_succ, Array.replicate_zero, List.push_toArray, List.append_toArray, List.nil_append, List.cons_append]
  gi_wp2
  gi_loopw [4] (fun i wr => ∃ k : Nat, i = .int .i64 ((k * K : Nat) : Int) ∧ k * K < len + K ∧ (∀ x, x < k → x * K < len) ∧ Hid (J (List.range k) wr) ∧ Hid (Boxed wr b 31 (.slice X len cap) ∧ Boxed wr (b + 1) 3 (.int .i64 (K : Int))))
    (fun i _ => len + K - (intOf i).toNat)
  case atStart => exact ⟨0, by simp, by omega, fun x hx => by omega, h0, ⟨h1, h2⟩⟩
  case round =>
    obtain ⟨k, rfl, hkl, hks, HJ, HB⟩ := hrel
    obtain ⟨at0, hat⟩ : ∃ at0, k * K = at0 := ⟨_, rfl⟩
    have hat2 : (k + 1) * K = at0 + K := by rw [Nat.succ_mul, hat]
    have HAT := Lib.hid (And.intro hat hat2)
    rw [hat] at hkl ⊢
    have hc1 := HB.out.1.cell
    by_cases hlt : at0 < len
    · have hkN := hN k (by omega)
      have hsl := slice_l (P := Try.prog) 31 Try.underlying31 info5 X len cap at0 (by omega)
      obtain ⟨e, he, he1, he2⟩ : ∃ e : Nat, min (K : Int) ((len - at0 : Nat) : Int) = (e : Int) ∧ at0 + e = min (at0 + K) len ∧ e ≤ len - at0 := ⟨min K (len - at0), by omega, by omega, by omega⟩
      have hsl2 := slice_lhm X len cap at0 (at0 + e) (by omega) (by omega)
      obtain ⟨hi, hhi⟩ : ∃ hi, at0 + e = hi := ⟨_, rfl⟩
      obtain ⟨rem, hrem⟩ : ∃ rem, len - at0 = rem := ⟨_, rfl⟩
      rw [hhi] at hsl2
      rw [hrem] at hsl he he2
      have hw1 : IntKind.i64.wrap ((at0 : Int) + (e : Int)) = (hi : Int) := by rw [IntWalk.i64_in _ (by omega)]; omega
      have hw2 : IntKind.i64.wrap ((at0 : Int) + (K : Int)) = ((at0 + K : Nat) : Int) := by rw [IntWalk.i64_in _ (by omega)]; omega
      have hatl : (at0 : Int) < len := by omega
      have HE := Lib.hid (And.intro he1 (And.intro hhi hrem))
      clear he1 hhi hrem
      gi_wp2
      refine heldOpen (S := fun u : World => u.cell? ⟨b, 0, none⟩ = some (.slice X len cap) ∧ u.cell? ⟨b + 1, 0, none⟩ = some (.int .i64 (K : Int))) (by kernel_rfl) (by exact ⟨HB.out.1.cell, HB.out.2.cell⟩) (fun hHeld => ?_)
      refine wpAnyH_take (i := 0) (oi := ⟨some 13, _, _, _, _, _⟩) (v := ?_) rfl (by kernel_rfl) (by kernel_rfl) (by kernel_rfl) (fun _ _ _ h => h) (Or.inl ⟨by rfl, ?_⟩) (by assumption) ?_
      rotate_left
      · intro w hSw
        (try dsimp only at hSw)
        have hcc := hSw.2
        go_simp
        all_goals (with_reducible rfl)
      try simp only [Act.put, List.setIfInBounds_toArray, List.set_cons_zero, List.set_cons_succ]
      refine wpAnyH_take (i := 1) (oi := ⟨some 14, _, _, _, _, _⟩) (v := ?_) rfl (by kernel_rfl) (by kernel_rfl) (by kernel_rfl) (fun _ _ _ h => h) (Or.inl ⟨by rfl, ?_⟩) (by assumption) ?_
      rotate_left
      · intro w hSw
        (try dsimp only at hSw)
        have hcc := hSw.1
        go_simp
        all_goals (with_reducible rfl)
      try simp only [Act.put, List.setIfInBounds_toArray, List.set_cons_zero, List.set_cons_succ]
      refine wpAnyH_take (i := 2) (oi := ⟨some 15, _, _, _, _, _⟩) (v := ?_) rfl (by kernel_rfl) (by kernel_rfl) (by kernel_rfl) (fun _ _ _ h => h) (Or.inl ⟨by rfl, ?_⟩) (by assumption) ?_
      rotate_left
      · intro w hSw
        (try dsimp only at hSw)
        go_simp
        all_goals (with_reducible rfl)
      try simp only [Act.put, List.setIfInBounds_toArray, List.set_cons_zero, List.set_cons_succ]
      refine wpAnyH_take (i := 3) (oi := ⟨some 16, _, _, _, _, _⟩) (v := ?_) rfl (by kernel_rfl) (by kernel_rfl) (by kernel_rfl) (fun _ _ _ h => h) (Or.inl ⟨by rfl, ?_⟩) (by assumption) ?_
      rotate_left
      · intro w hSw
        (try dsimp only at hSw)
        go_simp
        all_goals (with_reducible rfl)
      try simp only [Act.put, List.setIfInBounds_toArray, List.set_cons_zero, List.set_cons_succ]
      refine wpAnyH_take (i := 4) (oi := ⟨some 17, _, _, _, _, _⟩) (v := ?_) rfl (by kernel_rfl) (by kernel_rfl) (by kernel_rfl) (fun _ _ _ h => h) (Or.inl ⟨by rfl, ?_⟩) (by assumption) ?_
      rotate_left
      · intro w hSw
        (try dsimp only at hSw)
        go_simp
        all_goals (with_reducible rfl)
      try simp only [Act.put, List.setIfInBounds_toArray, List.set_cons_zero, List.set_cons_succ]
      refine wpAnyH_take (i := 5) (oi := ⟨some 18, _, _, _, _, _⟩) (v := ?_) rfl (by kernel_rfl) (by kernel_rfl) (by kernel_rfl) (fun _ _ _ h => h) (Or.inl ⟨by rfl, ?_⟩) (by assumption) ?_
      rotate_left
      · intro w hSw
        (try dsimp only at hSw)
        go_simp
        all_goals (with_reducible rfl)
      try simp only [Act.put, List.setIfInBounds_toArray, List.set_cons_zero, List.set_cons_succ]
      refine wpAnyH_take (i := 6) (oi := ⟨some 5, _, _, _, _, _⟩) (v := ?_) rfl (by kernel_rfl) (by kernel_rfl) (by kernel_rfl) (fun _ _ _ h => h) (Or.inl ⟨by rfl, ?_⟩) (by assumption) ?_
      rotate_left
      · intro w hSw
        (try dsimp only at hSw)
        go_simp
        all_goals (with_reducible rfl)
      try simp only [Act.put, List.setIfInBounds_toArray, List.set_cons_zero, List.set_cons_succ]
      refine wpAnyH_done (by kernel_rfl) ?_ _
      refine noOut_norm ?_
      have HJ2 := Lib.hid (hJd _ _ HJ.out)
      have HB2 : Hid (Boxed wr.drew b 31 (.slice X len cap) ∧ Boxed wr.drew (b + 1) 3 (.int .i64 (K : Int))) := HB.out
      obtain ⟨fn, tmps, assign, body, hy, hR⟩ := hY (List.range k) k wr.drew HJ2.out (by rw [List.length_range]; exact hkN)
      have hv : chunkV X len K k = .slice (cutA X hi at0) (hi - at0) (hi - at0) := by
        unfold chunkV
        rw [HAT.out.1, ← HE.out.1, HE.out.2.1]
      rw [hv] at hy
      have hcd : wr.drew.cell? ⟨b, 0, none⟩ = some (.slice X len cap) := HB2.out.1.cell
      clear hc1
      gi_wp2
      refine ⟨fun e => (by cases e), hR.mono ?_⟩
      rintro e3 W3 (⟨rfl, hJ3, hk3⟩ | ⟨rfl, hJx3⟩)
      · obtain ⟨hb1, hb2⟩ := hk3 HB2.out
        have hc3 := hb2.cell
        gi_wp2
        go_roundw
        case rel =>
          refine ⟨k + 1, by rw [HAT.out.2, Int.natCast_add], by rw [HAT.out.2]; omega, fun x hx => ?_, by rw [List.range_succ]; exact hJ3, ⟨hb1, hb2⟩⟩
          by_cases e : x < k
          · exact hks x e
          · obtain rfl : x = k := by omega
            rw [HAT.out.1]; exact hlt
        case measure => simp [intOf]; omega
      · gi_wp2
        refine bodyPost_ret (results_none rfl _ _ _) rfl ?_
        exact ⟨⟨_, rfl⟩, .inr ⟨_, trivial, hJx3⟩⟩
    · gi_wp2
      go_end0
      exact ⟨⟨_, rfl⟩, .inl ⟨_, ⟨k, rfl, by rw [HAT.out.1]; omega, hks⟩, HJ.out⟩⟩

theorem chunk_stops (n b : Nat) (X : Option Addr) (len cap K : Nat) (hK : 1 ≤ K) (hK2 : K ≤ 1099511627776) (hlen : len ≤ 140737488355328) (hcap : len ≤ cap) (N : Nat) (hN : ∀ x, x * K < len → x < N) (w : World) (h1 : Boxed w b 31 (.slice X len cap)) (h2 : Boxed w (b + 1) 3 (.int .i64 (K : Int))) :
    SeqStopsK (openF none) n Try.prog 78 #[.pointer (some ⟨b, 0, none⟩), .pointer (some ⟨b + 1, 0, none⟩)] (fun x : Nat => #[chunkV X len K x]) (KpC b (.slice X len cap) (.int .i64 (K : Int))) (fun ys => ∃ c, ys = List.range c ∧ len ≤ c * K ∧ ∀ x, x < c → x * K < len) (fun _ => True) N w := fun l J Jx W hW hJ _ hY h0 => by
  have e1 : Boxed W b 31 (.slice X len cap) := (hW.block b h1.lt).trans h1
  have e2 : Boxed W (b + 1) 3 (.int .i64 (K : Int)) := (hW.block (b + 1) h2.lt).trans h2
  exact chunk1_in n l b X len cap K hK hK2 hlen hcap J Jx N hN hY (fun pre V h => hJ pre V V.drew none h ⟨rfl, rfl, rfl, Nat.le_refl _, fun _ _ _ => rfl⟩ (fun r e => by cases e)) W e1 e2 h0
end Go.Proofs.Ytobbjeephmfdeaa
