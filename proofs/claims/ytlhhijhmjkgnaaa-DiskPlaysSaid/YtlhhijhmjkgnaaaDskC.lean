/- Cached: the sectors of which the cache has bytes, rising. -/
import Derived.Test.YtlhhijhmjkgnaaaDskA
import Derived.Test.YtlhhijhmjkgnaaaShfP
namespace Go.Proofs.Ytlhhijhmjkgnaaa
open Go.RowKit Go.Coop Go.Maps Go.Sort Go.Shelf
set_option maxRecDepth 100000

def ints (l : List Nat) : List Value := l.map fun (i : Nat) => Value.int .i64 (i : Int)
theorem cached_sorted (S : DS) : S.cached.Pairwise (· < ·) := List.Pairwise.filter _ List.pairwise_lt_range
theorem mem_cached (S : DS) (i : Nat) : i ∈ S.cached ↔ i < S.n ∧ (S.cache i).isSome := by
  unfold DS.cached
  rw [List.mem_filter, List.mem_range]
theorem sorted_keys {w : World} {c : Nat} {D : DataW Value} {S : DS} (_ : S.Ok) (h : w.ownsMap Try.prog 3 secR c S.n D) (hC : CacheIs D S.n S.cache) {ss : List Int} (hp : ss.Perm (intKeys D)) :
    ss.mergeSort (fun x y => decide (x ≤ y)) = S.cached.map (fun (i : Nat) => (i : Int)) := by
  obtain ⟨es, _, hn, _, hm⟩ := owns_intKeys h
  have hs : (S.cached.map fun (i : Nat) => (i : Int)).Pairwise (fun a b => decide (a ≤ b) = true) := by
    rw [List.pairwise_map]
    exact (cached_sorted S).imp fun hab => by simp; omega
  have hnd : (S.cached.map fun (i : Nat) => (i : Int)).Nodup := by
    unfold List.Nodup
    rw [List.pairwise_map]
    exact (cached_sorted S).imp fun hab => by omega
  have hperm : ss.Perm (S.cached.map fun (i : Nat) => (i : Int)) := hp.trans ((List.perm_ext_iff_of_nodup hn hnd).2 fun x => by
    rw [hm x, List.mem_map]
    constructor
    · intro hx
      obtain ⟨h1, h2⟩ := hC.keys x hx
      refine ⟨x.toNat, (mem_cached S _).2 ⟨by omega, ?_⟩, by omega⟩
      have e : x = ((x.toNat : Nat) : Int) := by omega
      rw [e, hC.has_] at hx
      exact hx
    · rintro ⟨i, hi, rfl⟩
      rw [hC.has_]
      exact ((mem_cached S i).1 hi).2)
  have := mergeSort_of_perm_i hperm
  rw [this]
  exact List.mergeSort_of_pairwise hs

/-- slices.Sort's two contracts at this program -/
theorem sortsA (m : Nat) : AnyZI.SortsIn Try.prog Try.sortedA_ren Fence.wide m :=
  ⟨fun blk off cap ss W hH hblk hsz => callsIn_wide.2 (AnyM.slices_Sort_int Try.sortA blk off cap ss W hH hblk hsz),
   fun p cap W => callsIn_wide.2 (AnyM.slices_Sort_int_none Try.sortA p cap W)⟩

/-- what Cached answers -/
def CachedIs (S : DS) (w : World) (e : Ending) (w' : World) : Prop :=
  ∃ A cap, e = .returned (.slice A S.cached.length cap) ∧ RdV w' A S.cached.length (ints S.cached) ∧ Below w.heap.size w w'
theorem cached_of {w w' : World} {S : DS} {n : Nat} {v : Value} {zs : List Int} (hz : zs = S.cached.map (fun (i : Nat) => (i : Int))) (hn : zs.length = n) {b : Nat} (h : w'.ownsRow b 3 1 v n (zs.map encZ)) (hb : Below w.heap.size w w') : CachedIs S w (.returned v) w' := by
  have hlen : n = S.cached.length := by rw [← hn, hz, List.length_map]
  have hv : zs.map encZ = ints S.cached := by rw [hz]; simp [ints]
  rw [hv, hlen] at h
  obtain ⟨A, cap, rfl⟩ : ∃ A c, v = .slice A S.cached.length c := by
    rcases h.2 with ⟨rfl, h0⟩ | ⟨g, cap, cur, rfl, _⟩
    · exact ⟨none, 0, by rw [h0]⟩
    · exact ⟨_, _, rfl⟩
  exact ⟨A, cap, rfl, (OwnV.rd (base := b) (E := 3) ⟨by simp [ints], h⟩), hb⟩

set_option maxHeartbeats 1000000 in
theorem cached_yes (w : World) {g m c : Nat} {S : DS} (h : DiskAt w g m c S) : Calls Try.prog 32 #[.pointer (some ⟨g, 0, none⟩)] w (CachedIs S w) := by
  refine (callsIn_wide (n := 6)).1 ?_
  obtain ⟨D, hown, hC⟩ := h.cache
  have hsz := owns_size hown hC
  have hok := h.ok
  have hn := hok.n2
  have c1 := h.c1
  have hbl := hown.lt
  have hmax : Maps.size D ≤ maxLen := by unfold maxLen; omega
  have hbytes : Maps.size D * 8 ≤ 140737488355328 := by omega
  have hseq : SeqGives Fence.wide 2 Try.prog 50 #[.pointer (some ⟨w.heap.size, 0, none⟩)] encZ (fun ss => ss.Perm (intKeys D)) (Maps.size D) (w.alloc (.cells #[.map (some c)] 57)) :=
    AnyZI.keys_gives (ρ := Try.keysA_ren) { Try.keysA with } Fence.wide _ trivial rfl (by omega) w.heap.size c S.n D _ (by simp) (by simp) (by
      obtain ⟨es, clock, hb, Ft, hs, hD⟩ := hown
      exact ⟨es, clock, (Below.heap_alloc _ _ c hbl).trans hb, Ft, hs, hD⟩)
  have cK : ∀ mb W, CallsIn Fence.wide 5 Try.prog 47 #[.map mb] W fun e w' => e = .returned (.func (.func 50) #[] #[.pointer (some ⟨W.heap.size, 0, none⟩)]) ∧ w' = W.alloc (.cells #[.map mb] 57) := fun mb W => AnyZI.keys_in Try.keysA Fence.wide 5 trivial rfl mb W
  have cS := AnyZI.sorted_in Try.sortedA Fence.wide 5 trivial trivial trivial trivial rfl (by omega) (sortsA _) (enters_of Try.func49 (by kernel_rfl) rfl) 50 #[.pointer (some ⟨w.heap.size, 0, none⟩)] trivial (enters_of Try.func50 (by kernel_rfl) rfl) _ _ hmax hbytes _ hseq
  change CallsIn _ _ Try.prog 46 _ _ _ at cS
  have hfK : Fence.wide.fn 47 := trivial
  have hfS : Fence.wide.fn 46 := trivial
  have hfM : Fence.wide.fn 37 := trivial
  have HK : Hid (w.ownsMap Try.prog 3 secR c S.n D ∧ CacheIs D S.n S.cache ∧ S.Ok) := ⟨hown, hC, hok⟩
  have HD := Lib.hid h
  clear hseq hsz hn hmax hbytes hbl hok hC hown h
  refine callsIn_of_wp Try.func32 rfl trivial ?_ rfl
  simp only [Try.ntmps32, List.size_toArray, List.length_cons, List.length_nil, Nat.reduceAdd, Nat.reduceSub, Array.replicate_succ, Array.replicate_zero, List.push_toArray, List.append_toArray, List.nil_append, List.cons_append]
  gi_wp2_with (first
    | (gi_at_call 37; refine (callsIn_wide.2 (made_yes _ HD.out)).mono ?_; rintro e w' ⟨rfl, rfl⟩)
    | (gi_at_call 47; refine (cK _ _).mono ?_; rintro e w' ⟨rfl, rfl⟩)
    | (gi_at_call 46; refine cS.mono ?_; rintro e w' ⟨v, ss, rfl, hS, hrow, hnil, hb⟩))
  go_ret
  exact cached_of (sorted_keys HK.out.2.2 HK.out.1 HK.out.2.1 hS) (by simp) hrow (((Below.refl _ w).alloc (Nat.le_refl _) _).trans (hb.mono (by simp)))
theorem cached_none (w : World) {p : Option Addr} (h : NoD w p) : Calls Try.prog 32 #[.pointer p] w fun e w' => e = .returned (.slice none 0 0) ∧ w = w' := by
  have H := Lib.hid h
  clear h
  go_enter Try.func32, Try.ntmps32
  go_wp2_with (go_at_call 37; refine (made_none _ H.out).mono ?_; rintro e w' ⟨rfl, rfl⟩)
  go_ret
  exact ⟨rfl, rfl⟩
end Go.Proofs.Ytlhhijhmjkgnaaa
