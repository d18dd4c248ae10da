import Derived.Test.YtfibkpjodhcppaaSums
import Derived.Lib.AppendZeros
namespace Go.Proofs.Ytfibkpjodhcppaa
open Go.RowKit Go.Coop

theorem info5 : (Try.prog.info? 5).map (fun i => (i.zero, i.size, i.bytes)) = some (some (.int .u8 0), 1, 1) := by kernel_rfl

/-- What a call hands back that makes a slice of bytes. -/
def Fresh (w : World) (n : Nat) (l : List UInt8) (e : Ending) (w' : World) : Prop :=
  ∃ A c, e = .returned (.slice A n c) ∧ Own w' w.heap.size 5 A n c l ∧ Below w.heap.size w w'

theorem copy_any (A : Option Addr) (n c : Nat) (l : List UInt8) (w : World) (hr : Rd w A n l) (hn : n ≤ 140737488355328) :
    Calls Try.prog 19 #[.slice A n c] w (Fresh w n l) := by
  go_enter Try.func19, Try.ntmps19
  go_wp2_with (at_builtin; refine wpList_app _ rfl (.tmp 4) (.tmp 5) _ rfl w.heap.size 5 Try.underlying32 info5 (A := none) (n := 0) (c := 0) rfl (Own.nil _ _ _) rfl hr (by omega) (Nat.le_refl _) n (by omega) ?_; intro A' c' w' ho hg hat)
  go_ret
  refine ⟨A', c', rfl, by simpa using ho, (Below.refl _ _).grown hg (Nat.le_refl _) (by simp)⟩

set_option maxRecDepth 100000 in
theorem digits_any (x : Int) (w : World) (h0 : 0 ≤ x) (h1 : x ≤ 18446744073709551615) :
    Calls Try.prog 38 #[.int .u64 x] w (Fresh w (dig x.toNat).length (dig x.toNat)) := by
  obtain ⟨n, rfl⟩ := Int.eq_ofNat_of_zero_le h0
  go_enter Try.func38, Try.ntmps38
  go_wp2
  go_loopw [0, 3] (fun v0 v3 wr => ∃ (k m j : Nat) (A : Option Addr) (c : Nat) (d : List UInt8), v0 = .int .u64 (m : Int) ∧ v3 = .slice A j c ∧ j + k ≤ 9 ∧ Own wr w.heap.size 5 A j c d ∧ Below w.heap.size w wr ∧ DRel n k m d)
    (fun v0 _ _ => (intOf v0).toNat)
  case atStart => exact ⟨9, n, 0, none, 0, [], rfl, rfl, by omega, Own.nil _ _ _, Below.refl _ _, DRel.start (by omega)⟩
  case round =>
    obtain ⟨k, m, j, A, c, d, rfl, rfl, hjk, hown, hbel, hrel⟩ := hrel
    have hm := hrel.small
    have hbs := hbel.size
    by_cases hge : 128 ≤ m
    · obtain ⟨k', rfl, hst⟩ := hrel.step hge
      clear hrel
      have hb : Own wr w.heap.size 5 A j c d := hown
      go_wp2_with (at_builtin; refine wpList_app _ rfl (.tmp 6) (.tmp 11) _ rfl w.heap.size 5 Try.underlying32 info5 rfl (hown.alloc _) rfl (Rd.one wr _ (by omega) (by omega) 5 _) (by omega) (by simp; omega) (j + 1) rfl ?_; intro A' c' w' ho hg hat)
      go_roundw
      case rel => 
        refine ⟨k', m / 128, j + 1, A', c', _, by go_num, rfl, by omega, ho, ?_, ?_⟩
        · exact (hbel.alloc hbs _).grown hg (by simp; omega) (fun k hk => (hown.block k hk).1)
        · have e : ((m : Int) % 128 + 128).toNat = m % 128 + 128 := by omega
          rw [e]; exact hst
      case measure => simp [intOf]; omega
    · go_wp2_with (at_builtin; refine wpList_app _ rfl (.tmp 15) (.tmp 18) _ rfl w.heap.size 5 Try.underlying32 info5 rfl (hown.alloc _) rfl (Rd.one wr _ (by omega) (by omega) 5 _) (by omega) (by simp; omega) (j + 1) rfl ?_; intro A' c' w' ho hg hat)
      go_ret
      have e := hrel.done (by omega)
      rw [e]
      have hl := hown.len
      refine ⟨A', c', ?_, ?_, (hbel.alloc hbs _).grown hg (by simp; omega) (fun k hk => (hown.block k hk).1)⟩
      · simp [hl]
      · simpa [hl] using ho
end Go.Proofs.Ytfibkpjodhcppaa
