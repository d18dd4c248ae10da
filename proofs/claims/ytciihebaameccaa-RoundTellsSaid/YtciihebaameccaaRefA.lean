/- The reference's many. -/
import Derived.Test.YtciihebaameccaaRndI
namespace Go.Proofs.Ytciihebaameccaa
open Go.RowKit Go.Coop
set_option maxRecDepth 100000
section
variable (w : World)
set_option maxHeartbeats 1000000 in
theorem rmany_is (s v need ph k0 : Int) {A : Option Addr} {n c : Nat} {ms : List Int} (h : RdV w A n (ms.map IV)) (hn : n ≤ 1000000) {q : Int} (hq : cnt k0 ms = q) : Calls Try.prog 45 #[.agg #[.int .i64 s, .int .i64 v, .int .i64 need, .int .i64 ph, .slice A n c], .int .i64 k0] w fun e w' => e = .returned (.int .i64 q) ∧ Below w.heap.size w w' := by
  have hln : ms.length = n := by have := h.len; simpa using this
  obtain ⟨w1, hw1⟩ : ∃ z, w.alloc (.cells #[.int .i64 s, .int .i64 v, .int .i64 need, .int .i64 ph, .slice A n c] 26) = z := ⟨_, rfl⟩
  obtain ⟨hb1, hx1⟩ := box_new hw1
  obtain ⟨b, hb⟩ : ∃ b, w.heap.size = b := ⟨_, rfl⟩
  rw [hb] at hx1
  have H := Lib.hid (And.intro (h.below hb1 (Nat.le_refl _)) (And.intro hln hq))
  have HB1 := Lib.hid hb1
  obtain ⟨⟨m0, m1, m2, m3, m4⟩, hbl⟩ := five26 hx1
  clear h hln hq hb1 hx1
  go_enter Try.func45, Try.ntmps45
  go_wp2
  (try rw [hw1])
  go_loopw [5, 6] (fun s5 s11 wr => ∃ j k : Nat, j ≤ n ∧ k ≤ j ∧ s11 = .int .i64 j ∧ s5 = .int .i64 k ∧ wr = w1 ∧ Hid (cnt k0 (ms.take j) = k)) (fun _ s11 _ => n - (Go.RowKit.intOf s11).toNat)
  case atStart => exact ⟨0, 0, by omega, by omega, rfl, rfl, by first | trivial | rfl, (by simp [cnt] : cnt k0 (ms.take 0) = (0 : Nat))⟩
  case round =>
    obtain ⟨j, k, hj, hkj, rfl, rfl, rfl, HR⟩ := hrel
    by_cases hlt : j < n
    · obtain ⟨y, hy⟩ : ∃ y, ms[j]? = some y := ⟨_, List.getElem?_eq_getElem (by rw [H.out.2.1]; exact hlt)⟩
      obtain ⟨ad, rfl, hadl, hxc⟩ := H.out.1.cells (by omega)
      have e0 := hxc j (IV y) (by rw [List.getElem?_map, hy]; rfl)
      have hi1 : (0 : Int) ≤ (j : Int) := by omega
      have hi2 : (j : Int) < (n : Int) := by omega
      have hw1 : IntKind.i64.wrap ((j : Int) + 1) = (j : Int) + 1 := IntWalk.i64_in _ (by omega)
      have hw2 : IntKind.i64.wrap ((k : Int) + 1) = (k : Int) + 1 := IntWalk.i64_in _ (by omega)
      have HT := Lib.hid (And.intro hy hlt)
      have HS := cnt_take (k := k0) hy
      clear hy hlt hadl hxc
      by_cases hin : y = k0
      · have hc : Hid (cnt k0 (ms.take (j + 1)) = ((k + 1 : Nat) : Int)) := by
          show _ = _
          rw [HS, if_pos hin, HR.out]
          simp
        subst hin
        clear HS
        go_wp2
        go_roundw
        case rel => exact ⟨j + 1, k + 1, by have := HT.out.2; omega, by omega, by go_num, by go_num, by first | trivial | rfl, hc⟩
        case measure => have := HT.out.2; simp [Go.RowKit.intOf]; omega
      · have hc : Hid (cnt k0 (ms.take (j + 1)) = (k : Int)) := by
          show _ = _
          rw [HS, if_neg hin, HR.out]
          simp
        have hb : (y == k0) = false := by simpa using hin
        clear HS hin
        go_wp2
        go_roundw
        case rel => exact ⟨j + 1, k, by have := HT.out.2; omega, by omega, by go_num, rfl, by first | trivial | rfl, hc⟩
        case measure => have := HT.out.2; simp [Go.RowKit.intOf]; omega
    · obtain rfl : j = n := by omega
      have hq : Hid (q = (k : Int)) := by
        show q = _
        rw [← H.out.2.2, ← HR.out, List.take_of_length_le (by rw [H.out.2.1]; exact Nat.le_refl _)]
      go_wp2
      go_ret
      rw [hq.out]
      exact ⟨rfl, HB1.out⟩
end
end Go.Proofs.Ytciihebaameccaa
