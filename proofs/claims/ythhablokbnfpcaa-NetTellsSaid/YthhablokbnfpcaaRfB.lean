/- The reference's Waiting, Flying, place, Look. -/
import Derived.Test.YthhablokbnfpcaaRfA
import Derived.Deep.LoopGhost
namespace Go.Proofs.Ythhablokbnfpcaa
open Go.RowKit Go.Coop Go.Maps
set_option maxRecDepth 100000
section
variable (w : World) {lo n c : Nat} {A : Option Addr} {L : List EV}
theorem rwaiting_is (h : Bk w lo A n c L) (e m : Int) (k : Int) {q : Int} (hq : (forL (live L) k : Int) = q) : Calls Try.prog 29 #[.agg #[.int .i64 e, .int .i64 m, .slice A n c], .int .i64 k] w fun e w' => e = .returned (.int .i64 q) ∧ Below w.heap.size w w' := by
  obtain ⟨w1, hw1⟩ : ∃ v, w.alloc (.cells #[.int .i64 e, .int .i64 m, .slice A n c] 42) = v := ⟨_, rfl⟩
  have hB1 : Below w.heap.size w w1 := hw1 ▸ (Below.refl _ _).alloc (Nat.le_refl _) _
  have hr1 : w1.heap[w.heap.size]? = some (.cells #[.int .i64 e, .int .i64 m, .slice A n c] 42 (0, 0)) := hw1 ▸ heap_alloc_new _ _
  obtain ⟨b, hb⟩ : ∃ b, w.heap.size = b := ⟨_, rfl⟩
  rw [hb] at hr1
  obtain ⟨⟨c0, c1, c2⟩, _, _, _⟩ := three hr1
  have hcap := h.cap
  have hlen := h.len
  have H := Lib.hid (And.intro (h.below hB1) (And.intro hB1 (And.intro hlen (And.intro hcap hq))))
  have HW := Lib.hid (And.intro hw1 hb)
  clear h hB1 hw1 hb hr1 hcap hlen hq
  go_enter Try.func29, Try.ntmps29
  go_wp2
  rw [HW.out.1, HW.out.2]
  go_loopw [5, 6] (fun v i wr => ∃ j s : Nat, j ≤ n ∧ s ≤ j ∧ v = .int .i64 s ∧ i = .int .i64 j ∧ w1 = wr ∧ Hid (s = forL (live (L.take j)) k)) (fun _ i _ => n - (Go.RowKit.intOf i).toNat)
  case atStart => exact ⟨0, 0, by omega, by omega, rfl, rfl, rfl, rfl⟩
  case round =>
    obtain ⟨j, s, hj, hs, rfl, rfl, rfl, HS⟩ := hrel
    by_cases hlt : j < n
    · obtain ⟨o, ho⟩ : ∃ o, L[j]? = some o := ⟨_, List.getElem?_eq_getElem (by rw [H.out.2.2.1]; exact hlt)⟩
      obtain ⟨r, rfl, hrl, k0, k1, k2, k3⟩ := H.out.1.get ho
      have hji : (0 : Int) ≤ (j : Int) := by omega
      have hjn : (j : Int) < (n : Int) := by omega
      have hjb : (j : Int) < 9223372036854775807 := by have := H.out.2.2.2.1; omega
      have hsb : (s : Int) ≤ (j : Int) := by omega
      have hw1 : IntKind.i64.wrap ((j : Int) + 1) = (j : Int) + 1 := IntWalk.i64_in _ (by omega)
      have hw2 : IntKind.i64.wrap ((s : Int) + 1) = (s : Int) + 1 := IntWalk.i64_in _ (by omega)
      have hstep := live_take ho
      have HJ := Lib.hid (And.intro hj (And.intro hs hlt))
      clear hj hs hlt hrl
      cases hg : o.gone with
      | true =>
        rw [hg] at k3
        rw [live_no hg, List.append_nil] at hstep
        have HE : Hid (s = forL (live (L.take (j + 1))) k) := Lib.hid (by rw [hstep]; exact HS.out)
        clear hstep hg ho
        go_wp2
        go_roundw
        case rel => exact ⟨j + 1, s, by have := HJ.out; omega, by have := HJ.out; omega, rfl, by go_num, trivial, HE⟩
        case measure => have := HJ.out; simp [Go.RowKit.intOf]; omega
      | false =>
        rw [hg] at k3
        rw [live_yes hg] at hstep
        by_cases hk : (o.d.to : Int) = k
        · have HE : Hid (s + 1 = forL (live (L.take (j + 1))) k) := Lib.hid (by rw [hstep, forL_append, forL_one, if_pos hk, ← HS.out])
          rw [hk] at k1
          clear hstep hg ho hk
          go_wp2
          go_roundw
          case rel => exact ⟨j + 1, s + 1, by have := HJ.out; omega, by have := HJ.out; omega, by go_num, by go_num, trivial, HE⟩
          case measure => have := HJ.out; simp [Go.RowKit.intOf]; omega
        · have HE : Hid (s = forL (live (L.take (j + 1))) k) := Lib.hid (by rw [hstep, forL_append, forL_one, if_neg hk, ← HS.out]; rfl)
          obtain ⟨t, ht⟩ : ∃ t : Int, (o.d.to : Int) = t := ⟨_, rfl⟩
          rw [ht] at k1 hk
          have hk' : (t == k) = false := by simpa using hk
          clear hstep hg ho ht hk
          go_wp2
          go_roundw
          case rel => exact ⟨j + 1, s, by have := HJ.out; omega, by have := HJ.out; omega, rfl, by go_num, trivial, HE⟩
          case measure => have := HJ.out; simp [Go.RowKit.intOf]; omega
    · obtain rfl : j = n := by omega
      have HE : Hid ((s : Int) = q) := Lib.hid (by have h1 := HS.out; rw [List.take_of_length_le (by rw [H.out.2.2.1]; exact Nat.le_refl _)] at h1; rw [← H.out.2.2.2.2, ← h1])
      clear hlt hj hs
      go_wp2
      go_ret
      exact ⟨by rw [HE.out]; rfl, H.out.2.1⟩
theorem rflying_is (h : Bk w lo A n c L) (ends : Nat) (m : Int) (he : ends ≤ 300) (hin : ∀ d ∈ live L, d.to < ends) {q : Int} (hq : ((live L).length : Int) = q) : Calls Try.prog 48 #[.agg #[.int .i64 (ends : Int), .int .i64 m, .slice A n c]] w fun e w' => e = .returned (.int .i64 q) ∧ Below w.heap.size w w' := by
  obtain ⟨w1, hw1⟩ : ∃ v, w.alloc (.cells #[.int .i64 (ends : Int), .int .i64 m, .slice A n c] 42) = v := ⟨_, rfl⟩
  have hB1 : Below w.heap.size w w1 := hw1 ▸ (Below.refl _ _).alloc (Nat.le_refl _) _
  have hr1 : w1.heap[w.heap.size]? = some (.cells #[.int .i64 (ends : Int), .int .i64 m, .slice A n c] 42 (0, 0)) := hw1 ▸ heap_alloc_new _ _
  obtain ⟨b, hb⟩ : ∃ b, w.heap.size = b := ⟨_, rfl⟩
  rw [hb] at hr1
  have hcap := h.cap
  have hlen := h.len
  have H := Lib.hid (And.intro (h.below hB1) (And.intro hB1 (And.intro hlen (And.intro hcap (And.intro hq (And.intro he (And.intro hin hr1)))))))
  have HW := Lib.hid (And.intro hw1 hb)
  clear h hB1 hw1 hb hr1 hcap hlen hq he hin
  go_enter Try.func48, Try.ntmps48
  go_wp2
  rw [HW.out.1, HW.out.2]
  go_loopw [3, 4] (fun v i wr => ∃ j s : Nat, j ≤ ends ∧ v = .int .i64 s ∧ i = .int .i64 j ∧ Hid (Below w1.heap.size w1 wr) ∧ Hid (s = below_ (live L) j)) (fun _ i _ => ends - (Go.RowKit.intOf i).toNat)
  case atStart => exact ⟨0, 0, by omega, rfl, rfl, Lib.hid (Below.refl _ _), Lib.hid (below_zero _).symm⟩
  case round =>
    obtain ⟨j, s, hj, rfl, rfl, HB, HS⟩ := hrel
    have hr1 := rowk2 HB.out H.out.2.2.2.2.2.2.2
    obtain ⟨⟨c0, c1, c2⟩, _, _, _⟩ := three hr1
    clear hr1
    by_cases hlt : j < ends
    · have hji : (0 : Int) ≤ (j : Int) := by omega
      have hjn : (j : Int) < (ends : Int) := by omega
      have hjb : (j : Int) < 300 := by have := H.out.2.2.2.2.2.1; omega
      obtain ⟨p, hp⟩ : ∃ p, forL (live L) (j : Int) = p := ⟨_, rfl⟩
      have hsum := below_succ (live L) j
      rw [hp, ← HS.out] at hsum
      have hle := below_le (live L) (j + 1)
      have hll := live_len L
      have hsb : (s : Int) + (p : Int) ≤ 9223372036854775807 := by have := H.out.2.2.1; have := H.out.2.2.2.1; omega
      have hw1 : IntKind.i64.wrap ((j : Int) + 1) = (j : Int) + 1 := IntWalk.i64_in _ (by omega)
      have hw2 : IntKind.i64.wrap ((s : Int) + (p : Int)) = (s : Int) + (p : Int) := IntWalk.i64_in _ (by omega)
      have HJ := Lib.hid (And.intro hj (And.intro hlt (And.intro hp hsum)))
      clear hj hlt hsum hle hll hp
      go_wp2_with fail
      refine (rwaiting_is _ (H.out.1.below HB.out) (ends : Int) m (j : Int) (q := (p : Int)) (by rw [HJ.out.2.2.1])).mono ?_
      rintro e w2 ⟨rfl, hb⟩
      have HB2 := Lib.hid (HB.out.trans (hb.mono HB.out.size))
      clear hb c0 c1 c2
      go_wp2
      go_roundw
      case rel => exact ⟨j + 1, s + p, by have := HJ.out; omega, by go_num, by go_num, HB2, Lib.hid (by have := HJ.out.2.2.2; omega)⟩
      case measure => have := HJ.out; simp [Go.RowKit.intOf]; omega
    · obtain rfl : j = ends := by omega
      have HE : Hid ((s : Int) = q) := Lib.hid (by have h1 := HS.out; rw [below_all _ _ H.out.2.2.2.2.2.2.1] at h1; rw [← H.out.2.2.2.2.1, ← h1])
      clear hlt hj
      go_wp2
      go_ret
      exact ⟨by rw [HE.out]; rfl, H.out.2.1.trans (HB.out.mono H.out.2.1.size)⟩
end
end Go.Proofs.Ythhablokbnfpcaa
