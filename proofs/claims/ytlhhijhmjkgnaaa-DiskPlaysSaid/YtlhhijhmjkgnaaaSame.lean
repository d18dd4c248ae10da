/- Whether what is read of two disks is the same. -/
import Derived.Test.YtlhhijhmjkgnaaaDoes
namespace Go.Proofs.Ytlhhijhmjkgnaaa
open Go.RowKit Go.Coop
set_option maxRecDepth 100000

theorem same_disks (w : World) {g m c g' m' c' : Nat} {S T : DS} (h : DiskAt w g m c S) (h' : DiskAt w g' m' c' T) (hn : S.n = T.n) (hd : S.down = T.down) (ha : ∀ i, i < S.n → S.at_ i = T.at_ i) :
    Calls Try.prog 35 #[.pointer (some ⟨g, 0, none⟩), .pointer (some ⟨g', 0, none⟩)] w fun e w' => e = .returned (.bool true) ∧ Below w.heap.size w w' := by
  obtain ⟨n, hN⟩ : ∃ n, S.n = n := ⟨_, rfl⟩
  have hn6 := h.ok.n2
  rw [hN] at hn6
  have H := Lib.hid (And.intro h h')
  have HN := Lib.hid (And.intro hN (hN ▸ hn).symm)
  have HA := Lib.hid ha
  have HL : Hid (∀ i, (S.at_ i).length = 64 ∧ (T.at_ i).length = 64) := fun i => ⟨h.ok.at_ i, h'.ok.at_ i⟩
  cases hdq : S.down
  · have HD := Lib.hid (And.intro hdq (hd ▸ hdq))
    clear h h' hn ha hN hd hdq
    go_enter Try.func35, Try.ntmps35
    go_wp2
    go_loopw [5] (fun i wr => ∃ k : Nat, k ≤ n ∧ i = .int .i64 k ∧ Hid (Below w.heap.size w wr)) (fun i _ => n - (Go.RowKit.intOf i).toNat)
    case atStart => exact ⟨0, by omega, rfl, Below.refl _ _⟩
    case round =>
      obtain ⟨k, hk, rfl, HB⟩ := hrel
      have HR := Lib.hid (And.intro (H.out.1.below HB.out (Nat.le_refl _)) (H.out.2.below HB.out (Nat.le_refl _)))
      go_wp2_with fail
      refine (size_yes _ HR.out.1).mono ?_
      rintro e w1 ⟨rfl, rfl⟩
      rw [HN.out.1]
      by_cases hlt : k < n
      · have HI := Lib.hid hlt
        go_wp2_with fail
        refine (read_yes _ HR.out.1 HD.out.1 (by rw [HN.out.1]; exact HI.out)).mono ?_
        rintro e w2 ⟨rfl, hw2⟩
        have hb2 : Below wr.heap.size wr w2 := by rw [hw2]; exact (Below.refl _ _).alloc (Nat.le_refl _) _
        have hr2 : Rd w2 (some ⟨wr.heap.size, 0, none⟩) 64 (S.at_ k) := by rw [hw2]; exact rd_new _ _ (HL.out k).1 77
        have HR2 := Lib.hid (And.intro hb2 (And.intro hr2 (HR.out.2.below hb2 (Nat.le_refl _))))
        clear hw2 hb2 hr2
        go_wp2_with fail
        refine (read_yes _ HR2.out.2.2 HD.out.2 (by have := HN.out.2; rw [this]; exact HI.out)).mono ?_
        rintro e w3 ⟨rfl, hw3⟩
        have hb3 : Below w2.heap.size w2 w3 := by rw [hw3]; exact (Below.refl _ _).alloc (Nat.le_refl _) _
        have hr3 : Rd w3 (some ⟨w2.heap.size, 0, none⟩) 64 (T.at_ k) := by rw [hw3]; exact rd_new _ _ (HL.out k).2 77
        have HR3 := Lib.hid (And.intro (HB.out.trans ((HR2.out.1.mono HB.out.size).trans (hb3.mono (Nat.le_trans HB.out.size HR2.out.1.size)))) (And.intro (HR2.out.2.1.below hb3 (Nat.le_refl _)) hr3))
        clear hw3 hb3 hr3
        go_wp2_with fail
        refine (same_k _ _ _ _ _ _ _ _ _ HR3.out.2.1 HR3.out.2.2 (q := true) (by rw [HA.out k (by rw [HN.out.1]; exact HI.out)]; exact beq_self_eq_true _)).mono ?_
        rintro e w4 ⟨rfl, rfl⟩
        go_wp2
        go_roundw
        case rel => exact ⟨k + 1, by omega, by go_num, HR3.out.1⟩
        case measure => simp [Go.RowKit.intOf]; omega
      · obtain rfl : k = n := by omega
        go_wp2_with fail
        refine (size_yes _ HR.out.1).mono ?_
        rintro e w2 ⟨rfl, rfl⟩
        rw [HN.out.1]
        go_wp2_with fail
        refine (size_yes _ HR.out.2).mono ?_
        rintro e w3 ⟨rfl, rfl⟩
        rw [HN.out.2]
        go_wp2
        go_ret
        exact ⟨rfl, HB.out⟩
  · have HD := Lib.hid (And.intro hdq (hd ▸ hdq))
    clear h h' hn ha hN hd hdq
    go_enter Try.func35, Try.ntmps35
    go_wp2
    go_loopw [5] (fun i wr => ∃ k : Nat, k ≤ n ∧ i = .int .i64 k ∧ Hid (Below w.heap.size w wr)) (fun i _ => n - (Go.RowKit.intOf i).toNat)
    case atStart => exact ⟨0, by omega, rfl, Below.refl _ _⟩
    case round =>
      obtain ⟨k, hk, rfl, HB⟩ := hrel
      have HR := Lib.hid (And.intro (H.out.1.below HB.out (Nat.le_refl _)) (H.out.2.below HB.out (Nat.le_refl _)))
      go_wp2_with fail
      refine (size_yes _ HR.out.1).mono ?_
      rintro e w1 ⟨rfl, rfl⟩
      rw [HN.out.1]
      by_cases hlt : k < n
      · go_wp2_with fail
        refine (read_down _ HR.out.1 HD.out.1 _).mono ?_
        rintro e w2 ⟨rfl, rfl⟩
        go_wp2_with fail
        refine (read_down _ HR.out.2 HD.out.2 _).mono ?_
        rintro e w3 ⟨rfl, rfl⟩
        go_wp2_with fail
        refine (same_k _ _ _ [] _ _ _ [] _ (Rd.nil _ _) (Rd.nil _ _) (q := true) rfl).mono ?_
        rintro e w4 ⟨rfl, rfl⟩
        go_wp2
        go_roundw
        case rel => exact ⟨k + 1, by omega, by go_num, HB.out⟩
        case measure => simp [Go.RowKit.intOf]; omega
      · obtain rfl : k = n := by omega
        go_wp2_with fail
        refine (size_yes _ HR.out.1).mono ?_
        rintro e w2 ⟨rfl, rfl⟩
        rw [HN.out.1]
        go_wp2_with fail
        refine (size_yes _ HR.out.2).mono ?_
        rintro e w3 ⟨rfl, rfl⟩
        rw [HN.out.2]
        go_wp2
        go_ret
        exact ⟨rfl, HB.out⟩
end Go.Proofs.Ytlhhijhmjkgnaaa
