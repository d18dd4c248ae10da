/- The reference's RightTell. -/
import Derived.Test.YtmiapegecoaccaaTelA
namespace Go.Proofs.Ytmiapegecoaccaa
open Go.RowKit Go.Coop
set_option maxRecDepth 100000
section
variable (w : World)
set_option maxHeartbeats 4000000 in
theorem rrightT_is (l s o er room : Int) {I : Option Addr} {m mc : Nat} {L : List InfP} (hI : IL w I m L) (hm : m ≤ 1000000) (B : Option Addr) (n c : Nat) (bs : List UInt8) (hn : bs.length = n) {q : Bool} (hq : decide (RightT ⟨l, s, o, er, L, bs, room⟩) = q) :
    Calls Try.prog 23 #[.agg #[.int .i64 l, .int .i64 s, .int .u8 o, .int .i64 er, .slice I m mc, .slice B n c, .int .i64 room]] w (Told w q) := by
  have hlm := hI.len
  have hR : RightT ⟨l, s, o, er, L, bs, room⟩ ↔ HeadOk l s o ∧ (0 ≤ er ∧ er ≤ 1000) ∧ (0 ≤ room ∧ room ≤ 65536) ∧ (er ≠ 0 → m = 0 ∧ n = 0) ∧ m ≤ 50 ∧ n ≤ 65536 ∧ ∀ i ∈ L, InfOk i := by
    unfold RightT
    simp only [hlm, hn]
    rw [← hlm, ← hn, List.length_eq_zero_iff, List.length_eq_zero_iff]
  have HR := Lib.hid (And.intro hR (And.intro hlm hI))
  have HQ := Lib.hid hq
  clear hR hq hn hlm hI
  by_cases h1 : HeadOk l s o
  · have k1 := Lib.hid (decide_eq_true h1)
    by_cases e0 : 0 ≤ er
    · skip
      by_cases e1 : er ≤ 1000
      · skip
        by_cases e2 : m ≤ 50
        · skip
          by_cases e3 : n ≤ 65536
          · skip
            by_cases e4 : 0 ≤ room
            · skip
              by_cases e5 : room ≤ 65536
              · skip
                have e2' : (m : Int) ≤ 50 := by omega
                have e3' : (n : Int) ≤ 65536 := by omega
                have HH := Lib.hid (And.intro h1 (And.intro (And.intro e0 e1) (And.intro (And.intro e4 e5) (And.intro e2 e3))))
                clear h1
                obtain ⟨w1, hw1⟩ : ∃ x, w.alloc (.cells #[.int .i64 l, .int .i64 s, .int .u8 o, .int .i64 er, .slice I m mc, .slice B n c, .int .i64 room] 34) = x := ⟨_, rfl⟩
                obtain ⟨hb1, hx1⟩ := box_new hw1
                obtain ⟨g, hg⟩ : ∃ g, w.heap.size = g := ⟨_, rfl⟩
                rw [hg] at hx1
                obtain ⟨c0, c1, c2, c3, c4, c5, c6⟩ := arr7 hx1
                have HB := Lib.hid (And.intro hb1 hx1)
                clear hb1 hx1
                go_enter Try.func23, Try.ntmps23
                go_wp2_with fail
                (try rw [hw1])
                refine (rheaded_q _ l s o k1.out).mono ?_
                rintro e w' ⟨rfl, rfl⟩
                go_wp2
                go_loopw [3, 4] (fun s3 _ wr => ∃ k : Nat, k ≤ m ∧ s3 = .int .i64 k ∧ Hid ((∀ i ∈ L.take k, InfOk i) ∧ Below w.heap.size w wr ∧ wr.heap[g]? = some (.cells #[.int .i64 l, .int .i64 s, .int .u8 o, .int .i64 er, .slice I m mc, .slice B n c, .int .i64 room] 34 (0, 0)))) (fun s3 _ _ => m - (Go.RowKit.intOf s3).toNat)
                case atStart => exact ⟨0, by omega, rfl, (⟨by simp, HB.out.1, HB.out.2⟩ : (∀ i ∈ L.take 0, InfOk i) ∧ Below w.heap.size w w1 ∧ _)⟩
                case round =>
                  clear c0 c1 c2 c3 c4 c5 c6
                  obtain ⟨k, hk, rfl, HK⟩ := hrel
                  by_cases hlt : k < m
                  · obtain ⟨p, hp⟩ : ∃ p, L[k]? = some p := ⟨_, List.getElem?_eq_getElem (by rw [HR.out.2.1]; exact hlt)⟩
                    obtain ⟨ad, rfl, hadl, hload, _, _, _, _⟩ := (HR.out.2.2.below HK.out.2.1 (Nat.le_refl _)).get hp
                    obtain ⟨c0, c1, c2, c3, c4, c5, c6⟩ := arr7 HK.out.2.2
                    have hi1 : (0 : Int) ≤ (k : Int) := by omega
                    have hi2 : (k : Int) < (m : Int) := by omega
                    have hwk : IntKind.i64.wrap ((k : Int) + 1) = (k : Int) + 1 := IntWalk.i64_in _ (by omega)
                    have HT := Lib.hid (And.intro hp hlt)
                    clear hp hlt hadl
                    obtain ⟨wa, hwa⟩ : ∃ v, wr.alloc (.cells #[.int .i64 p.stripe, .int .i64 p.index, .int .i64 p.version, .int .u8 p.state] 30) = v := ⟨_, rfl⟩
                    obtain ⟨hba, hxa⟩ := box_new hwa
                    obtain ⟨m0, m1, m2, m3⟩ := four30 hxa
                    have HBA := Lib.hid (And.intro (HK.out.2.1.trans (hba.mono HK.out.2.1.size)) ((hba.block g (lt_of_block HK.out.2.2)).trans HK.out.2.2))
                    clear hba hxa
                    by_cases hp : NumOk p.stripe p.index p.version 1
                    · have kp := Lib.hid (decide_eq_true hp)
                      by_cases z1 : 1 ≤ p.state
                      · by_cases z2 : p.state ≤ 2
                        · have HP := Lib.hid (show InfOk p from ⟨hp, by omega⟩)
                          clear hp
                          go_wp2_with fail
                          (try rw [hwa])
                          refine (named_q _ p.stripe p.index p.version 1 kp.out).mono ?_
                          rintro e w2 ⟨rfl, rfl⟩
                          clear hwa hload
                          go_wp2
                          go_roundw
                          case rel =>
                            refine ⟨k + 1, by have := HT.out.2; omega, by go_num, (⟨?_, HBA.out.1, HBA.out.2⟩ : (∀ i ∈ L.take (k + 1), InfOk i) ∧ _)⟩
                            rw [take_snoc' HT.out.1]
                            intro x hx
                            rcases List.mem_append.1 hx with hx | hx
                            · exact HK.out.1 x hx
                            · simp at hx
                              subst hx
                              exact HP.out
                          case measure => have := HT.out.2; simp [Go.RowKit.intOf]; omega
                        · have z2' : 2 < p.state := by omega
                          obtain rfl : q = false := by rw [← HQ.out]; exact decide_eq_false (fun h => by have := (HR.out.1.1 h).2.2.2.2.2.2 p (List.mem_of_getElem? HT.out.1); exact z2 (by have := this.2; omega))
                          clear hp z2
                          go_wp2_with fail
                          (try rw [hwa])
                          refine (named_q _ p.stripe p.index p.version 1 kp.out).mono ?_
                          rintro e w2 ⟨rfl, rfl⟩
                          go_wp2
                          go_ret
                          exact ⟨rfl, HBA.out.1⟩
                      · have z1' : p.state < 1 := by omega
                        obtain rfl : q = false := by rw [← HQ.out]; exact decide_eq_false (fun h => by have := (HR.out.1.1 h).2.2.2.2.2.2 p (List.mem_of_getElem? HT.out.1); exact z1 (by have := this.2; omega))
                        clear hp z1
                        go_wp2_with fail
                        (try rw [hwa])
                        refine (named_q _ p.stripe p.index p.version 1 kp.out).mono ?_
                        rintro e w2 ⟨rfl, rfl⟩
                        go_wp2
                        go_ret
                        exact ⟨rfl, HBA.out.1⟩
                    · have kp := Lib.hid (decide_eq_false hp)
                      obtain rfl : q = false := by rw [← HQ.out]; exact decide_eq_false (fun h => hp ((HR.out.1.1 h).2.2.2.2.2.2 p (List.mem_of_getElem? HT.out.1)).1)
                      clear hp
                      go_wp2_with fail
                      (try rw [hwa])
                      refine (named_q _ p.stripe p.index p.version 1 kp.out).mono ?_
                      rintro e w2 ⟨rfl, rfl⟩
                      go_wp2
                      go_ret
                      exact ⟨rfl, HBA.out.1⟩
                  · obtain rfl : k = m := by omega
                    obtain ⟨c0, c1, c2, c3, c4, c5, c6⟩ := arr7 HK.out.2.2
                    have hall : ∀ i ∈ L, InfOk i := by
                      have := HK.out.1
                      rwa [List.take_of_length_le (by rw [HR.out.2.1]; exact Nat.le_refl _)] at this
                    by_cases hz : er = 0
                    · obtain rfl : q = true := by
                        rw [← HQ.out]
                        exact decide_eq_true (HR.out.1.2 ⟨HH.out.1, HH.out.2.1, HH.out.2.2.1, fun h => absurd hz h, HH.out.2.2.2.1, HH.out.2.2.2.2, hall⟩)
                      have bz : (er == 0) = true := by simp [hz]
                      clear hall hz hlt
                      go_wp2
                      go_ret
                      exact ⟨by first | rfl | exact ended_b (by assumption), HK.out.2.1⟩
                    · have bz : (er == 0) = false := by simpa using hz
                      by_cases hm0 : k = 0
                      · have bm : ((k : Int) == 0) = true := by simpa using hm0
                        by_cases hn0 : n = 0
                        · have bn : ((n : Int) == 0) = true := by simpa using hn0
                          obtain rfl : q = true := by
                            rw [← HQ.out]
                            exact decide_eq_true (HR.out.1.2 ⟨HH.out.1, HH.out.2.1, HH.out.2.2.1, fun _ => ⟨hm0, hn0⟩, HH.out.2.2.2.1, HH.out.2.2.2.2, hall⟩)
                          clear hall hz hlt hm0 hn0
                          go_wp2
                          go_ret
                          exact ⟨by first | rfl | exact ended_b (by assumption), HK.out.2.1⟩
                        · have bn : ((n : Int) == 0) = false := by simpa using hn0
                          obtain rfl : q = false := by rw [← HQ.out]; exact decide_eq_false (fun h => hn0 ((HR.out.1.1 h).2.2.2.1 hz).2)
                          clear hall hz hlt hm0 hn0
                          go_wp2
                          go_ret
                          exact ⟨by first | rfl | exact ended_b (by assumption), HK.out.2.1⟩
                      · have bm : ((k : Int) == 0) = false := by simpa using hm0
                        obtain rfl : q = false := by rw [← HQ.out]; exact decide_eq_false (fun h => hm0 ((HR.out.1.1 h).2.2.2.1 hz).1)
                        clear hall hz hlt hm0
                        go_wp2
                        go_ret
                        exact ⟨by first | rfl | exact ended_b (by assumption), HK.out.2.1⟩
              · obtain rfl : q = false := by rw [← HQ.out]; exact decide_eq_false fun h => e5 (HR.out.1.1 h).2.2.1.2
                have e' : 65536 < room := by omega
                have e2' : (m : Int) ≤ 50 := by omega
                have e3' : (n : Int) ≤ 65536 := by omega
                clear h1 HQ e5 e2 e3
                obtain ⟨w1, hw1⟩ : ∃ x, w.alloc (.cells #[.int .i64 l, .int .i64 s, .int .u8 o, .int .i64 er, .slice I m mc, .slice B n c, .int .i64 room] 34) = x := ⟨_, rfl⟩
                obtain ⟨hb1, hx1⟩ := box_new hw1
                obtain ⟨g, hg⟩ : ∃ g, w.heap.size = g := ⟨_, rfl⟩
                rw [hg] at hx1
                obtain ⟨c0, c1, c2, c3, c4, c5, c6⟩ := arr7 hx1
                have HB := Lib.hid (And.intro hb1 hx1)
                clear hb1 hx1
                go_enter Try.func23, Try.ntmps23
                go_wp2_with fail
                (try rw [hw1])
                refine (rheaded_q _ l s o k1.out).mono ?_
                rintro e w' ⟨rfl, rfl⟩
                go_wp2
                go_ret
                exact ⟨rfl, HB.out.1⟩
            · obtain rfl : q = false := by rw [← HQ.out]; exact decide_eq_false fun h => e4 (HR.out.1.1 h).2.2.1.1
              have e' : room < 0 := by omega
              have e2' : (m : Int) ≤ 50 := by omega
              have e3' : (n : Int) ≤ 65536 := by omega
              clear h1 HQ e4 e2 e3
              obtain ⟨w1, hw1⟩ : ∃ x, w.alloc (.cells #[.int .i64 l, .int .i64 s, .int .u8 o, .int .i64 er, .slice I m mc, .slice B n c, .int .i64 room] 34) = x := ⟨_, rfl⟩
              obtain ⟨hb1, hx1⟩ := box_new hw1
              obtain ⟨g, hg⟩ : ∃ g, w.heap.size = g := ⟨_, rfl⟩
              rw [hg] at hx1
              obtain ⟨c0, c1, c2, c3, c4, c5, c6⟩ := arr7 hx1
              have HB := Lib.hid (And.intro hb1 hx1)
              clear hb1 hx1
              go_enter Try.func23, Try.ntmps23
              go_wp2_with fail
              (try rw [hw1])
              refine (rheaded_q _ l s o k1.out).mono ?_
              rintro e w' ⟨rfl, rfl⟩
              go_wp2
              go_ret
              exact ⟨rfl, HB.out.1⟩
          · obtain rfl : q = false := by rw [← HQ.out]; exact decide_eq_false fun h => e3 (HR.out.1.1 h).2.2.2.2.2.1
            have e' : (65536 : Int) < (n : Int) := by omega
            have e2' : (m : Int) ≤ 50 := by omega
            clear h1 HQ e3 e2
            obtain ⟨w1, hw1⟩ : ∃ x, w.alloc (.cells #[.int .i64 l, .int .i64 s, .int .u8 o, .int .i64 er, .slice I m mc, .slice B n c, .int .i64 room] 34) = x := ⟨_, rfl⟩
            obtain ⟨hb1, hx1⟩ := box_new hw1
            obtain ⟨g, hg⟩ : ∃ g, w.heap.size = g := ⟨_, rfl⟩
            rw [hg] at hx1
            obtain ⟨c0, c1, c2, c3, c4, c5, c6⟩ := arr7 hx1
            have HB := Lib.hid (And.intro hb1 hx1)
            clear hb1 hx1
            go_enter Try.func23, Try.ntmps23
            go_wp2_with fail
            (try rw [hw1])
            refine (rheaded_q _ l s o k1.out).mono ?_
            rintro e w' ⟨rfl, rfl⟩
            go_wp2
            go_ret
            exact ⟨rfl, HB.out.1⟩
        · obtain rfl : q = false := by rw [← HQ.out]; exact decide_eq_false fun h => e2 (HR.out.1.1 h).2.2.2.2.1
          have e' : (50 : Int) < (m : Int) := by omega
          clear h1 HQ e2
          obtain ⟨w1, hw1⟩ : ∃ x, w.alloc (.cells #[.int .i64 l, .int .i64 s, .int .u8 o, .int .i64 er, .slice I m mc, .slice B n c, .int .i64 room] 34) = x := ⟨_, rfl⟩
          obtain ⟨hb1, hx1⟩ := box_new hw1
          obtain ⟨g, hg⟩ : ∃ g, w.heap.size = g := ⟨_, rfl⟩
          rw [hg] at hx1
          obtain ⟨c0, c1, c2, c3, c4, c5, c6⟩ := arr7 hx1
          have HB := Lib.hid (And.intro hb1 hx1)
          clear hb1 hx1
          go_enter Try.func23, Try.ntmps23
          go_wp2_with fail
          (try rw [hw1])
          refine (rheaded_q _ l s o k1.out).mono ?_
          rintro e w' ⟨rfl, rfl⟩
          go_wp2
          go_ret
          exact ⟨rfl, HB.out.1⟩
      · obtain rfl : q = false := by rw [← HQ.out]; exact decide_eq_false fun h => e1 (HR.out.1.1 h).2.1.2
        have e' : 1000 < er := by omega
        clear h1 HQ e1
        obtain ⟨w1, hw1⟩ : ∃ x, w.alloc (.cells #[.int .i64 l, .int .i64 s, .int .u8 o, .int .i64 er, .slice I m mc, .slice B n c, .int .i64 room] 34) = x := ⟨_, rfl⟩
        obtain ⟨hb1, hx1⟩ := box_new hw1
        obtain ⟨g, hg⟩ : ∃ g, w.heap.size = g := ⟨_, rfl⟩
        rw [hg] at hx1
        obtain ⟨c0, c1, c2, c3, c4, c5, c6⟩ := arr7 hx1
        have HB := Lib.hid (And.intro hb1 hx1)
        clear hb1 hx1
        go_enter Try.func23, Try.ntmps23
        go_wp2_with fail
        (try rw [hw1])
        refine (rheaded_q _ l s o k1.out).mono ?_
        rintro e w' ⟨rfl, rfl⟩
        go_wp2
        go_ret
        exact ⟨rfl, HB.out.1⟩
    · obtain rfl : q = false := by rw [← HQ.out]; exact decide_eq_false fun h => e0 (HR.out.1.1 h).2.1.1
      have e' : er < 0 := by omega
      clear h1 HQ e0
      obtain ⟨w1, hw1⟩ : ∃ x, w.alloc (.cells #[.int .i64 l, .int .i64 s, .int .u8 o, .int .i64 er, .slice I m mc, .slice B n c, .int .i64 room] 34) = x := ⟨_, rfl⟩
      obtain ⟨hb1, hx1⟩ := box_new hw1
      obtain ⟨g, hg⟩ : ∃ g, w.heap.size = g := ⟨_, rfl⟩
      rw [hg] at hx1
      obtain ⟨c0, c1, c2, c3, c4, c5, c6⟩ := arr7 hx1
      have HB := Lib.hid (And.intro hb1 hx1)
      clear hb1 hx1
      go_enter Try.func23, Try.ntmps23
      go_wp2_with fail
      (try rw [hw1])
      refine (rheaded_q _ l s o k1.out).mono ?_
      rintro e w' ⟨rfl, rfl⟩
      go_wp2
      go_ret
      exact ⟨rfl, HB.out.1⟩
  · have k1 := Lib.hid (decide_eq_false h1)
    obtain rfl : q = false := by rw [← HQ.out]; exact decide_eq_false fun h => h1 (HR.out.1.1 h).1
    clear HQ h1
    obtain ⟨w1, hw1⟩ : ∃ x, w.alloc (.cells #[.int .i64 l, .int .i64 s, .int .u8 o, .int .i64 er, .slice I m mc, .slice B n c, .int .i64 room] 34) = x := ⟨_, rfl⟩
    obtain ⟨hb1, hx1⟩ := box_new hw1
    obtain ⟨g, hg⟩ : ∃ g, w.heap.size = g := ⟨_, rfl⟩
    rw [hg] at hx1
    obtain ⟨c0, c1, c2, c3, c4, c5, c6⟩ := arr7 hx1
    have HB := Lib.hid (And.intro hb1 hx1)
    clear hb1 hx1
    go_enter Try.func23, Try.ntmps23
    go_wp2_with fail
    (try rw [hw1])
    refine (rheaded_q _ l s o k1.out).mono ?_
    rintro e w' ⟨rfl, rfl⟩
    go_wp2
    go_ret
    exact ⟨rfl, HB.out.1⟩
end
end Go.Proofs.Ytmiapegecoaccaa
