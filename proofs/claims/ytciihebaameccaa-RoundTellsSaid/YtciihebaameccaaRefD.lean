/- The reference's mark and Wants. -/
import Derived.Test.YtciihebaameccaaRefC
namespace Go.Proofs.Ytciihebaameccaa
open Go.RowKit Go.Coop
set_option maxRecDepth 100000
section
variable (w : World)
theorem rmark_is (ph m op e : Int) (hp : 1 ≤ ph ∧ ph ≤ 6) (hm : 0 ≤ m ∧ m ≤ 4 ∧ (ph = 3 → m ≠ 4)) {q : Int} (hq : ansR ph m op e = q) : Calls Try.prog 44 #[.int .i64 ph, .int .i64 m, .int .u8 op, .int .i64 e] w fun e w' => e = .returned (.int .i64 q) ∧ w = w' := by
  by_cases c0 : ph = 1
  · subst c0
    by_cases c1 : op = 1
    · subst c1
      by_cases c2 : e = 0
      · subst c2
        obtain rfl : 1 = q := by rw [← hq]; simp [ansR, pubR, askedR, givR]
        clear hq hp hm
        go_enter Try.func44, Try.ntmps44
        go_wp2
        go_ret
        exact ⟨rfl, rfl⟩
      · have d2 : (e == 0) = false := by simpa using c2
        have dn2 : (e != 0) = true := by simpa using c2
        by_cases c3 : m = 0
        · subst c3
          obtain rfl : 3 = q := by rw [← hq]; simp [ansR, pubR, askedR, givR, c2]
          clear hq hp hm c2
          go_enter Try.func44, Try.ntmps44
          go_wp2
          go_ret
          exact ⟨rfl, rfl⟩
        · have d3 : (m == 0) = false := by simpa using c3
          have dn3 : (m != 0) = true := by simpa using c3
          obtain rfl : m = q := by rw [← hq]; simp [ansR, pubR, askedR, givR, c2, c3]
          clear hq hp hm c2 c3
          go_enter Try.func44, Try.ntmps44
          go_wp2
          go_ret
          exact ⟨rfl, rfl⟩
    · have d1 : (op == 1) = false := by simpa using c1
      have dn1 : (op != 1) = true := by simpa using c1
      obtain rfl : m = q := by rw [← hq]; simp [ansR, pubR, askedR, givR, c1]
      clear hq hp hm c1
      go_enter Try.func44, Try.ntmps44
      go_wp2
      go_ret
      exact ⟨rfl, rfl⟩
  · have d0 : (ph == 1) = false := by simpa using c0
    have dn0 : (ph != 1) = true := by simpa using c0
    by_cases c1 : ph = 2
    · subst c1
      by_cases c2 : op = 1
      · subst c2
        by_cases c3 : e = 0
        · subst c3
          obtain rfl : 1 = q := by rw [← hq]; simp [ansR, pubR, askedR, givR, c0]
          clear hq hp hm c0
          go_enter Try.func44, Try.ntmps44
          go_wp2
          go_ret
          exact ⟨rfl, rfl⟩
        · have d3 : (e == 0) = false := by simpa using c3
          have dn3 : (e != 0) = true := by simpa using c3
          by_cases c4 : m = 0
          · subst c4
            obtain rfl : 3 = q := by rw [← hq]; simp [ansR, pubR, askedR, givR, c0, c3]
            clear hq hp hm c0 c3
            go_enter Try.func44, Try.ntmps44
            go_wp2
            go_ret
            exact ⟨rfl, rfl⟩
          · have d4 : (m == 0) = false := by simpa using c4
            have dn4 : (m != 0) = true := by simpa using c4
            obtain rfl : m = q := by rw [← hq]; simp [ansR, pubR, askedR, givR, c0, c3, c4]
            clear hq hp hm c0 c3 c4
            go_enter Try.func44, Try.ntmps44
            go_wp2
            go_ret
            exact ⟨rfl, rfl⟩
      · have d2 : (op == 1) = false := by simpa using c2
        have dn2 : (op != 1) = true := by simpa using c2
        obtain rfl : m = q := by rw [← hq]; simp [ansR, pubR, askedR, givR, c0, c2]
        clear hq hp hm c0 c2
        go_enter Try.func44, Try.ntmps44
        go_wp2
        go_ret
        exact ⟨rfl, rfl⟩
    · have d1 : (ph == 2) = false := by simpa using c1
      have dn1 : (ph != 2) = true := by simpa using c1
      by_cases c2 : ph = 3
      · subst c2
        by_cases c3 : op = 1
        · subst c3
          by_cases c4 : e = 0
          · subst c4
            by_cases c5 : m = 0
            · subst c5
              obtain rfl : 1 = q := by rw [← hq]; simp [ansR, pubR, askedR, givR, c0, c1]
              clear hq hp hm c0 c1
              go_enter Try.func44, Try.ntmps44
              go_wp2
              go_ret
              exact ⟨rfl, rfl⟩
            · have d5 : (m == 0) = false := by simpa using c5
              have dn5 : (m != 0) = true := by simpa using c5
              by_cases c6 : m = 3
              · subst c6
                obtain rfl : 1 = q := by rw [← hq]; simp [ansR, pubR, askedR, givR, c0, c1, c5]
                clear hq hp hm c0 c1 c5
                go_enter Try.func44, Try.ntmps44
                go_wp2
                go_ret
                exact ⟨rfl, rfl⟩
              · have d6 : (m == 3) = false := by simpa using c6
                have dn6 : (m != 3) = true := by simpa using c6
                by_cases c7 : m = 1
                · subst c7
                  obtain rfl : 1 = q := by rw [← hq]; simp [ansR, pubR, askedR, givR, c0, c1, c5, c6]
                  clear hq hp hm c0 c1 c5 c6
                  go_enter Try.func44, Try.ntmps44
                  go_wp2
                  go_ret
                  exact ⟨rfl, rfl⟩
                · have d7 : (m == 1) = false := by simpa using c7
                  have dn7 : (m != 1) = true := by simpa using c7
                  by_cases c8 : m = 2
                  · subst c8
                    obtain rfl : 2 = q := by rw [← hq]; simp [ansR, pubR, askedR, givR, c0, c1, c5, c6, c7]
                    clear hq hp hm c0 c1 c5 c6 c7
                    go_enter Try.func44, Try.ntmps44
                    go_wp2
                    go_ret
                    exact ⟨rfl, rfl⟩
                  · have d8 : (m == 2) = false := by simpa using c8
                    have dn8 : (m != 2) = true := by simpa using c8
                    omega
          · have d4 : (e == 0) = false := by simpa using c4
            have dn4 : (e != 0) = true := by simpa using c4
            by_cases c5 : e = 61
            · subst c5
              obtain rfl : 2 = q := by rw [← hq]; simp [ansR, pubR, askedR, givR, c0, c1, c4]
              clear hq hp hm c0 c1 c4
              go_enter Try.func44, Try.ntmps44
              go_wp2
              go_ret
              exact ⟨rfl, rfl⟩
            · have d5 : (e == 61) = false := by simpa using c5
              have dn5 : (e != 61) = true := by simpa using c5
              by_cases c6 : m = 0
              · subst c6
                obtain rfl : 3 = q := by rw [← hq]; simp [ansR, pubR, askedR, givR, c0, c1, c4, c5]
                clear hq hp hm c0 c1 c4 c5
                go_enter Try.func44, Try.ntmps44
                go_wp2
                go_ret
                exact ⟨rfl, rfl⟩
              · have d6 : (m == 0) = false := by simpa using c6
                have dn6 : (m != 0) = true := by simpa using c6
                by_cases c7 : m = 2
                · subst c7
                  obtain rfl : 2 = q := by rw [← hq]; simp [ansR, pubR, askedR, givR, c0, c1, c4, c5, c6]
                  clear hq hp hm c0 c1 c4 c5 c6
                  go_enter Try.func44, Try.ntmps44
                  go_wp2
                  go_ret
                  exact ⟨rfl, rfl⟩
                · have d7 : (m == 2) = false := by simpa using c7
                  have dn7 : (m != 2) = true := by simpa using c7
                  obtain rfl : m = q := by rw [← hq]; simp [ansR, pubR, askedR, givR, c0, c1, c4, c5, c6, c7]
                  clear hq hp hm c0 c1 c4 c5 c6 c7
                  go_enter Try.func44, Try.ntmps44
                  go_wp2
                  go_ret
                  exact ⟨rfl, rfl⟩
        · have d3 : (op == 1) = false := by simpa using c3
          have dn3 : (op != 1) = true := by simpa using c3
          by_cases c4 : op = 2
          · subst c4
            by_cases c5 : e = 0
            · subst c5
              obtain rfl : 2 = q := by rw [← hq]; simp [ansR, pubR, askedR, givR, c0, c1, c3]
              clear hq hp hm c0 c1 c3
              go_enter Try.func44, Try.ntmps44
              go_wp2
              go_ret
              exact ⟨rfl, rfl⟩
            · have d5 : (e == 0) = false := by simpa using c5
              have dn5 : (e != 0) = true := by simpa using c5
              by_cases c6 : e = 61
              · subst c6
                obtain rfl : 2 = q := by rw [← hq]; simp [ansR, pubR, askedR, givR, c0, c1, c3, c5]
                clear hq hp hm c0 c1 c3 c5
                go_enter Try.func44, Try.ntmps44
                go_wp2
                go_ret
                exact ⟨rfl, rfl⟩
              · have d6 : (e == 61) = false := by simpa using c6
                have dn6 : (e != 61) = true := by simpa using c6
                by_cases c7 : e = 60
                · subst c7
                  by_cases c8 : m = 1
                  · subst c8
                    obtain rfl : 0 = q := by rw [← hq]; simp [ansR, pubR, askedR, givR, c0, c1, c3, c5, c6]
                    clear hq hp hm c0 c1 c3 c5 c6
                    go_enter Try.func44, Try.ntmps44
                    go_wp2
                    go_ret
                    exact ⟨rfl, rfl⟩
                  · have d8 : (m == 1) = false := by simpa using c8
                    have dn8 : (m != 1) = true := by simpa using c8
                    obtain rfl : m = q := by rw [← hq]; simp [ansR, pubR, askedR, givR, c0, c1, c3, c5, c6, c8]
                    clear hq hp hm c0 c1 c3 c5 c6 c8
                    go_enter Try.func44, Try.ntmps44
                    go_wp2
                    go_ret
                    exact ⟨rfl, rfl⟩
                · have d7 : (e == 60) = false := by simpa using c7
                  have dn7 : (e != 60) = true := by simpa using c7
                  obtain rfl : m = q := by rw [← hq]; simp [ansR, pubR, askedR, givR, c0, c1, c3, c5, c6, c7]
                  clear hq hp hm c0 c1 c3 c5 c6 c7
                  go_enter Try.func44, Try.ntmps44
                  go_wp2
                  go_ret
                  exact ⟨rfl, rfl⟩
          · have d4 : (op == 2) = false := by simpa using c4
            have dn4 : (op != 2) = true := by simpa using c4
            obtain rfl : m = q := by rw [← hq]; simp [ansR, pubR, askedR, givR, c0, c1, c3, c4]
            clear hq hp hm c0 c1 c3 c4
            go_enter Try.func44, Try.ntmps44
            go_wp2
            go_ret
            exact ⟨rfl, rfl⟩
      · have d2 : (ph == 3) = false := by simpa using c2
        have dn2 : (ph != 3) = true := by simpa using c2
        by_cases c3 : ph = 5
        · subst c3
          by_cases c4 : op = 1
          · subst c4
            by_cases c5 : e = 0
            · subst c5
              obtain rfl : 1 = q := by rw [← hq]; simp [ansR, pubR, askedR, givR, c0, c1, c2]
              clear hq hp hm c0 c1 c2
              go_enter Try.func44, Try.ntmps44
              go_wp2
              go_ret
              exact ⟨rfl, rfl⟩
            · have d5 : (e == 0) = false := by simpa using c5
              have dn5 : (e != 0) = true := by simpa using c5
              obtain rfl : m = q := by rw [← hq]; simp [ansR, pubR, askedR, givR, c0, c1, c2, c5]
              clear hq hp hm c0 c1 c2 c5
              go_enter Try.func44, Try.ntmps44
              go_wp2
              go_ret
              exact ⟨rfl, rfl⟩
          · have d4 : (op == 1) = false := by simpa using c4
            have dn4 : (op != 1) = true := by simpa using c4
            by_cases c5 : op = 3
            · subst c5
              by_cases c6 : e = 0
              · subst c6
                obtain rfl : 4 = q := by rw [← hq]; simp [ansR, pubR, askedR, givR, c0, c1, c2, c4]
                clear hq hp hm c0 c1 c2 c4
                go_enter Try.func44, Try.ntmps44
                go_wp2
                go_ret
                exact ⟨rfl, rfl⟩
              · have d6 : (e == 0) = false := by simpa using c6
                have dn6 : (e != 0) = true := by simpa using c6
                by_cases c7 : e = 61
                · subst c7
                  obtain rfl : 4 = q := by rw [← hq]; simp [ansR, pubR, askedR, givR, c0, c1, c2, c4, c6]
                  clear hq hp hm c0 c1 c2 c4 c6
                  go_enter Try.func44, Try.ntmps44
                  go_wp2
                  go_ret
                  exact ⟨rfl, rfl⟩
                · have d7 : (e == 61) = false := by simpa using c7
                  have dn7 : (e != 61) = true := by simpa using c7
                  obtain rfl : m = q := by rw [← hq]; simp [ansR, pubR, askedR, givR, c0, c1, c2, c4, c6, c7]
                  clear hq hp hm c0 c1 c2 c4 c6 c7
                  go_enter Try.func44, Try.ntmps44
                  go_wp2
                  go_ret
                  exact ⟨rfl, rfl⟩
            · have d5 : (op == 3) = false := by simpa using c5
              have dn5 : (op != 3) = true := by simpa using c5
              obtain rfl : m = q := by rw [← hq]; simp [ansR, pubR, askedR, givR, c0, c1, c2, c4, c5]
              clear hq hp hm c0 c1 c2 c4 c5
              go_enter Try.func44, Try.ntmps44
              go_wp2
              go_ret
              exact ⟨rfl, rfl⟩
        · have d3 : (ph == 5) = false := by simpa using c3
          have dn3 : (ph != 5) = true := by simpa using c3
          have d9 : decide (ph ≤ 2) = false := decide_eq_false (by omega)
          obtain rfl : m = q := by rw [← hq]; simp [ansR, pubR, askedR, givR, c0, c1, c2, c3]
          clear hq hp hm c0 c1 c2 c3
          go_enter Try.func44, Try.ntmps44
          go_wp2
          go_ret
          exact ⟨rfl, rfl⟩
set_option maxHeartbeats 2000000 in
theorem rwants_is (s v need ph : Int) {A : Option Addr} {n c : Nat} {ms : List Int} (h : RdV w A n (ms.map IV)) (hn : n ≤ 1000000) {l : List (Int × Int)} (hl : Rn.wants ⟨s, v, need, ph, ms⟩ = l) : Calls Try.prog 30 #[.agg #[.int .i64 s, .int .i64 v, .int .i64 need, .int .i64 ph, .slice A n c]] w (WantsO w l) := by
  have hln : ms.length = n := by simpa using h.len
  obtain ⟨w1, hw1⟩ : ∃ z, w.alloc (.cells #[.int .i64 s, .int .i64 v, .int .i64 need, .int .i64 ph, .slice A n c] 26) = z := ⟨_, rfl⟩
  obtain ⟨hb1, hx1⟩ := box_new hw1
  obtain ⟨b, hb⟩ : ∃ b, w.heap.size = b := ⟨_, rfl⟩
  rw [hb] at hx1
  have hr1 := Lib.hid (h.below hb1 (Nat.le_refl _))
  have HB1 := Lib.hid hb1
  have HX1 := Lib.hid hx1
  obtain ⟨⟨m0, m1, m2, m3, m4⟩, hbl⟩ := five26 hx1
  clear h hb1 hx1
  by_cases hR : RightR ⟨s, v, need, ph, ms⟩
  · have kR := Lib.hid (decide_eq_true hR)
    have HL : Hid (wantsL ph 0 ms = l) := by
      show _ = _
      rw [← hl]
      unfold Rn.wants
      rw [if_pos hR]
    have HPM : Hid (∀ m ∈ ms, (0 ≤ m ∧ m ≤ 4) ∧ (ph = 3 → m ≠ 4)) := fun m hm => ⟨hR.2.1 m hm, fun hp e => by
      have h3 := hR.2.2
      unfold PhOk at h3
      have := cnt_mem (e ▸ hm)
      simp only at h3
      omega⟩
    have HP6 : Hid (ph = 1 ∨ ph = 2 ∨ ph = 3 ∨ ph = 4 ∨ ph = 5 ∨ ph = 6) := hR.ph6
    clear hR hl
    go_enter Try.func30, Try.ntmps30
    go_wp2_with fail
    (try rw [hw1]); (try rw [hb])
    refine (rright_is _ s v need ph hr1.out hn kR.out).mono ?_
    rintro e w2 ⟨rfl, hb2⟩
    have HB2 := Lib.hid (HB1.out.trans (hb2.mono HB1.out.size))
    have HX2 := Lib.hid ((hb2.block _ (lt_of_block HX1.out)).trans HX1.out)
    have HR2 := Lib.hid (hr1.out.below hb2 (Nat.le_refl _))
    obtain ⟨⟨f0, f1, f2, f3, f4⟩, hbl2⟩ := five26 HX2.out
    clear hb2 m0 m1 m2 m3 m4 hbl HX1 hr1 HB1 hw1 hb
    go_wp2_with fail
    go_loopg [3, 4, 5] n (fun kx s3 s4 _ wr => ∃ (j : Nat) (X : Option Addr) (m cx : Nat), j ≤ n ∧ n - j ≤ kx ∧ m ≤ j ∧ s4 = .int .i64 j ∧ s3 = .slice X m cx ∧ Hid (m = (wantsL ph 0 (ms.take j)).length) ∧ Hid (OwnK wr w2.heap.size 60 2 X m cx (wcs (wantsL ph 0 (ms.take j)))) ∧ Hid (Below w2.heap.size w2 wr))
    case atStart => exact ⟨0, none, 0, 0, by omega, by omega, by omega, rfl, rfl, (by simp [wantsL] : 0 = (wantsL ph 0 (ms.take 0)).length), (by simpa [wantsL, wcs] using OwnK.nil _ _ _ _ : OwnK w2 w2.heap.size 60 2 none 0 0 (wcs (wantsL ph 0 (ms.take 0)))), (Below.refl _ _ : Below w2.heap.size w2 w2)⟩
    case round =>
      obtain ⟨j, X, m, cx, hj, hkx, hmj, rfl, rfl, HM, HO, HW⟩ := hrel
      obtain ⟨⟨f0, f1, f2, f3, f4⟩, hbl3⟩ := five26 ((HW.out.block _ (lt_of_block HX2.out)).trans HX2.out)
      by_cases hlt : j < n
      · obtain ⟨y, hy⟩ : ∃ y, ms[j]? = some y := ⟨_, List.getElem?_eq_getElem (by rw [hln]; exact hlt)⟩
        obtain ⟨ad, hA, hadl, hxc⟩ := (HR2.out.below HW.out (Nat.le_refl _)).cells (by omega)
        have e0 := hxc j (IV y) (by rw [List.getElem?_map, hy]; rfl)
        subst hA
        have hi1 : (0 : Int) ≤ (j : Int) := by omega
        have hi2 : (j : Int) < (n : Int) := by omega
        have hw1 : IntKind.i64.wrap ((j : Int) + 1) = (j : Int) + 1 := IntWalk.i64_in _ (by omega)
        have hyb := HPM.out y (List.mem_of_getElem? hy)
        have hp6 := HP6.out
        have HT := Lib.hid (And.intro hy hlt)
        have HS := Lib.hid (show wantsL ph 0 (ms.take (j + 1)) = wantsL ph 0 (ms.take j) ++ wantsL ph j [y] by rw [take_snoc hy, wantsL_append]; congr 1; rw [List.length_take, hln]; congr 1; omega)
        clear hy hlt hadl hxc
        rcases hp6 with hp6 | hp6 | hp6 | hp6 | hp6 | hp6
        · subst hp6
          clear hyb
          by_cases y0 : y = 0
          · subst y0
            have HWR : Hid (wantR 1 0 = 1) := by show _ = _; simp [wantR]
            have HS2 : Hid (wantsL 1 0 (ms.take (j + 1)) = wantsL 1 0 (ms.take j) ++ [((j : Int), 1)]) := by
              show _ = _
              rw [HS.out]
              simp only [wantsL]
              rw [HWR.out, if_neg (by decide)]
            clear HS
            go_wp2_with (at_builtin; refine wpList_appK _ rfl (.tmp 42) (.tmp 45) _ rfl w2.heap.size 60 2 (.agg #[.int .i64 0, .int .u8 0]) 16 Try.underlying41 info60 rfl (by omega) rfl (HO.out.below ((Below.refl _ _).alloc (Nat.le_refl _) _) (Nat.le_refl _)) rfl (m := 1) (RdV.new _ [.int .i64 j, .int .u8 1] 60 (0, 0)) (by omega) (by intro u hu; simp at hu; rcases hu with rfl | rfl <;> rfl) (by omega) (by omega) (Nat.le_trans HW.out.size (by simp)) (m + 1) rfl ?_; intro A' c' w7 ho hg hat; have hbw7 : Below w2.heap.size w2 w7 := (HW.out.alloc HW.out.size _).grown hg (by have := HW.out.size; simp; omega) (fun k hk => (HO.out.block k hk).1); obtain ⟨⟨h0, h1, h2, h3, h4⟩, hbl7⟩ := five26 ((hbw7.block _ (lt_of_block HX2.out)).trans HX2.out))
            have HO7 : Hid (OwnK w7 w2.heap.size 60 2 A' (m + 1) c' (wcs (wantsL 1 0 (ms.take (j + 1))))) := by
              show OwnK _ _ _ _ _ _ _ _
              rw [HS2.out, wcs_append]
              exact ho
            have HW7 : Hid (Below w2.heap.size w2 w7) := hbw7
            clear ho hg hat
            have HM7 : Hid (m + 1 = (wantsL 1 0 (ms.take (j + 1))).length) := by
              show _ = _
              rw [HS2.out, List.length_append, ← HM.out]
              rfl
            go_roundg (n - (j + 1))
            case measure => omega
            case rel => exact ⟨j + 1, A', m + 1, c', by have := HT.out.2; omega, by omega, by omega, by go_num, rfl, HM7, HO7, HW7⟩
          · have ty0 : (y == 0) = false := by simpa using y0
            have vy0 : (y != 0) = true := by simpa using y0
            have HWR : Hid (wantR 1 y = 0) := by show _ = _; simp [wantR, y0]
            clear y0
            have HS2 : Hid (wantsL 1 0 (ms.take (j + 1)) = wantsL 1 0 (ms.take j)) := by
              show _ = _
              rw [HS.out]
              simp only [wantsL]
              rw [HWR.out, if_pos rfl, List.append_nil]
            clear HS
            go_wp2
            go_roundg (n - (j + 1))
            case measure => omega
            case rel => exact ⟨j + 1, X, m, cx, by have := HT.out.2; omega, by omega, by omega, by go_num, rfl, by rw [HS2.out]; exact HM, by rw [HS2.out]; exact HO, HW⟩
        · subst hp6
          clear hyb
          by_cases y0 : y = 0
          · subst y0
            have HWR : Hid (wantR 2 0 = 1) := by show _ = _; simp [wantR]
            have HS2 : Hid (wantsL 2 0 (ms.take (j + 1)) = wantsL 2 0 (ms.take j) ++ [((j : Int), 1)]) := by
              show _ = _
              rw [HS.out]
              simp only [wantsL]
              rw [HWR.out, if_neg (by decide)]
            clear HS
            go_wp2_with (at_builtin; refine wpList_appK _ rfl (.tmp 42) (.tmp 45) _ rfl w2.heap.size 60 2 (.agg #[.int .i64 0, .int .u8 0]) 16 Try.underlying41 info60 rfl (by omega) rfl (HO.out.below ((Below.refl _ _).alloc (Nat.le_refl _) _) (Nat.le_refl _)) rfl (m := 1) (RdV.new _ [.int .i64 j, .int .u8 1] 60 (0, 0)) (by omega) (by intro u hu; simp at hu; rcases hu with rfl | rfl <;> rfl) (by omega) (by omega) (Nat.le_trans HW.out.size (by simp)) (m + 1) rfl ?_; intro A' c' w7 ho hg hat; have hbw7 : Below w2.heap.size w2 w7 := (HW.out.alloc HW.out.size _).grown hg (by have := HW.out.size; simp; omega) (fun k hk => (HO.out.block k hk).1); obtain ⟨⟨h0, h1, h2, h3, h4⟩, hbl7⟩ := five26 ((hbw7.block _ (lt_of_block HX2.out)).trans HX2.out))
            have HO7 : Hid (OwnK w7 w2.heap.size 60 2 A' (m + 1) c' (wcs (wantsL 2 0 (ms.take (j + 1))))) := by
              show OwnK _ _ _ _ _ _ _ _
              rw [HS2.out, wcs_append]
              exact ho
            have HW7 : Hid (Below w2.heap.size w2 w7) := hbw7
            clear ho hg hat
            have HM7 : Hid (m + 1 = (wantsL 2 0 (ms.take (j + 1))).length) := by
              show _ = _
              rw [HS2.out, List.length_append, ← HM.out]
              rfl
            go_roundg (n - (j + 1))
            case measure => omega
            case rel => exact ⟨j + 1, A', m + 1, c', by have := HT.out.2; omega, by omega, by omega, by go_num, rfl, HM7, HO7, HW7⟩
          · have ty0 : (y == 0) = false := by simpa using y0
            have vy0 : (y != 0) = true := by simpa using y0
            have HWR : Hid (wantR 2 y = 0) := by show _ = _; simp [wantR, y0]
            clear y0
            have HS2 : Hid (wantsL 2 0 (ms.take (j + 1)) = wantsL 2 0 (ms.take j)) := by
              show _ = _
              rw [HS.out]
              simp only [wantsL]
              rw [HWR.out, if_pos rfl, List.append_nil]
            clear HS
            go_wp2
            go_roundg (n - (j + 1))
            case measure => omega
            case rel => exact ⟨j + 1, X, m, cx, by have := HT.out.2; omega, by omega, by omega, by go_num, rfl, by rw [HS2.out]; exact HM, by rw [HS2.out]; exact HO, HW⟩
        · subst hp6
          have hy4 : y = 0 ∨ y = 1 ∨ y = 2 ∨ y = 3 := by have := hyb.2 rfl; omega
          clear hyb
          rcases hy4 with hy4 | hy4 | hy4 | hy4
          · subst hy4
            have HWR : Hid (wantR 3 0 = 1) := by show _ = _; simp [wantR]
            have HS2 : Hid (wantsL 3 0 (ms.take (j + 1)) = wantsL 3 0 (ms.take j) ++ [((j : Int), 1)]) := by
              show _ = _
              rw [HS.out]
              simp only [wantsL]
              rw [HWR.out, if_neg (by decide)]
            clear HS
            go_wp2_with (at_builtin; refine wpList_appK _ rfl (.tmp 42) (.tmp 45) _ rfl w2.heap.size 60 2 (.agg #[.int .i64 0, .int .u8 0]) 16 Try.underlying41 info60 rfl (by omega) rfl (HO.out.below ((Below.refl _ _).alloc (Nat.le_refl _) _) (Nat.le_refl _)) rfl (m := 1) (RdV.new _ [.int .i64 j, .int .u8 1] 60 (0, 0)) (by omega) (by intro u hu; simp at hu; rcases hu with rfl | rfl <;> rfl) (by omega) (by omega) (Nat.le_trans HW.out.size (by simp)) (m + 1) rfl ?_; intro A' c' w7 ho hg hat; have hbw7 : Below w2.heap.size w2 w7 := (HW.out.alloc HW.out.size _).grown hg (by have := HW.out.size; simp; omega) (fun k hk => (HO.out.block k hk).1); obtain ⟨⟨h0, h1, h2, h3, h4⟩, hbl7⟩ := five26 ((hbw7.block _ (lt_of_block HX2.out)).trans HX2.out))
            have HO7 : Hid (OwnK w7 w2.heap.size 60 2 A' (m + 1) c' (wcs (wantsL 3 0 (ms.take (j + 1))))) := by
              show OwnK _ _ _ _ _ _ _ _
              rw [HS2.out, wcs_append]
              exact ho
            have HW7 : Hid (Below w2.heap.size w2 w7) := hbw7
            clear ho hg hat
            have HM7 : Hid (m + 1 = (wantsL 3 0 (ms.take (j + 1))).length) := by
              show _ = _
              rw [HS2.out, List.length_append, ← HM.out]
              rfl
            go_roundg (n - (j + 1))
            case measure => omega
            case rel => exact ⟨j + 1, A', m + 1, c', by have := HT.out.2; omega, by omega, by omega, by go_num, rfl, HM7, HO7, HW7⟩
          · subst hy4
            have HWR : Hid (wantR 3 1 = 2) := by show _ = _; simp [wantR]
            have HS2 : Hid (wantsL 3 0 (ms.take (j + 1)) = wantsL 3 0 (ms.take j) ++ [((j : Int), 2)]) := by
              show _ = _
              rw [HS.out]
              simp only [wantsL]
              rw [HWR.out, if_neg (by decide)]
            clear HS
            go_wp2_with (at_builtin; refine wpList_appK _ rfl (.tmp 54) (.tmp 57) _ rfl w2.heap.size 60 2 (.agg #[.int .i64 0, .int .u8 0]) 16 Try.underlying41 info60 rfl (by omega) rfl (HO.out.below ((Below.refl _ _).alloc (Nat.le_refl _) _) (Nat.le_refl _)) rfl (m := 1) (RdV.new _ [.int .i64 j, .int .u8 2] 60 (0, 0)) (by omega) (by intro u hu; simp at hu; rcases hu with rfl | rfl <;> rfl) (by omega) (by omega) (Nat.le_trans HW.out.size (by simp)) (m + 1) rfl ?_; intro A' c' w7 ho hg hat; have hbw7 : Below w2.heap.size w2 w7 := (HW.out.alloc HW.out.size _).grown hg (by have := HW.out.size; simp; omega) (fun k hk => (HO.out.block k hk).1); obtain ⟨⟨h0, h1, h2, h3, h4⟩, hbl7⟩ := five26 ((hbw7.block _ (lt_of_block HX2.out)).trans HX2.out))
            have HO7 : Hid (OwnK w7 w2.heap.size 60 2 A' (m + 1) c' (wcs (wantsL 3 0 (ms.take (j + 1))))) := by
              show OwnK _ _ _ _ _ _ _ _
              rw [HS2.out, wcs_append]
              exact ho
            have HW7 : Hid (Below w2.heap.size w2 w7) := hbw7
            clear ho hg hat
            have HM7 : Hid (m + 1 = (wantsL 3 0 (ms.take (j + 1))).length) := by
              show _ = _
              rw [HS2.out, List.length_append, ← HM.out]
              rfl
            go_roundg (n - (j + 1))
            case measure => omega
            case rel => exact ⟨j + 1, A', m + 1, c', by have := HT.out.2; omega, by omega, by omega, by go_num, rfl, HM7, HO7, HW7⟩
          · subst hy4
            have HWR : Hid (wantR 3 2 = 0) := by show _ = _; simp [wantR]
            have HS2 : Hid (wantsL 3 0 (ms.take (j + 1)) = wantsL 3 0 (ms.take j)) := by
              show _ = _
              rw [HS.out]
              simp only [wantsL]
              rw [HWR.out, if_pos rfl, List.append_nil]
            clear HS
            go_wp2
            go_roundg (n - (j + 1))
            case measure => omega
            case rel => exact ⟨j + 1, X, m, cx, by have := HT.out.2; omega, by omega, by omega, by go_num, rfl, by rw [HS2.out]; exact HM, by rw [HS2.out]; exact HO, HW⟩
          · subst hy4
            have HWR : Hid (wantR 3 3 = 1) := by show _ = _; simp [wantR]
            have HS2 : Hid (wantsL 3 0 (ms.take (j + 1)) = wantsL 3 0 (ms.take j) ++ [((j : Int), 1)]) := by
              show _ = _
              rw [HS.out]
              simp only [wantsL]
              rw [HWR.out, if_neg (by decide)]
            clear HS
            go_wp2_with (at_builtin; refine wpList_appK _ rfl (.tmp 42) (.tmp 45) _ rfl w2.heap.size 60 2 (.agg #[.int .i64 0, .int .u8 0]) 16 Try.underlying41 info60 rfl (by omega) rfl (HO.out.below ((Below.refl _ _).alloc (Nat.le_refl _) _) (Nat.le_refl _)) rfl (m := 1) (RdV.new _ [.int .i64 j, .int .u8 1] 60 (0, 0)) (by omega) (by intro u hu; simp at hu; rcases hu with rfl | rfl <;> rfl) (by omega) (by omega) (Nat.le_trans HW.out.size (by simp)) (m + 1) rfl ?_; intro A' c' w7 ho hg hat; have hbw7 : Below w2.heap.size w2 w7 := (HW.out.alloc HW.out.size _).grown hg (by have := HW.out.size; simp; omega) (fun k hk => (HO.out.block k hk).1); obtain ⟨⟨h0, h1, h2, h3, h4⟩, hbl7⟩ := five26 ((hbw7.block _ (lt_of_block HX2.out)).trans HX2.out))
            have HO7 : Hid (OwnK w7 w2.heap.size 60 2 A' (m + 1) c' (wcs (wantsL 3 0 (ms.take (j + 1))))) := by
              show OwnK _ _ _ _ _ _ _ _
              rw [HS2.out, wcs_append]
              exact ho
            have HW7 : Hid (Below w2.heap.size w2 w7) := hbw7
            clear ho hg hat
            have HM7 : Hid (m + 1 = (wantsL 3 0 (ms.take (j + 1))).length) := by
              show _ = _
              rw [HS2.out, List.length_append, ← HM.out]
              rfl
            go_roundg (n - (j + 1))
            case measure => omega
            case rel => exact ⟨j + 1, A', m + 1, c', by have := HT.out.2; omega, by omega, by omega, by go_num, rfl, HM7, HO7, HW7⟩
        · subst hp6
          clear hyb
          have HWR : Hid (wantR 4 y = 0) := by show _ = _; simp [wantR]
          have HS2 : Hid (wantsL 4 0 (ms.take (j + 1)) = wantsL 4 0 (ms.take j)) := by
            show _ = _
            rw [HS.out]
            simp only [wantsL]
            rw [HWR.out, if_pos rfl, List.append_nil]
          clear HS
          go_wp2
          go_roundg (n - (j + 1))
          case measure => omega
          case rel => exact ⟨j + 1, X, m, cx, by have := HT.out.2; omega, by omega, by omega, by go_num, rfl, by rw [HS2.out]; exact HM, by rw [HS2.out]; exact HO, HW⟩
        · subst hp6
          clear hyb
          by_cases y4 : y = 4
          · subst y4
            have HWR : Hid (wantR 5 4 = 0) := by show _ = _; simp [wantR]
            have HS2 : Hid (wantsL 5 0 (ms.take (j + 1)) = wantsL 5 0 (ms.take j)) := by
              show _ = _
              rw [HS.out]
              simp only [wantsL]
              rw [HWR.out, if_pos rfl, List.append_nil]
            clear HS
            go_wp2
            go_roundg (n - (j + 1))
            case measure => omega
            case rel => exact ⟨j + 1, X, m, cx, by have := HT.out.2; omega, by omega, by omega, by go_num, rfl, by rw [HS2.out]; exact HM, by rw [HS2.out]; exact HO, HW⟩
          · have ty4 : (y == 4) = false := by simpa using y4
            have vy4 : (y != 4) = true := by simpa using y4
            have HWR : Hid (wantR 5 y = 3) := by show _ = _; simp [wantR, y4]
            clear y4
            have HS2 : Hid (wantsL 5 0 (ms.take (j + 1)) = wantsL 5 0 (ms.take j) ++ [((j : Int), 3)]) := by
              show _ = _
              rw [HS.out]
              simp only [wantsL]
              rw [HWR.out, if_neg (by decide)]
            clear HS
            go_wp2_with (at_builtin; refine wpList_appK _ rfl (.tmp 66) (.tmp 69) _ rfl w2.heap.size 60 2 (.agg #[.int .i64 0, .int .u8 0]) 16 Try.underlying41 info60 rfl (by omega) rfl (HO.out.below ((Below.refl _ _).alloc (Nat.le_refl _) _) (Nat.le_refl _)) rfl (m := 1) (RdV.new _ [.int .i64 j, .int .u8 3] 60 (0, 0)) (by omega) (by intro u hu; simp at hu; rcases hu with rfl | rfl <;> rfl) (by omega) (by omega) (Nat.le_trans HW.out.size (by simp)) (m + 1) rfl ?_; intro A' c' w7 ho hg hat; have hbw7 : Below w2.heap.size w2 w7 := (HW.out.alloc HW.out.size _).grown hg (by have := HW.out.size; simp; omega) (fun k hk => (HO.out.block k hk).1); obtain ⟨⟨h0, h1, h2, h3, h4⟩, hbl7⟩ := five26 ((hbw7.block _ (lt_of_block HX2.out)).trans HX2.out))
            have HO7 : Hid (OwnK w7 w2.heap.size 60 2 A' (m + 1) c' (wcs (wantsL 5 0 (ms.take (j + 1))))) := by
              show OwnK _ _ _ _ _ _ _ _
              rw [HS2.out, wcs_append]
              exact ho
            have HW7 : Hid (Below w2.heap.size w2 w7) := hbw7
            clear ho hg hat
            have HM7 : Hid (m + 1 = (wantsL 5 0 (ms.take (j + 1))).length) := by
              show _ = _
              rw [HS2.out, List.length_append, ← HM.out]
              rfl
            go_roundg (n - (j + 1))
            case measure => omega
            case rel => exact ⟨j + 1, A', m + 1, c', by have := HT.out.2; omega, by omega, by omega, by go_num, rfl, HM7, HO7, HW7⟩
        · subst hp6
          clear hyb
          have HWR : Hid (wantR 6 y = 0) := by show _ = _; simp [wantR]
          have HS2 : Hid (wantsL 6 0 (ms.take (j + 1)) = wantsL 6 0 (ms.take j)) := by
            show _ = _
            rw [HS.out]
            simp only [wantsL]
            rw [HWR.out, if_pos rfl, List.append_nil]
          clear HS
          go_wp2
          go_roundg (n - (j + 1))
          case measure => omega
          case rel => exact ⟨j + 1, X, m, cx, by have := HT.out.2; omega, by omega, by omega, by go_num, rfl, by rw [HS2.out]; exact HM, by rw [HS2.out]; exact HO, HW⟩
      · have hjn : j = n := by omega
        have hi2 : ¬ (j : Int) < (n : Int) := by omega
        have HF : Hid (ms.take j = ms) := List.take_of_length_le (by rw [hln]; omega)
        go_wp2
        go_ret
        rw [HF.out] at HM HO
        rw [HL.out] at HM HO
        have hm := HM.out
        subst hm
        exact ⟨X, cx, rfl, HO.out.lower' HB2.out.size, HB2.out.trans (HW.out.mono HB2.out.size)⟩
  · have kR := Lib.hid (decide_eq_false hR)
    have HL : Hid ([] = l) := by
      show _ = _
      rw [← hl]
      unfold Rn.wants
      rw [if_neg hR]
    clear hR hl
    go_enter Try.func30, Try.ntmps30
    go_wp2_with fail
    (try rw [hw1]); (try rw [hb])
    refine (rright_is _ s v need ph hr1.out hn kR.out).mono ?_
    rintro e w2 ⟨rfl, hb2⟩
    have HB2 := Lib.hid (HB1.out.trans (hb2.mono HB1.out.size))
    clear hb2
    go_wp2
    go_ret
    have hl := HL.out
    subst hl
    exact ⟨none, 0, rfl, OwnK.nil _ _ _ _, HB2.out⟩
end
end Go.Proofs.Ytciihebaameccaa
