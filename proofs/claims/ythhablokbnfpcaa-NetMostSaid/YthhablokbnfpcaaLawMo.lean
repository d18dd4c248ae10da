/- The law NetMost. -/
import Derived.Test.YthhablokbnfpcaaAwk
import Derived.Test.YthhablokbnfpcaaMostP
namespace Go.Proofs.Ythhablokbnfpcaa
open Go.RowKit Go.Coop Go.Maps
set_option maxRecDepth 100000
theorem most_law (m y : Nat) (hm : m < 256) (hy : y < 256) (w : World) : Calls Try.prog 9 #[.int .u8 (m : Int), .int .u8 (y : Int)] w (Awake w) := by
  obtain ⟨k0, hk0, hmz⟩ : ∃ k0 : Nat, k0 < 40 ∧ (m : Int) % 40 = (k0 : Int) := ⟨m % 40, by omega, by omega⟩
  obtain ⟨k, hk1, hk40, hkz⟩ : ∃ k : Nat, 1 ≤ k ∧ k ≤ 40 ∧ (1 : Int) + (k0 : Int) = (k : Int) := ⟨k0 + 1, by omega, by omega, by omega⟩
  have hb1 : (0 : Int) ≤ (k0 : Int) := by omega
  have hb2 : (k0 : Int) < 40 := by omega
  have HK := Lib.hid (And.intro hk1 hk40)
  clear hm hk0 hk1 hk40
  go_enter Try.func9, Try.ntmps9
  go_wp2_with fail
  refine (nt_new _ 2 k (by decide) (by decide) HK.out.1 (by have := HK.out.2; omega)).mono ?_
  rintro e w1 ⟨g, c, rfl, hN, hb⟩
  have HN1 := Lib.hid hN
  have HB1 := Lib.hid hb
  clear hN hb
  go_wp2
  go_loopw [8] (fun i wr => ∃ j : Nat, j ≤ k ∧ i = .int .i64 j ∧ Hid (∃ S, Mst k j S ∧ Nt wr w.heap.size g c S ∧ Below w.heap.size w wr)) (fun i _ => k - (Go.RowKit.intOf i).toNat)
  case atStart => exact ⟨0, by omega, rfl, _, Mst.new k, HN1.out, HB1.out⟩
  case round =>
    obtain ⟨j, hj, rfl, HR⟩ := hrel
    clear HN1 HB1
    by_cases hlt : j < k
    · obtain ⟨S, hM, hN, hB⟩ := HR.out
      have hi1 : (0 : Int) ≤ (j : Int) := by omega
      have hi2 : (j : Int) < (k : Int) := by omega
      have hj40 : (j : Int) < 40 := by have := HK.out.2; omega
      have HX := Lib.hid (And.intro hM (And.intro hN (And.intro hB hlt)))
      clear hM hN hB HR hlt
      obtain ⟨p, hp, hpz, hpt⟩ : ∃ p : Nat, p < 2 ∧ (j : Int) % 2 = (p : Int) ∧ j % 2 = p := ⟨j % 2, by omega, by omega, rfl⟩
      by_cases hp0 : p = 0
      · subst hp0
        clear hp hpt
        go_wp2_with fail
        have hs := HX.out.1.sends HX.out.2.2.2 HK.out.2 [UInt8.ofNat (j : Int).toNat] (by simp)
        have hb0 : Below wr.heap.size wr (wr.alloc (.cells #[.int .u8 (j : Int)] 5)) := (Below.refl _ _).alloc (Nat.le_refl _) _
        refine (nt_send _ (HX.out.2.1.alloc _) 0 1 (Rd.one wr (j : Int) hi1 (by omega) 5 (0, 0)) _ (q := 0) hs.1 rfl).mono ?_
        rintro e w4 ⟨rfl, hn, hb, hk⟩
        have HY := Lib.hid (And.intro hs.2 (And.intro hn ((HX.out.2.2.1.trans (hb0.mono HX.out.2.2.1.size)).trans hb)))
        clear hs hb0 hn hb hk
        go_wp2_with fail
        refine (nt_waiting _ HY.out.2.1 (k := 1) (by decide) (by decide) (q := (j : Int) + 1) (by rw [HY.out.1.w1]; rfl)).mono ?_
        rintro e _ ⟨rfl, rfl⟩
        go_wp2
        go_roundw
        case rel => exact ⟨j + 1, by have := HX.out.2.2.2; omega, by go_num, _, HY.out.1, HY.out.2.1, HY.out.2.2⟩
        case measure => have := HX.out.2.2.2; simp [Go.RowKit.intOf]; omega
      · obtain rfl : p = 1 := by omega
        have HP : Hid (0 < j) := Lib.hid (by omega)
        clear hp hpt hp0
        go_wp2_with fail
        have hs := HX.out.1.copies HP.out HX.out.2.2.2 HK.out.2
        refine (nt_copy _ HX.out.2.1 0 (q := 0) hs.1 rfl).mono ?_
        rintro e w4 ⟨rfl, hn, hb, hk⟩
        have HY := Lib.hid (And.intro hs.2 (And.intro hn (HX.out.2.2.1.trans hb)))
        clear hs hn hb hk
        go_wp2_with fail
        refine (nt_waiting _ HY.out.2.1 (k := 1) (by decide) (by decide) (q := (j : Int) + 1) (by rw [HY.out.1.w1]; rfl)).mono ?_
        rintro e _ ⟨rfl, rfl⟩
        go_wp2
        go_roundw
        case rel => exact ⟨j + 1, by have := HX.out.2.2.2; omega, by go_num, _, HY.out.1, HY.out.2.1, HY.out.2.2⟩
        case measure => have := HX.out.2.2.2; simp [Go.RowKit.intOf]; omega
    · obtain rfl : j = k := by omega
      obtain ⟨S, hM, hN, hB⟩ := HR.out
      have HX := Lib.hid (And.intro hM (And.intro hN hB))
      clear hM hN hB HR hlt hj
      have hj1 : (1 : Int) ≤ (j : Int) := by have := HK.out.1; omega
      have hj2 : (j : Int) ≤ 40 := by have := HK.out.2; omega
      go_wp2_with fail
      refine (nt_send _ HX.out.2.1 1 1 (Rd.nil _ none) 0 (q := 5) HX.out.1.sendNo.1 HX.out.1.sendNo.2).mono ?_
      rintro e w2 ⟨rfl, hn, hb, hk⟩
      have H2 := Lib.hid (And.intro hn (HX.out.2.2.trans hb))
      clear hn hb hk
      go_wp2_with fail
      refine (nt_copy _ H2.out.1 0 (q := 5) (HX.out.1.copyNo HK.out.1).1 (HX.out.1.copyNo HK.out.1).2).mono ?_
      rintro e w3 ⟨rfl, hn, hb, hk⟩
      have H3 := Lib.hid (And.intro hn (H2.out.2.trans hb))
      clear hn hb hk H2
      go_wp2_with fail
      refine (nt_send _ H3.out.1 1 0 (Rd.nil _ none) 0 (q := 0) (HX.out.1.sendZ HK.out.1 HK.out.2).1 (HX.out.1.sendZ HK.out.1 HK.out.2).2).mono ?_
      rintro e w4 ⟨rfl, hn, hb, hk⟩
      have H4 := Lib.hid (And.intro hn (H3.out.2.trans hb))
      clear hn hb hk H3
      obtain ⟨r, hr, hrz⟩ : ∃ r : Nat, r < 3 ∧ (y : Int) % 3 = (r : Int) := ⟨y % 3, by omega, by omega⟩
      obtain ⟨j1, hj3, HJ1⟩ : ∃ j1 : Nat, (j : Int) - 1 = (j1 : Int) ∧ Hid (j1 + 1 = j) := ⟨j - 1, by omega, Lib.hid (by have := HK.out.1; omega)⟩
      have hj4 : (j1 : Int) + 1 = (j : Int) := by omega
      by_cases hr0 : r = 0
      · subst hr0
        clear hr
        obtain ⟨d, hd, hm⟩ := HX.out.1.one (j := 0) HK.out.1 HK.out.2
        have HD := Lib.hid (And.intro hd hm)
        clear hd hm
        go_wp2_with fail
        refine (nt_take _ H4.out.1 0 HD.out.1 rfl).mono ?_
        rintro e w5 ⟨X, cx, rfl, hT, hn, hb, hk⟩
        have HZ := Lib.hid (And.intro (show Mroom j j1 ((S.laid ⟨1, 0, []⟩).drop 0) by have h0 : Mroom j (j - 1) ((S.laid ⟨1, 0, []⟩).drop 0) := HD.out.2; rwa [show j - 1 = j1 by have := HJ1.out; omega] at h0) (And.intro hn (And.intro (H4.out.2.trans hb) (show j1 < j by have := HJ1.out; omega))))
        clear hT hn hb hk
        go_wp2_with fail
        refine (nt_waiting _ HZ.out.2.1 (k := 1) (by decide) (by decide) (q := (j1 : Int)) (by rw [HZ.out.1.w1])).mono ?_
        rintro e _ ⟨rfl, rfl⟩
        go_wp2_with fail
        refine (nt_waiting _ HZ.out.2.1 (k := 0) (by decide) (by decide) (q := 1) (by rw [HZ.out.1.w0]; rfl)).mono ?_
        rintro e _ ⟨rfl, rfl⟩
        go_wp2_with fail
        refine (nt_send _ HZ.out.2.1 0 1 (Rd.nil _ none) 0 (q := 0) (HZ.out.1.more HZ.out.2.2.2 HK.out.2).1 rfl).mono ?_
        rintro e w6 ⟨rfl, hn, hb, hk⟩
        have HV := Lib.hid (And.intro hn (And.intro (HZ.out.2.2.1.trans hb) (HZ.out.1.more HZ.out.2.2.2 HK.out.2).2))
        clear hn hb hk
        go_wp2_with fail
        refine (nt_waiting _ HV.out.1 (k := 1) (by decide) (by decide) (q := (j : Int)) (by rw [HV.out.2.2]; have := HJ1.out; omega)).mono ?_
        rintro e _ ⟨rfl, rfl⟩
        go_wp2_with fail
        refine (awake_is _).mono ?_
        rintro e w7 ⟨rfl, hb⟩
        have HU := Lib.hid hb
        clear hb
        go_wp2
        go_ret
        exact ⟨rfl, HV.out.2.1.trans (HU.out.mono HV.out.2.1.size)⟩
      · by_cases hr1 : r = 1
        · subst hr1
          clear hr hr0
          obtain ⟨d, hd, hm⟩ := HX.out.1.one (j := j1) (by have := HJ1.out; omega) HK.out.2
          have HD := Lib.hid (And.intro hd hm)
          clear hd hm
          go_wp2_with fail
          refine (nt_drop _ H4.out.1 (j1 : Int) (q := true) (by rw [HD.out.1]; rfl) rfl).mono ?_
          rintro e w5 ⟨rfl, hn, hb, hk⟩
          have HZ := Lib.hid (And.intro (show Mroom j j1 _ by have := HD.out.2; rwa [show j - 1 = j1 by have := HJ1.out; omega] at this) (And.intro hn (And.intro (H4.out.2.trans hb) (show j1 < j by have := HJ1.out; omega))))
          clear hn hb hk
          go_wp2_with fail
          refine (nt_waiting _ HZ.out.2.1 (k := 1) (by decide) (by decide) (q := (j1 : Int)) (by rw [HZ.out.1.w1])).mono ?_
          rintro e _ ⟨rfl, rfl⟩
          go_wp2_with fail
          refine (nt_waiting _ HZ.out.2.1 (k := 0) (by decide) (by decide) (q := 1) (by rw [HZ.out.1.w0]; rfl)).mono ?_
          rintro e _ ⟨rfl, rfl⟩
          go_wp2_with fail
          refine (nt_send _ HZ.out.2.1 0 1 (Rd.nil _ none) 0 (q := 0) (HZ.out.1.more HZ.out.2.2.2 HK.out.2).1 rfl).mono ?_
          rintro e w6 ⟨rfl, hn, hb, hk⟩
          have HV := Lib.hid (And.intro hn (And.intro (HZ.out.2.2.1.trans hb) (HZ.out.1.more HZ.out.2.2.2 HK.out.2).2))
          clear hn hb hk
          go_wp2_with fail
          refine (nt_waiting _ HV.out.1 (k := 1) (by decide) (by decide) (q := (j : Int)) (by rw [HV.out.2.2]; have := HJ1.out; omega)).mono ?_
          rintro e _ ⟨rfl, rfl⟩
          go_wp2_with fail
          refine (awake_is _).mono ?_
          rintro e w7 ⟨rfl, hb⟩
          have HU := Lib.hid hb
          clear hb
          go_wp2
          go_ret
          exact ⟨rfl, HV.out.2.1.trans (HU.out.mono HV.out.2.1.size)⟩
        · obtain rfl : r = 2 := by omega
          clear hr hr0 hr1
          go_wp2_with fail
          refine (nt_forget _ H4.out.1 (k := 1) (by decide) (by decide) (q := (j : Int)) (by rw [(HX.out.1.z HK.out.2).1]) rfl).mono ?_
          rintro e w5 ⟨rfl, hn, hb, hk⟩
          have HZ := Lib.hid (And.intro (HX.out.1.none HK.out.2) (And.intro hn (And.intro (H4.out.2.trans hb) (show 0 < j from HK.out.1))))
          clear hn hb hk
          go_wp2_with fail
          refine (nt_waiting _ HZ.out.2.1 (k := 1) (by decide) (by decide) (q := 0) (by rw [HZ.out.1.w1]; rfl)).mono ?_
          rintro e _ ⟨rfl, rfl⟩
          go_wp2_with fail
          refine (nt_waiting _ HZ.out.2.1 (k := 0) (by decide) (by decide) (q := 1) (by rw [HZ.out.1.w0]; rfl)).mono ?_
          rintro e _ ⟨rfl, rfl⟩
          go_wp2_with fail
          refine (nt_send _ HZ.out.2.1 0 1 (Rd.nil _ none) 0 (q := 0) (HZ.out.1.more HZ.out.2.2.2 HK.out.2).1 rfl).mono ?_
          rintro e w6 ⟨rfl, hn, hb, hk⟩
          have HV := Lib.hid (And.intro hn (And.intro (HZ.out.2.2.1.trans hb) (HZ.out.1.more HZ.out.2.2.2 HK.out.2).2))
          clear hn hb hk
          go_wp2_with fail
          refine (nt_waiting _ HV.out.1 (k := 1) (by decide) (by decide) (q := 1) (by rw [HV.out.2.2]; rfl)).mono ?_
          rintro e _ ⟨rfl, rfl⟩
          go_wp2_with fail
          refine (awake_is _).mono ?_
          rintro e w7 ⟨rfl, hb⟩
          have HU := Lib.hid hb
          clear hb
          go_wp2
          go_ret
          exact ⟨rfl, HV.out.2.1.trans (HU.out.mono HV.out.2.1.size)⟩
end Go.Proofs.Ythhablokbnfpcaa
