/- PlaceBytes' walk. -/
import Derived.Test.YtbilbfjmfaignaaBytB
namespace Go.Proofs.Ytbilbfjmfaignaa
open Go.RowKit Go.Coop
set_option maxRecDepth 100000
section
variable (w : World)
set_option maxHeartbeats 4000000 in
theorem bytes_law {M : Option Addr} {m cm : Nat} {ms : List (Nat × Nat)} (hM : MsAt w M m ms) (hm : m ≤ 9223372036854775807) (x0 x1 x2 s : Nat) (h0 : x0 < 256) (h1 : x1 < 256) (h2 : x2 < 256) (hs : s < 65536) {X : Option Addr} {xn xc : Nat} {bs : List UInt8} (hX : Rd w X xn bs) (hxc : xn ≤ xc) (hxm : xc ≤ 9223372036854775807) :
    Calls Try.prog 8 #[.agg #[.int .u8 x0, .int .u8 x1, .int .u8 x2], .slice M m cm, .int .u16 s, .slice X xn xc] w (Told w true) := by
  obtain ⟨w1, hw1⟩ : ∃ v, w.alloc (.cells #[.int .u8 x0, .int .u8 x1, .int .u8 x2] 49) = v := ⟨_, rfl⟩
  obtain ⟨hb1, hx1⟩ := box_new hw1
  obtain ⟨b0, hb⟩ : ∃ b, w.heap.size = b := ⟨_, rfl⟩
  rw [hb] at hx1
  obtain ⟨c0, c1, c2⟩ := arr49 hx1
  have HE := Lib.hid (And.intro hb1 (And.intro (hM.below hb1 (Nat.le_refl _)) (hX.below hb1 (Nat.le_refl _))))
  clear hb1 hx1 hM hX
  by_cases hbig : xn ≤ 1000
  · have hbig' : ¬ (1000 : Int) < (xn : Int) := by omega
    have hbig2 : (xn : Int) ≤ 1000 := by omega
    go_enter Try.func8, Try.ntmps8
    go_wp2_with fail
    (try rw [hb]); (try rw [hw1])
    refine (placed_is _ HE.out.2.1 hm x0 x1 x2 h0 h1 h2).mono ?_
    rintro e w2 ⟨A, n, ps, rfl, hpo, hpl, hb2⟩
    have hn := hpo.n_eq hpl
    have hnice := placed_nice x0 x1 x2 ms
    obtain ⟨L, hL⟩ : ∃ L, placedP x0 x1 x2 ms = L := ⟨_, rfl⟩
    rw [hL] at hpl hn hnice
    have hall := hnice.all (by omega)
    have hn40 : n ≤ 40 := by have := hnice.few; omega
    have HQ := Lib.hid (And.intro hpo.pl (And.intro hpl (And.intro (HE.out.1.trans (hb2.mono HE.out.1.size)) (And.intro hall (And.intro hn40 (HE.out.2.2.below hb2 (Nat.le_refl _)))))))
    clear HE hpo hpl hb2 hn hnice hL hall hn40 c0 c1 c2 hw1 hb h0 h1 h2
    go_wp2_with fail
    refine (bytes_is _ HQ.out.1 (by have := HQ.out.2.2.2.2.1; omega)).mono ?_
    rintro e w3 ⟨A3, c3, rfl, ho, hlen, hb3⟩
    have hbp : bytesP (ps.map Pc.pl) = (encL L, 0) := by rw [HQ.out.2.1, bytesP, if_pos HQ.out.2.2.2.1]
    rw [hbp] at ho hlen ⊢
    simp only at ho hlen ⊢
    obtain ⟨N, hN⟩ : ∃ N, (encL L).length = N := ⟨_, rfl⟩
    have hNp : 1 ≤ N := by rw [← hN]; exact encL_pos L
    rw [hN] at ho hlen ⊢
    have HR := Lib.hid (And.intro (HQ.out.1.below hb3 (Nat.le_refl _)) (And.intro HQ.out.2.1 (And.intro (HQ.out.2.2.1.trans (hb3.mono HQ.out.2.2.1.size)) (And.intro HQ.out.2.2.2.1 (And.intro HQ.out.2.2.2.2.1 (And.intro (HQ.out.2.2.2.2.2.below hb3 (Nat.le_refl _)) (And.intro ho hN)))))))
    clear HQ ho hb3 hbp hN
    go_wp2_with fail
    refine (read_is _ HR.out.2.2.2.2.2.2.1.rd (by omega) HR.out.2.2.2.2.2.2.1.cap).mono ?_
    rintro e w4 ⟨A4, n4, ps4, rfl, hpo, hq, hn4, hb4⟩
    rw [readP_enc HR.out.2.2.2.1] at hq ⊢
    simp only at hq ⊢
    have HS := Lib.hid (And.intro (HR.out.1.below hb4 (Nat.le_refl _)) (And.intro HR.out.2.1 (And.intro (HR.out.2.2.1.trans (hb4.mono HR.out.2.2.1.size)) (And.intro HR.out.2.2.2.1 (And.intro (HR.out.2.2.2.2.2.1.below hb4 (Nat.le_refl _)) (And.intro (HR.out.2.2.2.2.2.2.1.below hb4 (Nat.le_refl _)) (And.intro HR.out.2.2.2.2.2.2.2 (And.intro hpo.pl hq))))))))
    clear HR hpo hq hb4
    go_wp2_with fail
    refine (samePl_is _ HS.out.2.2.2.2.2.2.2.1 HS.out.1 (by omega) (q := true) (by rw [HS.out.2.2.2.2.2.2.2.2, HS.out.2.1]; simp)).mono ?_
    rintro e w5 ⟨rfl, d5, hw5⟩
    have hb5 : Below w4.heap.size w4 w5 := by rw [hw5]; exact below_drewN (Below.refl _ _) _
    have HT := Lib.hid (And.intro (HS.out.2.2.1.trans (hb5.mono HS.out.2.2.1.size)) (And.intro HS.out.2.2.2.1 (And.intro (HS.out.2.2.2.2.1.below hb5 (Nat.le_refl _)) (And.intro (HS.out.2.2.2.2.2.1.below hb5 (Nat.le_refl _)) HS.out.2.2.2.2.2.2.1))))
    clear HS hw5 hb5
    obtain ⟨k, hk⟩ : ∃ k, s % N = k := ⟨_, rfl⟩
    have hkN : k < N := by rw [← hk]; exact Nat.mod_lt _ (by omega)
    have sw : IntKind.i64.wrap (s : Int) = (s : Int) := IntWalk.i64_in _ (by omega)
    have m1 : (s : Int) % (N : Int) = (k : Int) := by omega
    have m2 : (s : Int).tmod (N : Int) = (k : Int) := by rw [Int.tmod_eq_emod_of_nonneg (by omega)]; exact m1
    have hNz : ((N : Int) == 0) = false := by simp; omega
    have hcap := HT.out.2.2.2.1.cap
    have hsl := fun W => slice_h A3 N c3 k (by omega) W
    have HK := Lib.hid hk
    clear hk
    go_wp2_with fail
    refine (read_is _ (HT.out.2.2.2.1.rd.take (k := k) (by omega)) (by omega) (by omega)).mono ?_
    rintro e w6 ⟨A6, n6, ps6, rfl, hpo6, hq6, hn6, hb6⟩
    have hcut : readP ((encL L).take k) = ([], 100) := readP_cut HT.out.2.1 (by rw [HT.out.2.2.2.2]; exact hkN)
    rw [hcut] at hq6 ⊢
    simp only at hq6 ⊢
    have HU := Lib.hid (And.intro (HT.out.1.trans (hb6.mono HT.out.1.size)) (And.intro HT.out.2.1 (And.intro (HT.out.2.2.1.below hb6 (Nat.le_refl _)) (And.intro (HT.out.2.2.2.1.below hb6 (Nat.le_refl _)) HT.out.2.2.2.2))))
    clear HT hpo6 hq6 hb6 hcut hsl m1 m2
    go_wp2_with fail
    refine (copy_any _ _ _ _ _ HU.out.2.2.2.1.rd (by omega)).mono ?_
    rintro e w7 ⟨A7, c7, rfl, ho7, hb7⟩
    obtain ⟨u, hu⟩ : ∃ u, IntKind.u8.wrap (s : Int) = u := ⟨_, rfl⟩
    have hu0 : 0 ≤ u ∧ u < 256 := by rw [← hu, IntKind.wrap_u8]; omega
    have HV := Lib.hid (And.intro (HU.out.1.trans (hb7.mono HU.out.1.size)) (And.intro HU.out.2.1 (And.intro (HU.out.2.2.1.below hb7 (Nat.le_refl _)) (And.intro ho7 (And.intro HU.out.2.2.2.2 hb7.size)))))
    have HB7 := Lib.hid hb7
    have HB6 := Lib.hid (And.intro HU.out.1 HU.out.2.2.1)
    clear HU ho7 hb7
    go_wp2_with (at_builtin; refine wpList_app _ rfl (.tmp 80) (.tmp 83) _ rfl w6.heap.size 5 Try.underlying34 info5 rfl (HV.out.2.2.2.1.alloc _) rfl (Rd.one w7 u hu0.1 hu0.2 5 (0, 0)) (by omega) (by simp; have := HV.out.2.2.2.2.2; omega) (N + 1) rfl ?_; intro A' c' w8 ho8 hg8 hat8)
    have hmore : readP (encL L ++ [UInt8.ofNat u.toNat]) = ([], 100) := readP_more HV.out.2.1
    have hB8 : Below w6.heap.size w6 w8 := (HB7.out.alloc HB7.out.size _).grown hg8 (by simp; have := HV.out.2.2.2.2.2; omega) (fun q hq => (HV.out.2.2.2.1.block q hq).1)
    have HW := Lib.hid (And.intro (HB6.out.1.trans (hB8.mono HB6.out.1.size)) (And.intro (HB6.out.2.below hB8 (Nat.le_refl _)) (And.intro ho8 hmore)))
    clear HV HB6 HB7 hB8 ho8 hmore hg8 hat8
    refine (read_is _ HW.out.2.2.1.rd (by omega) HW.out.2.2.1.cap).mono ?_
    rintro e w9 ⟨A9, n9, ps9, rfl, hpo9, hq9, hn9, hb9⟩
    rw [HW.out.2.2.2] at hq9 ⊢
    simp only at hq9 ⊢
    have HX := Lib.hid (And.intro (HW.out.1.trans (hb9.mono HW.out.1.size)) (HW.out.2.1.below hb9 (Nat.le_refl _)))
    clear HW hpo9 hq9 hb9
    go_wp2_with fail
    refine (read_is _ HX.out.2 (by omega) hxc).mono ?_
    rintro e w10 ⟨A10, n10, ps10, rfl, hpo, hq, hn10, hb10⟩
    have HY := Lib.hid (And.intro (HX.out.1.trans (hb10.mono HX.out.1.size)) (And.intro (HX.out.2.below hb10 (Nat.le_refl _)) (And.intro hpo.pl hq)))
    clear HX hpo hq hb10
    obtain ⟨er, her⟩ : ∃ v, (readP bs).2 = v := ⟨_, rfl⟩
    rw [her]
    by_cases he : er = 0
    · subst he
      obtain ⟨L2, hL2⟩ : ∃ L2, readP bs = (L2, 0) := ⟨_, Prod.ext rfl her⟩
      obtain ⟨hA2, he2⟩ := readP_back hL2
      have hbp2 : bytesP (ps10.map Pc.pl) = (bs, 0) := by rw [HY.out.2.2.2, hL2, bytesP, if_pos hA2, he2]
      have HL2 := Lib.hid hbp2
      clear hL2 hA2 he2 her hbp2
      go_wp2_with fail
      refine (bytes_is _ HY.out.2.2.1 (by omega)).mono ?_
      rintro e w11 ⟨A11, c11, rfl, ho11, hlen11, hb11⟩
      rw [HL2.out] at ho11 hlen11 ⊢
      simp only at ho11 hlen11 ⊢
      have HZ := Lib.hid (And.intro (HY.out.1.trans (hb11.mono HY.out.1.size)) (And.intro (HY.out.2.1.below hb11 (Nat.le_refl _)) ho11))
      clear HY ho11 hb11
      go_wp2_with fail
      refine (sameBytes_is _ HZ.out.2.2.rd HZ.out.2.1).mono ?_
      rintro e w12 ⟨rfl, rfl⟩
      go_wp2_with fail
      refine (awake_is _).mono ?_
      rintro e w13 ⟨rfl, hb13⟩
      go_wp2
      go_ret
      exact ⟨rfl, HZ.out.1.trans (hb13.mono HZ.out.1.size)⟩
    · have heb : (er == 0) = false := by simpa using he
      clear he her
      go_wp2_with fail
      refine (awake_is _).mono ?_
      rintro e w13 ⟨rfl, hb13⟩
      go_wp2
      go_ret
      exact ⟨rfl, HY.out.1.trans (hb13.mono HY.out.1.size)⟩
  · have hbig' : (1000 : Int) < (xn : Int) := by omega
    clear hbig
    go_enter Try.func8, Try.ntmps8
    go_wp2_with fail
    (try rw [hb]); (try rw [hw1])
    refine (placed_is _ HE.out.2.1 hm x0 x1 x2 h0 h1 h2).mono ?_
    rintro e w2 ⟨A, n, ps, rfl, hpo, hpl, hb2⟩
    have HQ := Lib.hid (HE.out.1.trans (hb2.mono HE.out.1.size))
    clear HE hpo hpl hb2 c0 c1 c2 hw1 hb
    go_wp2_with fail
    refine (awake_is _).mono ?_
    rintro e w3 ⟨rfl, hb3⟩
    go_wp2
    go_ret
    exact ⟨rfl, HQ.out.trans (hb3.mono HQ.out.size)⟩
end
end Go.Proofs.Ytbilbfjmfaignaa
