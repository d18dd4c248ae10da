/- PlaceMoves' walk. -/
import Derived.Test.YtbilbfjmfaignaaLawSp
import Derived.Test.YtbilbfjmfaignaaMovP
namespace Go.Proofs.Ytbilbfjmfaignaa
open Go.RowKit Go.Coop
set_option maxRecDepth 100000
section
variable (w : World)
set_option maxHeartbeats 8000000 in
theorem moves_law {M : Option Addr} {m cm : Nat} {ms : List (Nat × Nat)} (hM : MsAt w M m ms) (hm : m ≤ 9223372036854775807) (x0 x1 x2 f o : Nat) (h0 : x0 < 256) (h1 : x1 < 256) (h2 : x2 < 256) (hf : f < 256) (ho : o < 256) :
    Calls Try.prog 5 #[.agg #[.int .u8 x0, .int .u8 x1, .int .u8 x2], .slice M m cm, .int .u8 f, .int .u8 o] w (Told w true) := by
  obtain ⟨w1, hw1⟩ : ∃ v, w.alloc (.cells #[.int .u8 x0, .int .u8 x1, .int .u8 x2] 49) = v := ⟨_, rfl⟩
  obtain ⟨hb1, hx1⟩ := box_new hw1
  obtain ⟨b0, hb⟩ : ∃ b, w.heap.size = b := ⟨_, rfl⟩
  rw [hb] at hx1
  obtain ⟨c0, c1, c2⟩ := arr49 hx1
  have HE := Lib.hid (And.intro hb1 (hM.below hb1 (Nat.le_refl _)))
  clear hb1 hx1 hM
  go_enter Try.func5, Try.ntmps5
  go_wp2_with fail
  (try rw [hb]); (try rw [hw1])
  refine (placed_is _ HE.out.2 hm x0 x1 x2 h0 h1 h2).mono ?_
  rintro e w2 ⟨A, n, ps, rfl, hpo, hpl, hb2⟩
  have hn := hpo.n_eq hpl
  have hnice := placed_nice x0 x1 x2 ms
  obtain ⟨L, hL⟩ : ∃ L, placedP x0 x1 x2 ms = L := ⟨_, rfl⟩
  rw [hL] at hpl hn hnice
  obtain ⟨a, ha⟩ : ∃ a, f % 40 = a := ⟨_, rfl⟩
  obtain ⟨b, hbb⟩ : ∃ a, o % 40 = a := ⟨_, rfl⟩
  have hal : a < 40 := by have := Nat.mod_lt f (show 0 < 40 by omega); omega
  have hbl : b < 40 := by have := Nat.mod_lt o (show 0 < 40 by omega); omega
  have hn40 : n ≤ 40 := by have := hnice.few; omega
  have hn1 : 1 ≤ n := by have := hnice.some; omega
  have f1 : (f : Int) % 40 = (a : Int) := by omega
  have t1 : (f : Int).tmod 40 = (a : Int) := by rw [Int.tmod_eq_emod_of_nonneg (by omega)]; exact f1
  have q1 : IntKind.i64.wrap (a : Int) = (a : Int) := IntWalk.i64_in _ (by omega)
  have f3 : (o : Int) % 40 = (b : Int) := by omega
  have t3 : (o : Int).tmod 40 = (b : Int) := by rw [Int.tmod_eq_emod_of_nonneg (by omega)]; exact f3
  have q4 : IntKind.i64.wrap (b : Int) = (b : Int) := IntWalk.i64_in _ (by omega)
  have HNi := Lib.hid hnice
  have HQ := Lib.hid (And.intro hpo.pl (And.intro hpl (And.intro (HE.out.1.trans (hb2.mono HE.out.1.size)) (And.intro hn (And.intro hn40 hn1)))))
  have HC := Lib.hid (show a < 40 ∧ b < 40 by omega)
  clear HE hpo hpl hb2 hn hnice hL ha hbb hal hbl hn40 hn1 c0 c1 c2 hw1 hb hf ho h0 h1 h2
  have hright : ∀ p ∈ ps, RightP 256 p.pl := fun p hp => (HNi.out.all (by omega)).2 p.pl (by rw [← HQ.out.2.1]; exact List.mem_map.2 ⟨p, hp, rfl⟩)
  have HRi := Lib.hid (decide_eq_true hright)
  clear hright
  go_wp2_with fail
  refine (lawRight_is _ HQ.out.1 (by have := HQ.out.2.2.2.2.1; omega) (by have := HQ.out.2.2.2.2.2; omega) HRi.out).mono ?_
  rintro e w3 ⟨rfl, hb3⟩
  have HR := Lib.hid (And.intro (HQ.out.1.below hb3 (Nat.le_refl _)) (And.intro HQ.out.2.1 (And.intro (HQ.out.2.2.1.trans (hb3.mono HQ.out.2.2.1.size)) HQ.out.2.2.2)))
  clear HQ HRi hb3
  go_wp2_with fail
  refine (move_is _ HR.out.1 (by have := HR.out.2.2.2.2.1; omega) (a : Int) (b : Int)).mono ?_
  rintro e w4 ⟨A4, n4, ps4, G4, m4, mc4, rfl, hpo, hq, _, hG, _, hb4⟩
  rw [HR.out.2.1] at hq hG ⊢
  obtain ⟨may, hmay⟩ : ∃ v, mayK (a : Int) (b : Int) L = v := ⟨_, rfl⟩
  obtain ⟨ne, hne⟩ : ∃ v, ((a : Int) != (b : Int)) = v := ⟨_, rfl⟩
  have hk0 : mayK (a : Int) (b : Int) [] = ne := by
    rw [← hne]
    unfold mayK
    rw [List.all_nil, Bool.and_true]
    by_cases e : a = b
    · subst e; simp
    · have : (a : Int) ≠ (b : Int) := by omega
      simp [this]
  obtain ⟨er, her⟩ : ∃ v, (moveP L (a : Int) (b : Int)).2.2 = v := ⟨_, rfl⟩
  rw [her]
  have HS := Lib.hid (And.intro (HR.out.1.below hb4 (Nat.le_refl _)) (And.intro HR.out.2.1 (And.intro (HR.out.2.2.1.trans (hb4.mono HR.out.2.2.1.size)) (And.intro HR.out.2.2.2 (And.intro hpo.pl (And.intro hq hG))))))
  have HM := Lib.hid (And.intro hmay (And.intro hk0 her))
  clear HR hpo hq hG hb4 hmay hk0 her f1 t1 q1 f3 t3 q4
  go_wp2
  clear hne
  go_loopw [16, 18, 56] (fun s16 _ s56 wr => ∃ j : Nat, j ≤ n ∧ s56 = .int .i64 j ∧ s16 = .bool (mayK (a : Int) (b : Int) (L.take j)) ∧ Hid (Below w4.heap.size w4 wr)) (fun _ _ s56 _ => n - (Go.RowKit.intOf s56).toNat)
  case atStart => exact ⟨0, by omega, rfl, by rw [List.take_zero, HM.out.2.1], (Below.refl _ _ : Below w4.heap.size w4 w4)⟩
  case round =>
    obtain ⟨j, hj, rfl, rfl, HB⟩ := hrel
    have hn40 := HS.out.2.2.2.1.2.1
    by_cases hlt : j < n
    · obtain ⟨x, hx⟩ : ∃ x, ps[j]? = some x := ⟨_, List.getElem?_eq_getElem (by rw [HS.out.1.len]; exact hlt)⟩
      obtain ⟨ad, okx, rfl, hadl, hload, d0, d1⟩ := (HS.out.1.below HB.out (Nat.le_refl _)).get' hx
      have hLx : L[j]? = some x.pl := by rw [← HS.out.2.1, List.getElem?_map, hx]; rfl
      have hsn := mayK_snoc (a : Int) (b : Int) (L.take j) x.pl
      rw [← take_snoc hLx] at hsn
      have hi1 : (0 : Int) ≤ (j : Int) := by omega
      have hi2 : (j : Int) < (n : Int) := by omega
      have hw1 : IntKind.i64.wrap ((j : Int) + 1) = (j : Int) + 1 := IntWalk.i64_in _ (by omega)
      obtain ⟨mk, hmk⟩ : ∃ v, mayK (a : Int) (b : Int) (L.take j) = v := ⟨_, rfl⟩
      rw [hmk] at hsn ⊢
      obtain ⟨wa, hwa⟩ : ∃ v, wr.alloc (.cells #[.int .i64 x.e, .slice x.A x.n x.c] 30) = v := ⟨_, rfl⟩
      obtain ⟨hba, hxa⟩ := box_new hwa
      obtain ⟨⟨m0, m1⟩, _⟩ := two30 hxa
      have hBa : Hid (Below w4.heap.size w4 wa) := HB.out.trans (hba.mono HB.out.size)
      have HX := Lib.hid (And.intro hx (And.intro (okx.below hba (Nat.le_refl _)) (And.intro hlt (And.intro hxa hsn))))
      clear hx okx hlt hadl hLx hsn hmk hba hxa
      cases mk with
      | false =>
        go_wp2
        go_roundw
        case rel => exact ⟨j + 1, by have := HX.out.2.2.1; omega, by go_num, by rw [HX.out.2.2.2.2]; rfl, by (try rw [hwa]); exact hBa.out⟩
        case measure => have := HX.out.2.2.1; simp [Go.RowKit.intOf]; omega
      | true =>
        by_cases hmem : (a : Int) ∈ x.l
        · obtain ⟨i, hii⟩ : ∃ i, idxN (a : Int) x.l = i := ⟨_, rfl⟩
          have hidx := Lib.hid (idxP_in hmem)
          rw [hii] at hidx
          have hip : (0 : Int) ≤ (i : Int) := by omega
          have HMe := Lib.hid hmem
          clear hmem hii
          go_wp2_with fail
          (try rw [hwa])
          refine (index_is _ x.e HX.out.2.1.rd HX.out.2.1.small (a : Int) hidx.out).mono ?_
          rintro e w6 ⟨rfl, hb6⟩
          have HB6 := Lib.hid (hBa.out.trans (hb6.mono hBa.out.size))
          have hx6 := (hb6.block _ (lt_of_block HX.out.2.2.2.1)).trans HX.out.2.2.2.1
          have okx6 := Lib.hid (HX.out.2.1.below hb6 (Nat.le_refl _))
          clear m0 m1 hwa hload d0 d1
          obtain ⟨⟨m0, m1⟩, _⟩ := two30 hx6
          clear hx6 hb6
          obtain ⟨q, hq⟩ : ∃ q, idxP (b : Int) x.l = q := ⟨_, rfl⟩
          have HQq := Lib.hid hq
          go_wp2_with fail
          refine (index_is _ x.e okx6.out.rd okx6.out.small (b : Int) HQq.out).mono ?_
          rintro e w7 ⟨rfl, hb7⟩
          have HB7 := Lib.hid (HB6.out.trans (hb7.mono HB6.out.size))
          clear m0 m1 hb7
          by_cases hbm : (b : Int) ∈ x.l
          · have hq0 : (0 : Int) ≤ q := by rw [← hq]; exact idxP_mem.1 hbm
            have hdec : decide (q < 0) = false := by simp; omega
            have HBm := Lib.hid hbm
            clear hbm hq
            go_wp2
            go_roundw
            case rel => exact ⟨j + 1, by have := HX.out.2.2.1; omega, by go_num, by (rw [HX.out.2.2.2.2]; have h1 := HMe.out; have h2 := HBm.out; simp [Pc.pl, h1, h2]), HB7.out⟩
            case measure => have := HX.out.2.2.1; simp [Go.RowKit.intOf]; omega
          · have hq0 : q = -1 := by rw [← hq]; exact idxP_out hbm
            subst hq0
            have HBm := Lib.hid hbm
            clear hbm hq
            go_wp2
            go_roundw
            case rel => exact ⟨j + 1, by have := HX.out.2.2.1; omega, by go_num, by (rw [HX.out.2.2.2.2]; have h2 := HBm.out; simp [Pc.pl, h2]), HB7.out⟩
            case measure => have := HX.out.2.2.1; simp [Go.RowKit.intOf]; omega
        · have hidx := Lib.hid (idxP_out hmem)
          have HMe := Lib.hid hmem
          clear hmem
          go_wp2_with fail
          (try rw [hwa])
          refine (index_is _ x.e HX.out.2.1.rd HX.out.2.1.small (a : Int) hidx.out).mono ?_
          rintro e w6 ⟨rfl, hb6⟩
          have HB6 := Lib.hid (hBa.out.trans (hb6.mono hBa.out.size))
          clear m0 m1 hwa hload d0 d1 hb6
          go_wp2
          go_roundw
          case rel => exact ⟨j + 1, by have := HX.out.2.2.1; omega, by go_num, by (rw [HX.out.2.2.2.2]; have h2 := HMe.out; simp [Pc.pl, h2]), HB6.out⟩
          case measure => have := HX.out.2.2.1; simp [Go.RowKit.intOf]; omega
    · obtain rfl : j = n := by omega
      have hmk : mayK (a : Int) (b : Int) (L.take j) = may := by
        rw [List.take_of_length_le (by have := HS.out.2.2.2.1; omega), HM.out.1]
      rw [hmk]
      clear hmk hlt
      cases may with
      | false =>
        have hmv := move_may_no HNi.out HM.out.1
        have her := HM.out.2.2
        rw [hmv] at her
        subst her
        have hm4 : m4 = 0 := by
          have h1 := HS.out.2.2.2.2.2.2.len
          rw [hmv] at h1
          simpa using h1.symm
        have hn4 : n4 = 0 := by
          have h1 := HS.out.2.2.2.2.1.len
          have h2 := congrArg List.length HS.out.2.2.2.2.2.1
          rw [hmv] at h2
          rw [List.length_map] at h2
          have h3 : ([] : List Pl).length = 0 := rfl
          rw [h3] at h2
          omega
        subst hm4 hn4
        clear hmv
        go_wp2_with fail
        refine (awake_is _).mono ?_
        rintro e w6 ⟨rfl, hb6⟩
        go_wp2
        go_ret
        have h1 := HS.out.2.2.1.trans (HB.out.mono HS.out.2.2.1.size)
        exact ⟨rfl, h1.trans (hb6.mono h1.size)⟩
      | true =>
        have hmv := move_may_yes HNi.out (a := (a : Int)) (b := (b : Int)) (by have := HC.out; omega) (by have := HC.out; omega) HM.out.1
        have her := HM.out.2.2
        rw [hmv] at her
        subst her
        have hq4 := HS.out.2.2.2.2.2.1
        have hG4 := HS.out.2.2.2.2.2.2
        rw [hmv] at hq4 hG4
        simp only at hq4 hG4
        have hn4 : n4 = j := by
          have h1 := HS.out.2.2.2.2.1.len
          have h2 := congrArg List.length hq4
          have h3 := HS.out.2.2.2.1
          simp at h2
          omega
        subst hn4
        have hfair := move_fair HNi.out (a := (a : Int)) (b := (b : Int)) (by have := HC.out; omega) HM.out.1
        have hright : ∀ p ∈ ps4, RightP 256 p.pl := fun p hp => (hfair.all (by omega) (by omega)).2 p.pl (by rw [← hq4]; exact List.mem_map.2 ⟨p, hp, rfl⟩)
        have HRi := Lib.hid (decide_eq_true hright)
        have HQ4 := Lib.hid (And.intro hq4 hG4)
        clear hmv hq4 hG4 hfair hright
        go_wp2_with fail
        refine (lawRight_is _ (HS.out.2.2.2.2.1.below HB.out (Nat.le_refl _)) (by have := HS.out.2.2.2.1.2.1; omega) (by have := HS.out.2.2.2.1.2.2; omega) HRi.out).mono ?_
        rintro e w6 ⟨rfl, hb6⟩
        have HB6 := Lib.hid (HB.out.trans (hb6.mono HB.out.size))
        have HV := Lib.hid (And.intro (HS.out.1.below HB6.out (Nat.le_refl _)) (And.intro HS.out.2.1 (And.intro (HS.out.2.2.1.trans (HB6.out.mono HS.out.2.2.1.size)) (And.intro HS.out.2.2.2.1 (And.intro (HS.out.2.2.2.2.1.below HB6.out (Nat.le_refl _)) (And.intro HQ4.out.1 (HQ4.out.2.below (HB6.out.mono (show w4.heap.size ≤ w4.heap.size from Nat.le_refl _)) (Nat.le_refl _))))))))
        have hml : (grp (a : Int) L).length = m4 := by have := HQ4.out.2.len; simpa using this
        have hm40 : m4 ≤ 40 := by
          have h1 := grpF_le (a : Int) L 0
          have h2 := HS.out.2.2.2.1
          unfold grp at hml
          omega
        have HML := Lib.hid (And.intro hml hm40)
        clear HS HRi HQ4 hb6 HB HB6 hml hm40
        go_wp2
        go_loopw [19, 20, 21, 22, 23, 105, 183] (fun s19 _ _ _ _ s105 _ wr => ∃ (g kc : Nat), g ≤ n4 ∧ s105 = .int .i64 g ∧ s19 = .int .i64 kc ∧ Hid (kc = (grp (a : Int) (L.take g)).length ∧ Below w6.heap.size w6 wr)) (fun _ _ _ _ _ s105 _ _ => n4 - (Go.RowKit.intOf s105).toNat)
        case atStart => exact ⟨0, 0, by omega, rfl, rfl, (⟨rfl, Below.refl _ _⟩ : 0 = (grp (a : Int) (L.take 0)).length ∧ Below w6.heap.size w6 w6)⟩
        case round =>
          obtain ⟨g, kc, hg, rfl, rfl, HB⟩ := hrel
          by_cases hlt : g < n4
          · obtain ⟨x, hx⟩ : ∃ x, ps[g]? = some x := ⟨_, List.getElem?_eq_getElem (by rw [HV.out.1.len]; exact hlt)⟩
            obtain ⟨y, hy⟩ : ∃ y, ps4[g]? = some y := ⟨_, List.getElem?_eq_getElem (by rw [HV.out.2.2.2.2.1.len]; exact hlt)⟩
            have hLx : L[g]? = some x.pl := by rw [← HV.out.2.1, List.getElem?_map, hx]; rfl
            have hxy : y.pl = mv1 (a : Int) (b : Int) x.pl := by
              have h1 := congrArg (fun l => l[g]?) HV.out.2.2.2.2.2.1
              simp [hLx, hy] at h1
              exact h1
            obtain ⟨ad, okx, rfl, hadl, hload, d0, d1⟩ := (HV.out.1.below HB.out.2 (Nat.le_refl _)).get' hx
            obtain ⟨ad', oky, rfl, hadl', hload', e0, e1⟩ := (HV.out.2.2.2.2.1.below HB.out.2 (Nat.le_refl _)).get' hy
            have hxL : x.pl ∈ L := mem_at hLx
            obtain ⟨g1, g2, g3, g4⟩ := HNi.out.each _ hxL
            simp only [Pc.pl] at g1 g2 g3 g4
            have hi1 : (0 : Int) ≤ (g : Int) := by omega
            have hi2 : (g : Int) < (n4 : Int) := by omega
            have hn40 := HML.out.2
            have hkl : kc ≤ m4 := by
              have h1 := grp_len_le (a : Int) L g
              have h2 := HML.out.1
              have h3 := HB.out.1
              omega
            have hg40 : g ≤ 1000 := by
              have h1 := HNi.out.few
              have h2 := HV.out.2.2.2.1
              omega
            have hw1 : IntKind.i64.wrap ((g : Int) + 1) = (g : Int) + 1 := IntWalk.i64_in _ (by omega)
            have hw2 : IntKind.i64.wrap ((kc : Int) + 1) = (kc : Int) + 1 := IntWalk.i64_in _ (by omega)
            have hw3 : IntKind.i64.wrap (x.e + 1) = x.e + 1 := IntWalk.i64_in _ (by omega)
            have hyn : y.n = x.n := by
              have h1 := oky.len
              have h2 := okx.len
              have h3 := congrArg (fun p => p.l.length) hxy
              simp only [mv1_len] at h3
              simp only [Pc.pl] at h3
              omega
            have hnm := Lib.hid (idxP_out (show (a : Int) ∉ y.l from by
              have := not_mv1 (b := (b : Int)) (q := x.pl) g1.2 (mayK_iff.1 HM.out.1).1
              rw [← hxy] at this
              exact this))
            have HX := Lib.hid (And.intro hlt (And.intro okx (And.intro oky (And.intro hxy (And.intro hx (And.intro hy (And.intro g2 hLx)))))))
            rw [hyn] at e1
            clear hx hy hLx okx oky hxL g1 g2 g3 g4 hadl hadl' hxy hlt
            by_cases hmem : (a : Int) ∈ x.l
            · obtain ⟨i, hii⟩ : ∃ i, idxN (a : Int) x.l = i := ⟨_, rfl⟩
              have hidx := Lib.hid (idxP_in hmem)
              rw [hii] at hidx
              have hip : (0 : Int) ≤ (i : Int) := by omega
              have hye : y.e = x.e + 1 := by
                have := congrArg Pl.e HX.out.2.2.2.1
                rw [mv1_e, if_pos (show (a : Int) ∈ x.pl.l from hmem)] at this
                exact this
              have hyl : ∀ j : Nat, j < x.n → y.l[j]? = if j = i then some (b : Int) else x.l[j]? := fun j hj => by
                have := congrArg Pl.l HX.out.2.2.2.1
                rw [show mv1 (a : Int) (b : Int) x.pl = ⟨x.e + 1, x.l.set (idxN (a : Int) x.l) (b : Int)⟩ from if_pos hmem] at this
                simp only [Pc.pl] at this
                rw [this, hii, List.getElem?_set]
                by_cases e : i = j
                · subst e
                  rw [if_pos rfl, if_pos rfl, if_pos (by have := HX.out.2.1.len; omega)]
                · rw [if_neg e, if_neg (fun h => e h.symm)]
              have hgr : (grp (a : Int) L)[kc]? = some (g : Int) := by
                rw [HB.out.1]
                exact grp_take HX.out.2.2.2.2.2.2.2 hmem
              have hkc : kc < m4 := by
                have h1 := (List.getElem?_eq_some_iff.1 hgr).1
                have h2 := HML.out.1
                omega
              have hkn : kc + 1 = (grp (a : Int) (L.take (g + 1))).length := by
                rw [grp_len_snoc HX.out.2.2.2.2.2.2.2, if_pos (show (a : Int) ∈ x.pl.l from hmem), ← HB.out.1]
              obtain ⟨gd, hgA, hgl, hgc⟩ := (HV.out.2.2.2.2.2.2.below HB.out.2 (Nat.le_refl _)).cells (by omega)
              subst hgA
              have hgd := hgc kc (IV (g : Int)) (by rw [List.getElem?_map, hgr]; rfl)
              have hkc1 : (kc : Int) < (m4 : Int) := by omega
              have hkc0 : (0 : Int) ≤ (kc : Int) := by omega
              have hkc2 : decide ((m4 : Int) ≤ (kc : Int)) = false := by simp; omega
              have hkc3 : decide (m4 ≤ kc) = false := by simp; omega
              have HY := Lib.hid (And.intro hyl hkn)
              rw [hye] at e0
              clear hmem hii hyl hgr hkn hgl hgc hkc
              go_wp2_with fail
              refine (index_is _ x.e HX.out.2.1.rd HX.out.2.1.small (a : Int) hidx.out).mono ?_
              rintro e w7 ⟨rfl, hb7⟩
              have HB7 := Lib.hid (HB.out.2.trans (hb7.mono HB.out.2.size))
              have d0 := (hb7.cell (block_lt_of_cell d0)).trans d0
              have d1 := (hb7.cell (block_lt_of_cell d1)).trans d1
              have e0 := (hb7.cell (block_lt_of_cell e0)).trans e0
              have e1 := (hb7.cell (block_lt_of_cell e1)).trans e1
              have hgd := (hb7.cell (block_lt_of_cell hgd)).trans hgd
              have oky7 := Lib.hid (HX.out.2.2.1.below hb7 (Nat.le_refl _))
              clear hb7 hload hload'
              go_wp2
              refine wp_region_held_drew (S := fun u => Below w7.heap.size w7 u) (by kernel_rfl) ((Below.refl _ _).drew) (fun hHeld => ?_)
              refine wpAnyH_take (i := 0) (oi := ⟨some 114, _, _, _, _, _⟩) (v := ?_) rfl (by kernel_rfl) (by kernel_rfl) (by kernel_rfl) (fun _ _ _ h => h) (Or.inl ⟨by rfl, ?_⟩) (by assumption) ?_
              rotate_left
              · intro w hSw
                (try dsimp only at hSw)
                go_simp
                all_goals (with_reducible rfl)
              try simp only [Act.put, List.setIfInBounds_toArray, List.set_cons_zero, List.set_cons_succ]
              refine wpAnyH_take (i := 1) (oi := ⟨some 115, _, _, _, _, _⟩) (v := ?_) rfl (by kernel_rfl) (by kernel_rfl) (by kernel_rfl) (fun _ _ _ h => h) (Or.inl ⟨by rfl, ?_⟩) (by assumption) ?_
              rotate_left
              · intro w hSw
                (try dsimp only at hSw)
                go_simp
                all_goals (with_reducible rfl)
              try simp only [Act.put, List.setIfInBounds_toArray, List.set_cons_zero, List.set_cons_succ]
              refine wpAnyH_take (i := 2) (oi := ⟨some 116, _, _, _, _, _⟩) (v := ?_) rfl (by kernel_rfl) (by kernel_rfl) (by kernel_rfl) (fun _ _ _ h => h) (Or.inl ⟨by rfl, ?_⟩) (by assumption) ?_
              rotate_left
              · intro w hSw
                (try dsimp only at hSw)
                go_simp
                all_goals (with_reducible rfl)
              try simp only [Act.put, List.setIfInBounds_toArray, List.set_cons_zero, List.set_cons_succ]
              refine wpAnyH_take (i := 3) (oi := ⟨some 117, _, _, _, _, _⟩) (v := ?_) rfl (by kernel_rfl) (by kernel_rfl) (by kernel_rfl) (fun _ _ _ h => h) (Or.inl ⟨by rfl, ?_⟩) (by assumption) ?_
              rotate_left
              · intro w hSw
                have hl0 := (hSw.cell (block_lt_of_cell e0)).trans e0
                have hl1 := (hSw.cell (block_lt_of_cell e1)).trans e1
                go_simp
                all_goals (with_reducible rfl)
              try simp only [Act.put, List.setIfInBounds_toArray, List.set_cons_zero, List.set_cons_succ]
              refine wpAnyH_take (i := 4) (oi := ⟨some 118, _, _, _, _, _⟩) (v := ?_) rfl (by kernel_rfl) (by kernel_rfl) (by kernel_rfl) (fun _ _ _ h => h) (Or.inl ⟨by rfl, ?_⟩) (by assumption) ?_
              rotate_left
              · intro w hSw
                (try dsimp only at hSw)
                go_simp
                all_goals (with_reducible rfl)
              try simp only [Act.put, List.setIfInBounds_toArray, List.set_cons_zero, List.set_cons_succ]
              refine wpAnyH_ready (rs := [5]) (by kernel_rfl) (by simp) (AllReadyH.cons (o := ⟨some 119, _, _, _, _, _⟩) rfl (fun K hK => ?_) AllReadyH.nil)
              go_simp
              refine (index_is _ _ (n := x.n) (c := y.c) (by have := (oky7.out.rd.below hHeld (Nat.le_refl _)); rw [hyn] at this; exact this) (by have := oky7.out.small; omega) (a : Int) hnm.out).mono ?_
              rintro e w8 ⟨rfl, hb8⟩
              refine hK.out _ _ (hHeld.trans (hb8.mono hHeld.size)) (fun hHeld => ?_)
              clear hK K
              try simp only [Act.put, List.setIfInBounds_toArray, List.set_cons_zero, List.set_cons_succ]
              refine wpAnyH_take (i := 6) (oi := ⟨some 120, _, _, _, _, _⟩) (v := ?_) rfl (by kernel_rfl) (by kernel_rfl) (by kernel_rfl) (fun _ _ _ h => h) (Or.inl ⟨by rfl, ?_⟩) (by assumption) ?_
              rotate_left
              · intro w hSw
                (try dsimp only at hSw)
                go_simp
                all_goals (with_reducible rfl)
              try simp only [Act.put, List.setIfInBounds_toArray, List.set_cons_zero, List.set_cons_succ]
              refine wpAnyH_take (i := 7) (oi := ⟨some 121, _, _, _, _, _⟩) (v := ?_) rfl (by kernel_rfl) (by kernel_rfl) (by kernel_rfl) (fun _ _ _ h => h) (Or.inl ⟨by rfl, ?_⟩) (by assumption) ?_
              rotate_left
              · intro w hSw
                (try dsimp only at hSw)
                go_simp
                all_goals (with_reducible rfl)
              try simp only [Act.put, List.setIfInBounds_toArray, List.set_cons_zero, List.set_cons_succ]
              refine wpAnyH_take (i := 8) (oi := ⟨some 122, _, _, _, _, _⟩) (v := ?_) rfl (by kernel_rfl) (by kernel_rfl) (by kernel_rfl) (fun _ _ _ h => h) (Or.inl ⟨by rfl, ?_⟩) (by assumption) ?_
              rotate_left
              · intro w hSw
                (try dsimp only at hSw)
                go_simp
                all_goals (with_reducible rfl)
              try simp only [Act.put, List.setIfInBounds_toArray, List.set_cons_zero, List.set_cons_succ]
              refine wpAnyH_take (i := 9) (oi := ⟨some 123, _, _, _, _, _⟩) (v := ?_) rfl (by kernel_rfl) (by kernel_rfl) (by kernel_rfl) (fun _ _ _ h => h) (Or.inl ⟨by rfl, ?_⟩) (by assumption) ?_
              rotate_left
              · intro w hSw
                (try dsimp only at hSw)
                go_simp
                all_goals (with_reducible rfl)
              try simp only [Act.put, List.setIfInBounds_toArray, List.set_cons_zero, List.set_cons_succ]
              refine wpAnyH_take (i := 10) (oi := ⟨some 124, _, _, _, _, _⟩) (v := ?_) rfl (by kernel_rfl) (by kernel_rfl) (by kernel_rfl) (fun _ _ _ h => h) (Or.inl ⟨by rfl, ?_⟩) (by assumption) ?_
              rotate_left
              · intro w hSw
                (try dsimp only at hSw)
                go_simp
                all_goals (with_reducible rfl)
              try simp only [Act.put, List.setIfInBounds_toArray, List.set_cons_zero, List.set_cons_succ]
              refine wpAnyH_take (i := 11) (oi := ⟨some 125, _, _, _, _, _⟩) (v := ?_) rfl (by kernel_rfl) (by kernel_rfl) (by kernel_rfl) (fun _ _ _ h => h) (Or.inl ⟨by rfl, ?_⟩) (by assumption) ?_
              rotate_left
              · intro w hSw
                (try dsimp only at hSw)
                go_simp
                all_goals (with_reducible rfl)
              try simp only [Act.put, List.setIfInBounds_toArray, List.set_cons_zero, List.set_cons_succ]
              refine wpAnyH_take (i := 12) (oi := ⟨some 126, _, _, _, _, _⟩) (v := ?_) rfl (by kernel_rfl) (by kernel_rfl) (by kernel_rfl) (fun _ _ _ h => h) (Or.inl ⟨by rfl, ?_⟩) (by assumption) ?_
              rotate_left
              · intro w hSw
                have hl1 := (hSw.cell (block_lt_of_cell e1)).trans e1
                go_simp
                all_goals (with_reducible rfl)
              try simp only [Act.put, List.setIfInBounds_toArray, List.set_cons_zero, List.set_cons_succ]
              refine wpAnyH_take (i := 13) (oi := ⟨some 127, _, _, _, _, _⟩) (v := ?_) rfl (by kernel_rfl) (by kernel_rfl) (by kernel_rfl) (fun _ _ _ h => h) (Or.inl ⟨by rfl, ?_⟩) (by assumption) ?_
              rotate_left
              · intro w hSw
                (try dsimp only at hSw)
                go_simp
                all_goals (with_reducible rfl)
              try simp only [Act.put, List.setIfInBounds_toArray, List.set_cons_zero, List.set_cons_succ]
              refine wpAnyH_take (i := 14) (oi := ⟨some 128, _, _, _, _, _⟩) (v := ?_) rfl (by kernel_rfl) (by kernel_rfl) (by kernel_rfl) (fun _ _ _ h => h) (Or.inl ⟨by rfl, ?_⟩) (by assumption) ?_
              rotate_left
              · intro w hSw
                (try dsimp only at hSw)
                go_simp
                all_goals (with_reducible rfl)
              try simp only [Act.put, List.setIfInBounds_toArray, List.set_cons_zero, List.set_cons_succ]
              refine wpAnyH_take (i := 15) (oi := ⟨some 129, _, _, _, _, _⟩) (v := ?_) rfl (by kernel_rfl) (by kernel_rfl) (by kernel_rfl) (fun _ _ _ h => h) (Or.inl ⟨by rfl, ?_⟩) (by assumption) ?_
              rotate_left
              · intro w hSw
                (try dsimp only at hSw)
                go_simp
                all_goals (with_reducible rfl)
              try simp only [Act.put, List.setIfInBounds_toArray, List.set_cons_zero, List.set_cons_succ]
              refine wpAnyH_take (i := 16) (oi := ⟨some 130, _, _, _, _, _⟩) (v := ?_) rfl (by kernel_rfl) (by kernel_rfl) (by kernel_rfl) (fun _ _ _ h => h) (Or.inl ⟨by rfl, ?_⟩) (by assumption) ?_
              rotate_left
              · intro w hSw
                (try dsimp only at hSw)
                go_simp
                all_goals (with_reducible rfl)
              try simp only [Act.put, List.setIfInBounds_toArray, List.set_cons_zero, List.set_cons_succ]
              refine wpAnyH_take (i := 17) (oi := ⟨some 131, _, _, _, _, _⟩) (v := ?_) rfl (by kernel_rfl) (by kernel_rfl) (by kernel_rfl) (fun _ _ _ h => h) (Or.inl ⟨by rfl, ?_⟩) (by assumption) ?_
              rotate_left
              · intro w hSw
                (try dsimp only at hSw)
                go_simp
                all_goals (with_reducible rfl)
              try simp only [Act.put, List.setIfInBounds_toArray, List.set_cons_zero, List.set_cons_succ]
              refine wpAnyH_take (i := 18) (oi := ⟨some 132, _, _, _, _, _⟩) (v := ?_) rfl (by kernel_rfl) (by kernel_rfl) (by kernel_rfl) (fun _ _ _ h => h) (Or.inl ⟨by rfl, ?_⟩) (by assumption) ?_
              rotate_left
              · intro w hSw
                have hl1 := (hSw.cell (block_lt_of_cell d1)).trans d1
                go_simp
                all_goals (with_reducible rfl)
              try simp only [Act.put, List.setIfInBounds_toArray, List.set_cons_zero, List.set_cons_succ]
              refine wpAnyH_take (i := 19) (oi := ⟨some 133, _, _, _, _, _⟩) (v := ?_) rfl (by kernel_rfl) (by kernel_rfl) (by kernel_rfl) (fun _ _ _ h => h) (Or.inl ⟨by rfl, ?_⟩) (by assumption) ?_
              rotate_left
              · intro w hSw
                (try dsimp only at hSw)
                go_simp
                all_goals (with_reducible rfl)
              try simp only [Act.put, List.setIfInBounds_toArray, List.set_cons_zero, List.set_cons_succ]
              refine wpAnyH_take (i := 20) (oi := ⟨some 134, _, _, _, _, _⟩) (v := ?_) rfl (by kernel_rfl) (by kernel_rfl) (by kernel_rfl) (fun _ _ _ h => h) (Or.inl ⟨by rfl, ?_⟩) (by assumption) ?_
              rotate_left
              · intro w hSw
                (try dsimp only at hSw)
                go_simp
                all_goals (with_reducible rfl)
              try simp only [Act.put, List.setIfInBounds_toArray, List.set_cons_zero, List.set_cons_succ]
              refine wpAnyH_take (i := 21) (oi := ⟨some 135, _, _, _, _, _⟩) (v := ?_) rfl (by kernel_rfl) (by kernel_rfl) (by kernel_rfl) (fun _ _ _ h => h) (Or.inl ⟨by rfl, ?_⟩) (by assumption) ?_
              rotate_left
              · intro w hSw
                (try dsimp only at hSw)
                go_simp
                all_goals (with_reducible rfl)
              try simp only [Act.put, List.setIfInBounds_toArray, List.set_cons_zero, List.set_cons_succ]
              refine wpAnyH_done (by kernel_rfl) ?_ _
              have HB8 := Lib.hid (HB7.out.trans (hHeld.mono HB7.out.size))
              have d0 := (hHeld.cell (block_lt_of_cell d0)).trans d0
              have d1 := (hHeld.cell (block_lt_of_cell d1)).trans d1
              have e0 := (hHeld.cell (block_lt_of_cell e0)).trans e0
              have e1 := (hHeld.cell (block_lt_of_cell e1)).trans e1
              have hgd := (hHeld.cell (block_lt_of_cell hgd)).trans hgd
              clear hHeld hb8
              go_wp2
              go_quiet (fail)
              go_wp2
              clear d0 d1 e0 e1 hgd
              go_loopw [22, 23, 183] (fun _ _ s183 wr3 => ∃ j2 : Nat, j2 ≤ x.n ∧ s183 = .int .i64 j2 ∧ Hid (Below w6.heap.size w6 wr3)) (fun _ _ s183 _ => x.n - (Go.RowKit.intOf s183).toNat)
              case atStart => exact ⟨0, by omega, rfl, (below_drewN HB8.out _ : Below w6.heap.size w6 _)⟩
              case round =>
                obtain ⟨j2, hj2, rfl, HBj⟩ := hrel
                have hx20 := HX.out.2.2.2.2.2.2.1
                have hxl := HX.out.2.1.len
                by_cases hlt2 : j2 < x.n
                · obtain ⟨ad2, okx, ee, _, _, d0, d1⟩ := (HV.out.1.below HBj.out (Nat.le_refl _)).get' HX.out.2.2.2.2.1
                  injection ee with ee
                  subst ee
                  obtain ⟨ad3, oky, ee, _, _, e0, e1⟩ := (HV.out.2.2.2.2.1.below HBj.out (Nat.le_refl _)).get' HX.out.2.2.2.2.2.1
                  injection ee with ee
                  subst ee
                  rw [hyn] at e1
                  obtain ⟨xd, hxA, hxd, hxc⟩ := okx.rd.cells (by omega)
                  obtain ⟨yd, hyA, hyd, hyc⟩ := oky.rd.cells (by omega)
                  obtain ⟨v, hv⟩ : ∃ v, x.l[j2]? = some v := ⟨_, List.getElem?_eq_getElem (by omega)⟩
                  have hxv := hxc j2 (IV v) (by rw [List.getElem?_map, hv]; rfl)
                  rw [hxA] at d1
                  rw [hyA] at e1
                  have hj1 : (0 : Int) ≤ (j2 : Int) := by omega
                  have hj3 : (j2 : Int) < (x.n : Int) := by omega
                  have hw5 : IntKind.i64.wrap ((j2 : Int) + 1) = (j2 : Int) + 1 := IntWalk.i64_in _ (by omega)
                  have hyv := HY.out.1 j2 hlt2
                  by_cases hji : j2 = i
                  · rw [if_pos hji] at hyv
                    have hyv := hyc j2 (IV (b : Int)) (by rw [List.getElem?_map, hyv]; rfl)
                    have hjb : ((j2 : Int) == (i : Int)) = true := by simp; omega
                    have HU := Lib.hid hlt2
                    clear hlt2 hji hv hxA hyA hxd hyd hxc hyc okx oky
                    go_wp2
                    (try go_quiet (fail))
                    (try go_wp2)
                    go_roundw
                    case rel => exact ⟨j2 + 1, by have := HU.out; omega, by go_num, HBj.out⟩
                    case measure => have := HU.out; simp [Go.RowKit.intOf]; omega
                  · rw [if_neg hji, hv] at hyv
                    have hyv := hyc j2 (IV v) (by rw [List.getElem?_map, hyv]; rfl)
                    have hjb : ((j2 : Int) == (i : Int)) = false := by simp; omega
                    have HU := Lib.hid hlt2
                    clear hlt2 hji hv hxA hyA hxd hyd hxc hyc okx oky
                    go_wp2
                    (try go_quiet (fail))
                    (try go_wp2)
                    go_roundw
                    case rel => exact ⟨j2 + 1, by have := HU.out; omega, by go_num, HBj.out⟩
                    case measure => have := HU.out; simp [Go.RowKit.intOf]; omega
                · obtain rfl : j2 = x.n := by omega
                  clear hlt2
                  go_wp2
                  go_roundw
                  case rel => exact ⟨g + 1, (kc + 1), by have := HX.out.1; omega, by go_num, by go_num, (⟨HY.out.2, HBj.out⟩ : (kc + 1) = (grp (a : Int) (L.take (g + 1))).length ∧ _)⟩
                  case measure => have := HX.out.1; simp [Go.RowKit.intOf]; omega
            · have hidx := Lib.hid (idxP_out hmem)
              have hye : y.e = x.e := by
                have := congrArg Pl.e HX.out.2.2.2.1
                rw [mv1_e, if_neg (show ¬ (a : Int) ∈ x.pl.l from hmem)] at this
                simpa [Pc.pl] using this
              have hyl : ∀ j : Nat, j < x.n → y.l[j]? = x.l[j]? := fun j _ => by
                have := congrArg Pl.l HX.out.2.2.2.1
                rw [show mv1 (a : Int) (b : Int) x.pl = x.pl from if_neg hmem] at this
                simp only [Pc.pl] at this
                rw [this]
              have hkn : kc = (grp (a : Int) (L.take (g + 1))).length := by
                rw [grp_len_snoc HX.out.2.2.2.2.2.2.2, if_neg (show ¬ (a : Int) ∈ x.pl.l from hmem), ← HB.out.1]
                rfl
              have HY := Lib.hid (And.intro hyl hkn)
              rw [hye] at e0
              clear hmem hyl hkn
              go_wp2_with fail
              refine (index_is _ x.e HX.out.2.1.rd HX.out.2.1.small (a : Int) hidx.out).mono ?_
              rintro e w7 ⟨rfl, hb7⟩
              have HB7 := Lib.hid (HB.out.2.trans (hb7.mono HB.out.2.size))
              have d0 := (hb7.cell (block_lt_of_cell d0)).trans d0
              have d1 := (hb7.cell (block_lt_of_cell d1)).trans d1
              have e0 := (hb7.cell (block_lt_of_cell e0)).trans e0
              have e1 := (hb7.cell (block_lt_of_cell e1)).trans e1
              have oky7 := Lib.hid (HX.out.2.2.1.below hb7 (Nat.le_refl _))
              clear hb7 hload hload'
              go_wp2
              refine wp_region_held_drew (S := fun u => Below w7.heap.size w7 u) (by kernel_rfl) ((Below.refl _ _).drew) (fun hHeld => ?_)
              refine wpAnyH_take (i := 0) (oi := ⟨some 114, _, _, _, _, _⟩) (v := ?_) rfl (by kernel_rfl) (by kernel_rfl) (by kernel_rfl) (fun _ _ _ h => h) (Or.inl ⟨by rfl, ?_⟩) (by assumption) ?_
              rotate_left
              · intro w hSw
                (try dsimp only at hSw)
                go_simp
                all_goals (with_reducible rfl)
              try simp only [Act.put, List.setIfInBounds_toArray, List.set_cons_zero, List.set_cons_succ]
              refine wpAnyH_take (i := 1) (oi := ⟨some 115, _, _, _, _, _⟩) (v := ?_) rfl (by kernel_rfl) (by kernel_rfl) (by kernel_rfl) (fun _ _ _ h => h) (Or.inl ⟨by rfl, ?_⟩) (by assumption) ?_
              rotate_left
              · intro w hSw
                (try dsimp only at hSw)
                go_simp
                all_goals (with_reducible rfl)
              try simp only [Act.put, List.setIfInBounds_toArray, List.set_cons_zero, List.set_cons_succ]
              refine wpAnyH_take (i := 2) (oi := ⟨some 116, _, _, _, _, _⟩) (v := ?_) rfl (by kernel_rfl) (by kernel_rfl) (by kernel_rfl) (fun _ _ _ h => h) (Or.inl ⟨by rfl, ?_⟩) (by assumption) ?_
              rotate_left
              · intro w hSw
                (try dsimp only at hSw)
                go_simp
                all_goals (with_reducible rfl)
              try simp only [Act.put, List.setIfInBounds_toArray, List.set_cons_zero, List.set_cons_succ]
              refine wpAnyH_take (i := 3) (oi := ⟨some 117, _, _, _, _, _⟩) (v := ?_) rfl (by kernel_rfl) (by kernel_rfl) (by kernel_rfl) (fun _ _ _ h => h) (Or.inl ⟨by rfl, ?_⟩) (by assumption) ?_
              rotate_left
              · intro w hSw
                have hl0 := (hSw.cell (block_lt_of_cell e0)).trans e0
                have hl1 := (hSw.cell (block_lt_of_cell e1)).trans e1
                go_simp
                all_goals (with_reducible rfl)
              try simp only [Act.put, List.setIfInBounds_toArray, List.set_cons_zero, List.set_cons_succ]
              refine wpAnyH_take (i := 4) (oi := ⟨some 118, _, _, _, _, _⟩) (v := ?_) rfl (by kernel_rfl) (by kernel_rfl) (by kernel_rfl) (fun _ _ _ h => h) (Or.inl ⟨by rfl, ?_⟩) (by assumption) ?_
              rotate_left
              · intro w hSw
                (try dsimp only at hSw)
                go_simp
                all_goals (with_reducible rfl)
              try simp only [Act.put, List.setIfInBounds_toArray, List.set_cons_zero, List.set_cons_succ]
              refine wpAnyH_ready (rs := [5]) (by kernel_rfl) (by simp) (AllReadyH.cons (o := ⟨some 119, _, _, _, _, _⟩) rfl (fun K hK => ?_) AllReadyH.nil)
              go_simp
              refine (index_is _ _ (n := x.n) (c := y.c) (by have := (oky7.out.rd.below hHeld (Nat.le_refl _)); rw [hyn] at this; exact this) (by have := oky7.out.small; omega) (a : Int) hnm.out).mono ?_
              rintro e w8 ⟨rfl, hb8⟩
              refine hK.out _ _ (hHeld.trans (hb8.mono hHeld.size)) (fun hHeld => ?_)
              clear hK K
              try simp only [Act.put, List.setIfInBounds_toArray, List.set_cons_zero, List.set_cons_succ]
              refine wpAnyH_take (i := 6) (oi := ⟨some 120, _, _, _, _, _⟩) (v := ?_) rfl (by kernel_rfl) (by kernel_rfl) (by kernel_rfl) (fun _ _ _ h => h) (Or.inl ⟨by rfl, ?_⟩) (by assumption) ?_
              rotate_left
              · intro w hSw
                (try dsimp only at hSw)
                go_simp
                all_goals (with_reducible rfl)
              try simp only [Act.put, List.setIfInBounds_toArray, List.set_cons_zero, List.set_cons_succ]
              refine wpAnyH_take (i := 7) (oi := ⟨some 121, _, _, _, _, _⟩) (v := ?_) rfl (by kernel_rfl) (by kernel_rfl) (by kernel_rfl) (fun _ _ _ h => h) (Or.inl ⟨by rfl, ?_⟩) (by assumption) ?_
              rotate_left
              · intro w hSw
                (try dsimp only at hSw)
                go_simp
                all_goals (with_reducible rfl)
              try simp only [Act.put, List.setIfInBounds_toArray, List.set_cons_zero, List.set_cons_succ]
              refine wpAnyH_take (i := 8) (oi := ⟨some 122, _, _, _, _, _⟩) (v := ?_) rfl (by kernel_rfl) (by kernel_rfl) (by kernel_rfl) (fun _ _ _ h => h) (Or.inl ⟨by rfl, ?_⟩) (by assumption) ?_
              rotate_left
              · intro w hSw
                (try dsimp only at hSw)
                go_simp
                all_goals (with_reducible rfl)
              try simp only [Act.put, List.setIfInBounds_toArray, List.set_cons_zero, List.set_cons_succ]
              refine wpAnyH_take (i := 9) (oi := ⟨some 123, _, _, _, _, _⟩) (v := ?_) rfl (by kernel_rfl) (by kernel_rfl) (by kernel_rfl) (fun _ _ _ h => h) (Or.inl ⟨by rfl, ?_⟩) (by assumption) ?_
              rotate_left
              · intro w hSw
                (try dsimp only at hSw)
                go_simp
                all_goals (with_reducible rfl)
              try simp only [Act.put, List.setIfInBounds_toArray, List.set_cons_zero, List.set_cons_succ]
              refine wpAnyH_take (i := 10) (oi := ⟨some 124, _, _, _, _, _⟩) (v := ?_) rfl (by kernel_rfl) (by kernel_rfl) (by kernel_rfl) (fun _ _ _ h => h) (Or.inl ⟨by rfl, ?_⟩) (by assumption) ?_
              rotate_left
              · intro w hSw
                (try dsimp only at hSw)
                go_simp
                all_goals (with_reducible rfl)
              try simp only [Act.put, List.setIfInBounds_toArray, List.set_cons_zero, List.set_cons_succ]
              refine wpAnyH_take (i := 11) (oi := ⟨some 125, _, _, _, _, _⟩) (v := ?_) rfl (by kernel_rfl) (by kernel_rfl) (by kernel_rfl) (fun _ _ _ h => h) (Or.inl ⟨by rfl, ?_⟩) (by assumption) ?_
              rotate_left
              · intro w hSw
                (try dsimp only at hSw)
                go_simp
                all_goals (with_reducible rfl)
              try simp only [Act.put, List.setIfInBounds_toArray, List.set_cons_zero, List.set_cons_succ]
              refine wpAnyH_take (i := 12) (oi := ⟨some 126, _, _, _, _, _⟩) (v := ?_) rfl (by kernel_rfl) (by kernel_rfl) (by kernel_rfl) (fun _ _ _ h => h) (Or.inl ⟨by rfl, ?_⟩) (by assumption) ?_
              rotate_left
              · intro w hSw
                have hl1 := (hSw.cell (block_lt_of_cell e1)).trans e1
                go_simp
                all_goals (with_reducible rfl)
              try simp only [Act.put, List.setIfInBounds_toArray, List.set_cons_zero, List.set_cons_succ]
              refine wpAnyH_take (i := 13) (oi := ⟨some 127, _, _, _, _, _⟩) (v := ?_) rfl (by kernel_rfl) (by kernel_rfl) (by kernel_rfl) (fun _ _ _ h => h) (Or.inl ⟨by rfl, ?_⟩) (by assumption) ?_
              rotate_left
              · intro w hSw
                (try dsimp only at hSw)
                go_simp
                all_goals (with_reducible rfl)
              try simp only [Act.put, List.setIfInBounds_toArray, List.set_cons_zero, List.set_cons_succ]
              refine wpAnyH_take (i := 14) (oi := ⟨some 128, _, _, _, _, _⟩) (v := ?_) rfl (by kernel_rfl) (by kernel_rfl) (by kernel_rfl) (fun _ _ _ h => h) (Or.inl ⟨by rfl, ?_⟩) (by assumption) ?_
              rotate_left
              · intro w hSw
                (try dsimp only at hSw)
                go_simp
                all_goals (with_reducible rfl)
              try simp only [Act.put, List.setIfInBounds_toArray, List.set_cons_zero, List.set_cons_succ]
              refine wpAnyH_take (i := 15) (oi := ⟨some 129, _, _, _, _, _⟩) (v := ?_) rfl (by kernel_rfl) (by kernel_rfl) (by kernel_rfl) (fun _ _ _ h => h) (Or.inl ⟨by rfl, ?_⟩) (by assumption) ?_
              rotate_left
              · intro w hSw
                (try dsimp only at hSw)
                go_simp
                all_goals (with_reducible rfl)
              try simp only [Act.put, List.setIfInBounds_toArray, List.set_cons_zero, List.set_cons_succ]
              refine wpAnyH_take (i := 16) (oi := ⟨some 130, _, _, _, _, _⟩) (v := ?_) rfl (by kernel_rfl) (by kernel_rfl) (by kernel_rfl) (fun _ _ _ h => h) (Or.inl ⟨by rfl, ?_⟩) (by assumption) ?_
              rotate_left
              · intro w hSw
                (try dsimp only at hSw)
                go_simp
                all_goals (with_reducible rfl)
              try simp only [Act.put, List.setIfInBounds_toArray, List.set_cons_zero, List.set_cons_succ]
              refine wpAnyH_take (i := 17) (oi := ⟨some 131, _, _, _, _, _⟩) (v := ?_) rfl (by kernel_rfl) (by kernel_rfl) (by kernel_rfl) (fun _ _ _ h => h) (Or.inl ⟨by rfl, ?_⟩) (by assumption) ?_
              rotate_left
              · intro w hSw
                (try dsimp only at hSw)
                go_simp
                all_goals (with_reducible rfl)
              try simp only [Act.put, List.setIfInBounds_toArray, List.set_cons_zero, List.set_cons_succ]
              refine wpAnyH_take (i := 18) (oi := ⟨some 132, _, _, _, _, _⟩) (v := ?_) rfl (by kernel_rfl) (by kernel_rfl) (by kernel_rfl) (fun _ _ _ h => h) (Or.inl ⟨by rfl, ?_⟩) (by assumption) ?_
              rotate_left
              · intro w hSw
                have hl1 := (hSw.cell (block_lt_of_cell d1)).trans d1
                go_simp
                all_goals (with_reducible rfl)
              try simp only [Act.put, List.setIfInBounds_toArray, List.set_cons_zero, List.set_cons_succ]
              refine wpAnyH_take (i := 19) (oi := ⟨some 133, _, _, _, _, _⟩) (v := ?_) rfl (by kernel_rfl) (by kernel_rfl) (by kernel_rfl) (fun _ _ _ h => h) (Or.inl ⟨by rfl, ?_⟩) (by assumption) ?_
              rotate_left
              · intro w hSw
                (try dsimp only at hSw)
                go_simp
                all_goals (with_reducible rfl)
              try simp only [Act.put, List.setIfInBounds_toArray, List.set_cons_zero, List.set_cons_succ]
              refine wpAnyH_take (i := 20) (oi := ⟨some 134, _, _, _, _, _⟩) (v := ?_) rfl (by kernel_rfl) (by kernel_rfl) (by kernel_rfl) (fun _ _ _ h => h) (Or.inl ⟨by rfl, ?_⟩) (by assumption) ?_
              rotate_left
              · intro w hSw
                (try dsimp only at hSw)
                go_simp
                all_goals (with_reducible rfl)
              try simp only [Act.put, List.setIfInBounds_toArray, List.set_cons_zero, List.set_cons_succ]
              refine wpAnyH_take (i := 21) (oi := ⟨some 135, _, _, _, _, _⟩) (v := ?_) rfl (by kernel_rfl) (by kernel_rfl) (by kernel_rfl) (fun _ _ _ h => h) (Or.inl ⟨by rfl, ?_⟩) (by assumption) ?_
              rotate_left
              · intro w hSw
                (try dsimp only at hSw)
                go_simp
                all_goals (with_reducible rfl)
              try simp only [Act.put, List.setIfInBounds_toArray, List.set_cons_zero, List.set_cons_succ]
              refine wpAnyH_done (by kernel_rfl) ?_ _
              have HB8 := Lib.hid (HB7.out.trans (hHeld.mono HB7.out.size))
              have d0 := (hHeld.cell (block_lt_of_cell d0)).trans d0
              have d1 := (hHeld.cell (block_lt_of_cell d1)).trans d1
              have e0 := (hHeld.cell (block_lt_of_cell e0)).trans e0
              have e1 := (hHeld.cell (block_lt_of_cell e1)).trans e1
              clear hHeld hb8
              go_wp2
              go_quiet (fail)
              go_wp2
              clear d0 d1 e0 e1
              go_loopw [22, 23, 183] (fun _ _ s183 wr3 => ∃ j2 : Nat, j2 ≤ x.n ∧ s183 = .int .i64 j2 ∧ Hid (Below w6.heap.size w6 wr3)) (fun _ _ s183 _ => x.n - (Go.RowKit.intOf s183).toNat)
              case atStart => exact ⟨0, by omega, rfl, (below_drewN HB8.out _ : Below w6.heap.size w6 _)⟩
              case round =>
                obtain ⟨j2, hj2, rfl, HBj⟩ := hrel
                have hx20 := HX.out.2.2.2.2.2.2.1
                have hxl := HX.out.2.1.len
                by_cases hlt2 : j2 < x.n
                · obtain ⟨ad2, okx, ee, _, _, d0, d1⟩ := (HV.out.1.below HBj.out (Nat.le_refl _)).get' HX.out.2.2.2.2.1
                  injection ee with ee
                  subst ee
                  obtain ⟨ad3, oky, ee, _, _, e0, e1⟩ := (HV.out.2.2.2.2.1.below HBj.out (Nat.le_refl _)).get' HX.out.2.2.2.2.2.1
                  injection ee with ee
                  subst ee
                  rw [hyn] at e1
                  obtain ⟨xd, hxA, hxd, hxc⟩ := okx.rd.cells (by omega)
                  obtain ⟨yd, hyA, hyd, hyc⟩ := oky.rd.cells (by omega)
                  obtain ⟨v, hv⟩ : ∃ v, x.l[j2]? = some v := ⟨_, List.getElem?_eq_getElem (by omega)⟩
                  have hxv := hxc j2 (IV v) (by rw [List.getElem?_map, hv]; rfl)
                  rw [hxA] at d1
                  rw [hyA] at e1
                  have hj1 : (0 : Int) ≤ (j2 : Int) := by omega
                  have hj3 : (j2 : Int) < (x.n : Int) := by omega
                  have hw5 : IntKind.i64.wrap ((j2 : Int) + 1) = (j2 : Int) + 1 := IntWalk.i64_in _ (by omega)
                  have hyv := HY.out.1 j2 hlt2
                  rw [hv] at hyv
                  have hyv := hyc j2 (IV v) (by rw [List.getElem?_map, hyv]; rfl)
                  have hjb : ((j2 : Int) == -1) = false := beq_eq_false_iff_ne.2 (by omega)
                  have HU := Lib.hid hlt2
                  clear hlt2 hv hxA hyA hxd hyd hxc hyc okx oky
                  go_wp2
                  (try go_quiet (fail))
                  (try go_wp2)
                  go_roundw
                  case rel => exact ⟨j2 + 1, by have := HU.out; omega, by go_num, HBj.out⟩
                  case measure => have := HU.out; simp [Go.RowKit.intOf]; omega
                · obtain rfl : j2 = x.n := by omega
                  clear hlt2
                  go_wp2
                  go_roundw
                  case rel => exact ⟨g + 1, kc, by have := HX.out.1; omega, by go_num, by go_num, (⟨HY.out.2, HBj.out⟩ : kc = (grp (a : Int) (L.take (g + 1))).length ∧ _)⟩
                  case measure => have := HX.out.1; simp [Go.RowKit.intOf]; omega
          · obtain rfl : g = n4 := by omega
            have hkc : kc = m4 := by
              have h1 := HB.out.1
              rw [List.take_of_length_le (by have := HV.out.2.2.2.1; omega)] at h1
              have h2 := HML.out.1
              omega
            subst hkc
            clear hlt
            go_wp2_with fail
            refine (awake_is _).mono ?_
            rintro e w7 ⟨rfl, hb7⟩
            go_wp2
            go_ret
            have h1 := HV.out.2.2.1.trans (HB.out.2.mono HV.out.2.2.1.size)
            exact ⟨rfl, h1.trans (hb7.mono h1.size)⟩
end
end Go.Proofs.Ytbilbfjmfaignaa
