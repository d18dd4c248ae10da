/- PlaceBack's walk. -/
import Derived.Test.YtbilbfjmfaignaaLawSp
import Derived.Test.YtbilbfjmfaignaaMvP
namespace Go.Proofs.Ytbilbfjmfaignaa
open Go.RowKit Go.Coop
set_option maxRecDepth 100000
/-- what the two ways make of the placements -/
structure BackP (L : List Pl) (a b c : Int) : Prop where
  m1 : moveP L a b = (L.map (mv1 a b), grp a L, 0)
  m2 : moveP (L.map (mv1 a b)) b a = (L.map (fun q => if a ∈ q.l then ⟨q.e + 2, q.l⟩ else q), grp a L, 0)
  m3 : c ≠ a → moveP (L.map (mv1 a b)) c 60 = ((L.map (mv1 a b)).map (mv1 c 60), grp c (L.map (mv1 a b)), 0)
  m4 : moveP L c 60 = (L.map (mv1 c 60), grp c L, 0)
  m5 : c ≠ a → moveP (L.map (mv1 c 60)) a b = ((L.map (mv1 a b)).map (mv1 c 60), grp a (L.map (mv1 c 60)), 0)
theorem backP {L : List Pl} (h : Nice 9 L) {a b c : Int} (ha : 0 ≤ a ∧ a < 40) (hb : 40 ≤ b ∧ b < 49) (hc : 0 ≤ c ∧ c < 40) : BackP L a b c := by
  have h0 := h.fair
  have hbo : ∀ p ∈ L, b ∉ p.l := fun p hp => fair_out h0 hb.1 hp
  have h60 : ∀ p ∈ L, (60 : Int) ∉ p.l := fun p hp => fair_out h0 (by omega) hp
  have h1 : Fairly 49 10 (L.map (mv1 a b)) := mv1_fair (h0.weaken (M := 49) (u := 9) (by omega) (Nat.le_refl _)) (by omega) (fun p hp hh => hbo p hp hh.2)
  have h4 : Fairly 61 10 (L.map (mv1 c 60)) := mv1_fair (h0.weaken (M := 61) (u := 9) (by omega) (Nat.le_refl _)) (by omega) (fun p hp hh => h60 p hp hh.2)
  refine ⟨fair_go h0 (by omega) (by omega) (by omega) (by omega) (by omega) (fun p hp hh => hbo p hp hh.2), ?_, fun hca => ?_, fair_go h0 (by omega) (by omega) (by omega) (by omega) (by omega) (fun p hp hh => h60 p hp hh.2), fun hca => ?_⟩
  · rw [fair_go h1 (by omega) (by omega) (by omega) (by omega) (by omega)]
    · rw [List.map_map]
      have e1 : L.map (mv1 b a ∘ mv1 a b) = L.map (fun q => if a ∈ q.l then ⟨q.e + 2, q.l⟩ else q) := by
        apply List.map_congr_left
        intro q hq
        exact mv1_back (hbo q hq)
      have e2 : grp b (L.map (mv1 a b)) = grp a L := grpF_congr L 0 (fun q hq => mem_mv1 (hbo q hq))
      rw [e1, e2]
    · intro p hp hh
      obtain ⟨q, hq, rfl⟩ := List.mem_map.1 hp
      exact not_mv1 (h0.each q hq).1.2 (by omega) hh.2
  · refine fair_go h1 (by omega) (by omega) (by omega) (by omega) (by omega) (fun p hp hh => ?_)
    exact fair_out h1 (by omega) hp hh.2
  · rw [fair_go h4 (by omega) (by omega) (by omega) (by omega) (by omega)]
    · rw [List.map_map, List.map_map]
      have e1 : L.map (mv1 a b ∘ mv1 c 60) = L.map (mv1 c 60 ∘ mv1 a b) := by
        apply List.map_congr_left
        intro q hq
        exact (mv1_comm (a := a) (b := b) (c := c) (d := 60) (by omega) (by omega) (by omega) (by omega) (by omega) (by omega)).symm
      rw [e1]
    · intro p hp hh
      obtain ⟨q, hq, rfl⟩ := List.mem_map.1 hp
      exact hbo q hq ((other_mv1 (by omega) (by omega)).1 hh.2)
section
variable (w : World)
set_option maxHeartbeats 4000000 in
theorem back_law {M : Option Addr} {m cm : Nat} {ms : List (Nat × Nat)} (hM : MsAt w M m ms) (hm : m ≤ 9223372036854775807) (x0 x1 x2 f o : Nat) (h0 : x0 < 256) (h1 : x1 < 256) (h2 : x2 < 256) (hf : f < 256) (ho : o < 256) :
    Calls Try.prog 7 #[.agg #[.int .u8 x0, .int .u8 x1, .int .u8 x2], .slice M m cm, .int .u8 f, .int .u8 o] w (Told w true) := by
  obtain ⟨w1, hw1⟩ : ∃ v, w.alloc (.cells #[.int .u8 x0, .int .u8 x1, .int .u8 x2] 49) = v := ⟨_, rfl⟩
  obtain ⟨hb1, hx1⟩ := box_new hw1
  obtain ⟨b0, hb⟩ : ∃ b, w.heap.size = b := ⟨_, rfl⟩
  rw [hb] at hx1
  obtain ⟨c0, c1, c2⟩ := arr49 hx1
  have HE := Lib.hid (And.intro hb1 (hM.below hb1 (Nat.le_refl _)))
  clear hb1 hx1 hM
  go_enter Try.func7, Try.ntmps7
  go_wp2_with fail
  (try rw [hb]); (try rw [hw1])
  refine (placed_is _ HE.out.2 hm x0 x1 x2 h0 h1 h2).mono ?_
  rintro e w2 ⟨A, n, ps, rfl, hpo, hpl, hb2⟩
  have hn := hpo.n_eq hpl
  have hnice := placed_nice x0 x1 x2 ms
  obtain ⟨L, hL⟩ : ∃ L, placedP x0 x1 x2 ms = L := ⟨_, rfl⟩
  rw [hL] at hpl hn hnice
  obtain ⟨a, ha⟩ : ∃ a, f % 40 = a := ⟨_, rfl⟩
  obtain ⟨b1, hb1⟩ : ∃ a, f % 9 = a := ⟨_, rfl⟩
  obtain ⟨b, hbb⟩ : ∃ a, 40 + b1 = a := ⟨_, rfl⟩
  obtain ⟨c, hc⟩ : ∃ a, o % 40 = a := ⟨_, rfl⟩
  have hal : a < 40 := by have := Nat.mod_lt f (show 0 < 40 by omega); omega
  have hbl : b1 < 9 := by have := Nat.mod_lt f (show 0 < 9 by omega); omega
  have hcl : c < 40 := by have := Nat.mod_lt o (show 0 < 40 by omega); omega
  have hP := backP hnice (a := (a : Int)) (b := (b : Int)) (c := (c : Int)) (by omega) (by omega) (by omega)
  have hn40 : n ≤ 40 := by have := hnice.few; omega
  have f1 : (f : Int) % 40 = (a : Int) := by omega
  have t1 : (f : Int).tmod 40 = (a : Int) := by rw [Int.tmod_eq_emod_of_nonneg (by omega)]; exact f1
  have q1 : IntKind.i64.wrap (a : Int) = (a : Int) := IntWalk.i64_in _ (by omega)
  have f2 : (f : Int) % 9 = (b1 : Int) := by omega
  have t2 : (f : Int).tmod 9 = (b1 : Int) := by rw [Int.tmod_eq_emod_of_nonneg (by omega)]; exact f2
  have q2 : IntKind.i64.wrap (b1 : Int) = (b1 : Int) := IntWalk.i64_in _ (by omega)
  have q3 : IntKind.i64.wrap (40 + (b1 : Int)) = (b : Int) := (IntWalk.i64_in _ (by omega)).trans (by omega)
  have f3 : (o : Int) % 40 = (c : Int) := by omega
  have t3 : (o : Int).tmod 40 = (c : Int) := by rw [Int.tmod_eq_emod_of_nonneg (by omega)]; exact f3
  have q4 : IntKind.i64.wrap (c : Int) = (c : Int) := IntWalk.i64_in _ (by omega)
  have HP := Lib.hid hP
  have HNi := Lib.hid hnice
  have HQ := Lib.hid (And.intro hpo.pl (And.intro hpl (And.intro (HE.out.1.trans (hb2.mono HE.out.1.size)) (And.intro hn hn40))))
  have HC := Lib.hid (show a < 40 ∧ 40 ≤ b ∧ b < 49 ∧ c < 40 by omega)
  clear HE hpo hpl hb2 hn hnice hL ha hb1 hbb hc hal hbl hcl hP hn40 c0 c1 c2 hw1 hb hf ho h0 h1 h2
  go_wp2_with fail
  refine (move_is _ HQ.out.1 (by have := HQ.out.2.2.2.2; omega) (a : Int) (b : Int)).mono ?_
  rintro e w3 ⟨A3, n3, ps3, G3, m3, mc3, rfl, hpo, hq, _, hG, _, hb3⟩
  rw [HQ.out.2.1, HP.out.m1] at hq hG ⊢
  simp only at hq hG ⊢
  have hn3 := hpo.n_eq hq
  rw [List.length_map] at hn3
  have hnn := HQ.out.2.2.2.1
  obtain rfl : n3 = n := by omega
  have HR := Lib.hid (And.intro (HQ.out.1.below hb3 (Nat.le_refl _)) (And.intro HQ.out.2.1 (And.intro (HQ.out.2.2.1.trans (hb3.mono HQ.out.2.2.1.size)) (And.intro HQ.out.2.2.2 (And.intro hpo.pl (And.intro hq hG))))))
  clear HQ hpo hq hG hb3 hn3 hnn
  go_wp2_with fail
  refine (move_is _ HR.out.2.2.2.2.1 (by have := HR.out.2.2.2.1.2; omega) (b : Int) (a : Int)).mono ?_
  rintro e w4 ⟨A4, n4, ps4, G4, m4, mc4, rfl, hpo, hq, _, hG, _, hb4⟩
  rw [HR.out.2.2.2.2.2.1, HP.out.m2] at hq hG ⊢
  simp only at hq hG ⊢
  have hn4 := hpo.n_eq hq
  rw [List.length_map] at hn4
  have hnn := HR.out.2.2.2.1.1
  obtain rfl : n4 = n3 := by omega
  have HS := Lib.hid (And.intro (HR.out.1.below hb4 (Nat.le_refl _)) (And.intro HR.out.2.1 (And.intro (HR.out.2.2.1.trans (hb4.mono HR.out.2.2.1.size)) (And.intro HR.out.2.2.2.1 (And.intro (HR.out.2.2.2.2.1.below hb4 (Nat.le_refl _)) (And.intro HR.out.2.2.2.2.2.1 (And.intro (HR.out.2.2.2.2.2.2.below hb4 (Nat.le_refl _)) (And.intro hpo.pl (And.intro hq hG)))))))))
  clear HR hpo hq hG hb4 hn4 hnn
  have hm3 : m3 ≤ 1000 := by
    have h1 := HS.out.2.2.2.2.2.2.1.len
    have h2 := grpF_le (a : Int) L 0
    have h3 := HS.out.2.2.2.1
    simp at h1
    unfold grp at h1
    omega
  go_wp2_with fail
  refine (sameInts_is _ HS.out.2.2.2.2.2.2.1 HS.out.2.2.2.2.2.2.2.2.2 (by omega) (q := true) (by simp)).mono ?_
  rintro e w5 ⟨rfl, d5, hw5⟩
  have hb5 : Below w4.heap.size w4 w5 := by rw [hw5]; exact below_drewN (Below.refl _ _) _
  have HT := Lib.hid (And.intro (HS.out.1.below hb5 (Nat.le_refl _)) (And.intro HS.out.2.1 (And.intro (HS.out.2.2.1.trans (hb5.mono HS.out.2.2.1.size)) (And.intro HS.out.2.2.2.1 (And.intro (HS.out.2.2.2.2.1.below hb5 (Nat.le_refl _)) (And.intro HS.out.2.2.2.2.2.1 (And.intro (HS.out.2.2.2.2.2.2.2.1.below hb5 (Nat.le_refl _)) HS.out.2.2.2.2.2.2.2.2.1)))))))
  clear HS hw5 hb5 hm3
  go_wp2
  go_loopw [19, 20, 84] (fun _ _ s84 wr => ∃ j : Nat, j ≤ n4 ∧ s84 = .int .i64 j ∧ Hid (Below w5.heap.size w5 wr)) (fun _ _ s84 _ => n4 - (Go.RowKit.intOf s84).toNat)
  case atStart => exact ⟨0, by omega, rfl, (Below.refl _ _ : Below w5.heap.size w5 w5)⟩
  case round =>
    clear f1 t1 f2 t2 q2 q3
    obtain ⟨j, hj, rfl, HB⟩ := hrel
    have hn40 := HT.out.2.2.2.1.2
    by_cases hlt : j < n4
    · obtain ⟨x, hx⟩ : ∃ x, ps[j]? = some x := ⟨_, List.getElem?_eq_getElem (by rw [HT.out.1.len]; exact hlt)⟩
      obtain ⟨y, hy⟩ : ∃ y, ps4[j]? = some y := ⟨_, List.getElem?_eq_getElem (by rw [HT.out.2.2.2.2.2.2.1.len]; exact hlt)⟩
      have hxy : y.pl = if (a : Int) ∈ x.l then ⟨x.e + 2, x.l⟩ else x.pl := by
        have h1 := congrArg (fun l => l[j]?) HT.out.2.2.2.2.2.2.2
        rw [← HT.out.2.1] at h1
        simp [hx, hy] at h1
        exact h1
      obtain ⟨ad, okx, rfl, hadl, hload, d0, d1⟩ := (HT.out.1.below HB.out (Nat.le_refl _)).get' hx
      obtain ⟨ad', oky, rfl, hadl', hload', _, _⟩ := (HT.out.2.2.2.2.2.2.1.below HB.out (Nat.le_refl _)).get' hy
      have hxe : 1 ≤ x.e ∧ x.e ≤ 9 := by
        have h1 : x.pl ∈ L := by rw [← HT.out.2.1]; exact List.mem_map.2 ⟨x, mem_at hx, rfl⟩
        have := (HNi.out.each _ h1).2.2
        simp only [Pc.pl] at this
        omega
      have hi1 : (0 : Int) ≤ (j : Int) := by omega
      have hi2 : (j : Int) < (n4 : Int) := by omega
      have hw1 : IntKind.i64.wrap ((j : Int) + 1) = (j : Int) + 1 := IntWalk.i64_in _ (by omega)
      have hw2 : IntKind.i64.wrap (x.e + 2) = x.e + 2 := IntWalk.i64_in _ (by omega)
      have hw3 : IntKind.i64.wrap x.e = x.e := IntWalk.i64_in _ (by omega)
      have HX := Lib.hid (And.intro hx (And.intro hy (And.intro hxy (And.intro okx (And.intro oky hlt)))))
      clear hx hy hxy okx oky hlt hadl hadl' hload' hxe
      by_cases hmem : (a : Int) ∈ x.l
      · obtain ⟨i, hii⟩ : ∃ i, idxN (a : Int) x.l = i := ⟨_, rfl⟩
        have hidx := Lib.hid (idxP_in hmem)
        rw [hii] at hidx
        have hxy := HX.out.2.2.1
        rw [if_pos hmem] at hxy
        have hye : y.e = x.e + 2 := congrArg Pl.e hxy
        have hyl : y.l = x.l := congrArg Pl.l hxy
        have hlb := Lib.hid (decide_eq_true hyl)
        have HM := Lib.hid hmem
        have hip : (0 : Int) ≤ (i : Int) := by omega
        clear hmem hxy hyl hii
        go_wp2_with fail
        refine (index_is _ x.e HX.out.2.2.2.1.rd HX.out.2.2.2.1.small (a : Int) hidx.out).mono ?_
        rintro e w6 ⟨rfl, hb6⟩
        have HB6 := Lib.hid (HB.out.trans (hb6.mono HB.out.size))
        have d0' := (hb6.cell (block_lt_of_cell d0)).trans d0
        have d1' := (hb6.cell (block_lt_of_cell d1)).trans d1
        obtain ⟨ad2, oky6, e2, _, _, e0, e1⟩ := (HT.out.2.2.2.2.2.2.1.below HB6.out (Nat.le_refl _)).get' HX.out.2.1
        injection e2 with e2
        subst e2
        have okx6 := HX.out.2.2.2.1.below hb6 (Nat.le_refl _)
        have HO := Lib.hid (And.intro okx6 oky6)
        rw [hye] at e0
        clear hb6 okx6 oky6 hload d0 d1
        go_wp2
        go_quiet (first | (go_at_call 26; refine Calls.quiet_of (sameInts_is _ (HO.out.2.rd.drewN _) (HO.out.1.rd.drewN _) HO.out.2.small hlb.out)))
        go_wp2
        go_roundw
        case rel => exact ⟨j + 1, by have := HX.out.2.2.2.2.2; omega, by go_num, below_drewN HB6.out _⟩
        case measure => have := HX.out.2.2.2.2.2; simp [Go.RowKit.intOf]; omega
      · have hidx := Lib.hid (idxP_out hmem)
        have hxy := HX.out.2.2.1
        rw [if_neg hmem] at hxy
        have hye : y.e = x.e := congrArg Pl.e hxy
        have hyl : y.l = x.l := congrArg Pl.l hxy
        have hlb := Lib.hid (decide_eq_true hyl)
        clear hmem hxy hyl
        go_wp2_with fail
        refine (index_is _ x.e HX.out.2.2.2.1.rd HX.out.2.2.2.1.small (a : Int) hidx.out).mono ?_
        rintro e w6 ⟨rfl, hb6⟩
        have HB6 := Lib.hid (HB.out.trans (hb6.mono HB.out.size))
        have d0' := (hb6.cell (block_lt_of_cell d0)).trans d0
        have d1' := (hb6.cell (block_lt_of_cell d1)).trans d1
        obtain ⟨ad2, oky6, e2, _, _, e0, e1⟩ := (HT.out.2.2.2.2.2.2.1.below HB6.out (Nat.le_refl _)).get' HX.out.2.1
        injection e2 with e2
        subst e2
        have okx6 := HX.out.2.2.2.1.below hb6 (Nat.le_refl _)
        have HO := Lib.hid (And.intro okx6 oky6)
        rw [hye] at e0
        clear hb6 okx6 oky6 hload d0 d1
        go_wp2
        go_quiet (first | (go_at_call 26; refine Calls.quiet_of (sameInts_is _ (HO.out.2.rd.drewN _) (HO.out.1.rd.drewN _) HO.out.2.small hlb.out)))
        go_wp2
        go_roundw
        case rel => exact ⟨j + 1, by have := HX.out.2.2.2.2.2; omega, by go_num, below_drewN HB6.out _⟩
        case measure => have := HX.out.2.2.2.2.2; simp [Go.RowKit.intOf]; omega
    · obtain rfl : j = n4 := by omega
      clear hlt
      by_cases hca : (c : Int) = (a : Int)
      · have hcab : ((c : Int) == (a : Int)) = true := by simpa using hca
        clear hca
        go_wp2_with fail
        refine (awake_is _).mono ?_
        rintro e w6 ⟨rfl, hb6⟩
        go_wp2
        go_ret
        have h1 := HT.out.2.2.1.trans (HB.out.mono HT.out.2.2.1.size)
        exact ⟨rfl, h1.trans (hb6.mono h1.size)⟩
      · have hcab : ((c : Int) == (a : Int)) = false := by simpa using hca
        have HCA := Lib.hid hca
        clear hca
        go_wp2_with fail
        refine (move_is _ (HT.out.2.2.2.2.1.below HB.out (Nat.le_refl _)) (by omega) (c : Int) 60).mono ?_
        rintro e w6 ⟨A6, n6, ps6, G6, m6, mc6, rfl, hpo, hq, _, _, _, hb6⟩
        rw [HT.out.2.2.2.2.2.1, HP.out.m3 HCA.out] at hq ⊢
        simp only at hq ⊢
        have HB6 := Lib.hid (HB.out.trans (hb6.mono HB.out.size))
        have HP6 := Lib.hid (And.intro hpo.pl hq)
        clear hpo hq hb6 f3 t3 q4
        go_wp2_with fail
        refine (move_is _ (HT.out.1.below HB6.out (Nat.le_refl _)) (by omega) (c : Int) 60).mono ?_
        rintro e w7 ⟨A7, n7, ps7, G7, m7, mc7, rfl, hpo, hq, hn7, _, _, hb7⟩
        rw [HT.out.2.1, HP.out.m4] at hq ⊢
        simp only at hq ⊢
        have HB7 := Lib.hid (HB6.out.trans (hb7.mono HB6.out.size))
        have HP7 := Lib.hid (And.intro (HP6.out.1.below hb7 (Nat.le_refl _)) (And.intro HP6.out.2 (And.intro hpo.pl hq)))
        clear hpo hq hb7 HP6 HB6
        go_wp2_with fail
        refine (move_is _ HP7.out.2.2.1 (by omega) (a : Int) (b : Int)).mono ?_
        rintro e w8 ⟨A8, n8, ps8, G8, m8, mc8, rfl, hpo, hq, _, _, _, hb8⟩
        rw [HP7.out.2.2.2, HP.out.m5 HCA.out] at hq ⊢
        simp only at hq ⊢
        have HB8 := Lib.hid (HB7.out.trans (hb8.mono HB7.out.size))
        have HP8 := Lib.hid (And.intro (HP7.out.1.below hb8 (Nat.le_refl _)) (And.intro HP7.out.2.1 (And.intro hpo.pl hq)))
        have hn6 : n6 ≤ 40 := by
          have h1 := HP8.out.1.len
          have h2 := congrArg List.length HP8.out.2.1
          have h3 := HT.out.2.2.2.1.1
          simp at h2
          omega
        clear hpo hq hb8 HP7 HB7
        go_wp2_with fail
        refine (samePl_is _ HP8.out.1 HP8.out.2.2.1 (by omega) (q := true) (by rw [HP8.out.2.1, HP8.out.2.2.2]; simp)).mono ?_
        rintro e w9 ⟨rfl, d9, hw9⟩
        have HB9 : Hid (Below w5.heap.size w5 w9) := by
          show Below _ _ w9
          rw [hw9]
          exact below_drewN HB8.out _
        clear hw9
        go_wp2_with fail
        refine (awake_is _).mono ?_
        rintro e w10 ⟨rfl, hb10⟩
        go_wp2
        go_ret
        have h1 := HT.out.2.2.1.trans (HB9.out.mono HT.out.2.2.1.size)
        exact ⟨rfl, h1.trans (hb10.mono h1.size)⟩
end
end Go.Proofs.Ytbilbfjmfaignaa
