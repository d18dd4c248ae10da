/- The law DiskRefused. -/
import Derived.Test.YtlhhijhmjkgnaaaLawT
namespace Go.Proofs.Ytlhhijhmjkgnaaa
open Go.RowKit Go.Coop
set_option maxRecDepth 100000

/-- two disks beside each other -/
structure Two (w : World) (B ga ma ca gb mb cb : Nat) (S T : DS) : Prop where
  base : B ≤ w.heap.size
  a : DiskAt w ga ma ca S
  b : DiskAt w gb mb cb T
  ap : Ap ga ma ca gb mb cb
  la : B ≤ ga ∧ B ≤ ma ∧ B ≤ ca
  lb : B ≤ gb ∧ B ≤ mb ∧ B ≤ cb
section
variable {w w' : World} {B ga ma ca gb mb cb : Nat} {S T : DS}
theorem Two.below (h : Two w B ga ma ca gb mb cb S T) (hb : Below w.heap.size w w') : Two w' B ga ma ca gb mb cb S T :=
  ⟨Nat.le_trans h.base hb.size, h.a.below hb (Nat.le_refl _), h.b.below hb (Nat.le_refl _), h.ap, h.la, h.lb⟩
theorem Two.stepA (h : Two w B ga ma ca gb mb cb S T) {S' : DS} {r : Value} {e : Ending} (hd : Did ga ma ca S' r w e w') : ∃ c2, e = .returned r ∧ Two w' B ga ma c2 gb mb cb S' T ∧ Below B w w' := by
  obtain ⟨he, c2, hD, hB, hc2⟩ := hd
  have hla := h.la
  have hbase := h.base
  exact ⟨c2, he, ⟨Nat.le_trans h.base hB.size, hD, other_keep hB h.b h.ap, ap_step h.ap hc2 h.b, ⟨hla.1, hla.2.1, by omega⟩, h.lb⟩, hB.below h.base (by simp; exact hla)⟩
theorem Two.stepB (h : Two w B ga ma ca gb mb cb S T) {T' : DS} {r : Value} {e : Ending} (hd : Did gb mb cb T' r w e w') : ∃ c2, e = .returned r ∧ Two w' B ga ma ca gb mb c2 S T' ∧ Below B w w' := by
  obtain ⟨he, c2, hD, hB, hc2⟩ := hd
  have hlb := h.lb
  have hbase := h.base
  exact ⟨c2, he, ⟨Nat.le_trans h.base hB.size, other_keep hB h.a h.ap.symm, hD, (ap_step h.ap.symm hc2 h.a).symm, h.la, ⟨hlb.1, hlb.2.1, by omega⟩⟩, hB.below h.base (by simp; exact hlb)⟩
end
def Ref2 (w0 : World) (ga ma gb mb : Nat) (wr : World) : Prop := ∃ ca cb S, S.n = 8 ∧ Two wr w0.heap.size ga ma ca gb mb cb S S ∧ Below w0.heap.size w0 wr
theorem dd_arm_yes (w : World) {g m c : Nat} {S : DS} (h : DiskAt w g m c S) (n : Int) (hn : n ≤ 9223372036854775807) : Calls Try.prog 19 #[.pointer (some ⟨g, 0, none⟩), .int .i64 n] w (Did g m c (S.armOf n) (.tuple #[]) w) := dd_arm w h n hn

theorem down_k (w : World) {g m c : Nat} {S : DS} (h : DiskAt w g m c S) {q : Bool} (hq : S.down = q) : Calls Try.prog 31 #[.pointer (some ⟨g, 0, none⟩)] w fun e w' => e = .returned (.bool q) ∧ w = w' := by
  rw [← hq]
  exact down_yes w h
theorem cached_le (S : DS) : S.cached.length ≤ S.n := by
  unfold DS.cached
  have := List.length_filter_le (fun j => (S.cache j).isSome) (List.range S.n)
  rwa [List.length_range] at this
theorem refused_law (az : Nat) (haz : az < 256) (F : Option Addr) (mo co : Nat) (os : List OpV) (w : World) (ho : OpsAt w F mo os) (hmo : mo ≤ 9223372036854775807) :
    Calls Try.prog 8 #[.int .u8 (az : Int), .slice F mo co] w (LawP w) := by
  obtain ⟨kz, hk, hkz⟩ : ∃ k : Nat, k < 31 ∧ (az : Int) % 31 = (k : Int) := ⟨az % 31, by omega, by omega⟩
  have HO := Lib.hid ho
  clear ho
  go_enter Try.func8, Try.ntmps8
  go_wp2_with fail
  refine (new_yes 8 (by omega) (by omega) _).mono ?_
  rintro e w1 ⟨ga, ma, ca, rfl, hDa, h1, h2, h3, hB1⟩
  have HA := Lib.hid (And.intro hDa (And.intro h1 (And.intro h2 (And.intro h3 hB1))))
  clear hDa h1 h2 h3 hB1
  go_wp2_with fail
  refine (new_yes 8 (by omega) (by omega) _).mono ?_
  rintro e w2 ⟨gb, mb, cb, rfl, hDb, h1, h2, h3, hB2⟩
  have hg := HA.out.1.g_lt
  have hm := HA.out.1.m_lt
  have hc := HA.out.1.c_lt
  have hs := HA.out.2.2.2.2.size
  have HT := Lib.hid (And.intro (⟨Nat.le_trans hs hB2.size, HA.out.1.below hB2 (Nat.le_refl _), hDb, ⟨by omega, by omega, by omega, by omega, by omega, by omega, by omega, by omega, by omega⟩, ⟨HA.out.2.1, HA.out.2.2.1, HA.out.2.2.2.1⟩, ⟨by omega, by omega, by omega⟩⟩ : Two w2 w.heap.size ga ma ca gb mb cb (DS.new 8) (DS.new 8)) (HA.out.2.2.2.2.trans (hB2.mono hs)))
  clear hDb h1 h2 h3 hB2 hg hm hc hs HA
  go_wp2_with fail
  refine (dd_arm_yes _ HT.out.1.a kz (by omega)).mono ?_
  rintro e w3 hd
  obtain ⟨c2, rfl, hT, hB⟩ := HT.out.1.stepA hd
  have HT3 := Lib.hid (And.intro hT (HT.out.2.trans hB))
  clear hd hT hB HT
  go_wp2_with fail
  refine (dd_arm_yes _ HT3.out.1.b kz (by omega)).mono ?_
  rintro e w4 hd
  obtain ⟨c3, rfl, hT, hB⟩ := HT3.out.1.stepB hd
  have h0 : Hid (Ref2 w ga ma gb mb w4) := ⟨c2, c3, (DS.new 8).armOf kz, rfl, hT, HT3.out.2.trans hB⟩
  clear hd hT hB HT3
  go_wp2
  go_loopw [9] (fun i wr => ∃ j : Nat, j ≤ mo ∧ j ≤ 60 ∧ i = .int .i64 j ∧ Hid (Ref2 w ga ma gb mb wr)) (fun i _ => 60 - (Go.RowKit.intOf i).toNat)
  case atStart => exact ⟨0, by omega, by omega, rfl, h0.out⟩
  case round =>
    obtain ⟨j, hj, hj6, rfl, HR⟩ := hrel
    clear h0
    by_cases hjm : j < mo
    · by_cases hj60 : j < 60
      · obtain ⟨xa, xb, S, hn, hT, hB⟩ := HR.out
        obtain ⟨o, ad, hoj, hok, rfl, hload, hkind⟩ := (HO.out.below hB (Nat.le_refl _)).get hjm
        have HX := Lib.hid (And.intro hT (And.intro hB (And.intro hok hn)))
        have HLD := Lib.hid hload
        have HOW : Hid (o.Ok w) := (HO.out.at_ _ o hoj).1
        clear hT hB hok hn HR
        by_cases hk9 : o.kind = 9
        · rw [hk9] at hkind
          clear hk9 hload hoj
          go_wp2
          go_roundw
          case rel => exact ⟨j + 1, by omega, by omega, by go_num, _, _, S, HX.out.2.2.2, HX.out.1, HX.out.2.1⟩
          case measure => simp [Go.RowKit.intOf]; omega
        · have hk9' : decide (o.kind = 9) = false := by simpa using hk9
          have HOJ := Lib.hid hoj
          have HOK : ∀ {W : World}, Below w.heap.size w W → o.Ok W := fun hb => HOW.out.below hb (Nat.le_refl _)
          cases hsd : S.down
          · have HS := Lib.hid hsd
            clear hsd hoj
            go_wp2_with (refine wpList_load rfl 47 _ rfl _ rfl _ HLD.out ?_)
            refine (does_any _ HX.out.1.a o HX.out.2.2.1).mono ?_
            rintro e v1 hd
            obtain ⟨y1, rfl, hT, hB⟩ := HX.out.1.stepA hd
            have HT1 := Lib.hid (And.intro hT (HX.out.2.1.trans hB))
            clear hd hT hB hload hkind
            go_wp2_with fail
            refine (of_any 1 _).mono ?_
            rintro e v2 ⟨rfl, hw⟩
            have hb2 : Below v1.heap.size v1 v2 := by rw [hw]; exact (Below.refl _ _).alloc (Nat.le_refl _) _
            have HT2 := Lib.hid (And.intro (HT1.out.1.below hb2) (HT1.out.2.trans (hb2.mono HT1.out.2.size)))
            clear hw hb2 HT1
            go_wp2_with fail
            refine (write_sector _ HT2.out.1.b HS.out (i := 8) (.inr (by have := HX.out.2.2.2; omega)) _).mono ?_
            rintro e v3 ⟨rfl, rfl⟩
            have hb3 : Below v2.heap.size v2 (v2.alloc (.cells #[.int .u8 1] 5)) := (Below.refl _ _).alloc (Nat.le_refl _) _
            have HT3 := Lib.hid (And.intro (HT2.out.1.below hb3) (HT2.out.2.trans (hb3.mono HT2.out.2.size)))
            clear hb3
            go_wp2_with fail
            refine (write_arg _ HT3.out.1.b HS.out (i := 0) (by have := HX.out.2.2.2; omega) _ 1 _ (by decide)).mono ?_
            rintro e v4 ⟨rfl, rfl⟩
            go_wp2_with fail
            refine (down_k _ HT3.out.1.b HS.out).mono ?_
            rintro e v5 ⟨rfl, rfl⟩
            go_wp2_with fail
            refine (down_k _ HT3.out.1.b HS.out).mono ?_
            rintro e v5 ⟨rfl, rfl⟩
            obtain ⟨o', ad', hoj', _, had', hload, _⟩ := (HO.out.below HT3.out.2 (Nat.le_refl _)).get hjm
            injection had' with had'
            subst had'
            obtain rfl : o' = o := by have := HOJ.out; rw [hoj'] at this; injection this
            clear hoj'
            go_wp2_with (refine wpList_load rfl 47 _ rfl _ rfl _ hload ?_)
            have hok3 := HOK HT3.out.2
            refine (does_any _ HT3.out.1.b o' hok3).mono ?_
            rintro e v6 hd
            obtain ⟨y6, rfl, hT, hB⟩ := HT3.out.1.stepB hd
            have HT6 := Lib.hid (And.intro hT (HT3.out.2.trans hB))
            clear hd hT hB hload hok3 HT2
            obtain ⟨q, hq⟩ : ∃ q, (S.does o').down = q := ⟨_, rfl⟩
            have HQ := Lib.hid hq
            clear hq
            go_wp2_with fail
            refine (down_k _ HT6.out.1.a HQ.out).mono ?_
            rintro e v7 ⟨rfl, rfl⟩
            go_wp2_with fail
            refine (down_k _ HT6.out.1.b HQ.out).mono ?_
            rintro e v8 ⟨rfl, rfl⟩
            go_wp2_with fail
            refine (same_disks _ HT6.out.1.a HT6.out.1.b rfl rfl (fun _ _ => rfl)).mono ?_
            rintro e v9 ⟨rfl, hB⟩
            have HT9 := Lib.hid (And.intro (HT6.out.1.below hB) (HT6.out.2.trans (hB.mono HT6.out.2.size)))
            clear hB HT6
            go_wp2_with fail
            refine (cached_yes _ HT9.out.1.a).mono ?_
            rintro e v10 ⟨C1, cc1, rfl, hR, hB⟩
            have HT10 := Lib.hid (And.intro (HT9.out.1.below hB) (And.intro (HT9.out.2.trans (hB.mono HT9.out.2.size)) hR))
            clear hB hR HT9
            go_wp2_with fail
            refine (cached_yes _ HT10.out.1.b).mono ?_
            rintro e v11 ⟨C2, cc2, rfl, hR, hB⟩
            have HT11 := Lib.hid (And.intro (HT10.out.1.below hB) (And.intro (HT10.out.2.1.trans (hB.mono HT10.out.2.1.size)) (And.intro (HT10.out.2.2.below hB (Nat.le_refl _)) hR)))
            clear hB hR HT10
            have HCL : Hid ((S.does o').cached.length ≤ 1000000) := by have := cached_le (S.does o'); rw [does_n, HX.out.2.2.2] at this; exact Nat.le_trans this (by decide)
            go_wp2_with fail
            refine (sameints_k _ _ _ (S.does o').cached _ _ _ (S.does o').cached _ HT11.out.2.2.1 HT11.out.2.2.2 HCL.out HCL.out (q := true) (beq_self_eq_true _)).mono ?_
            rintro e v12 ⟨rfl, n12, hw⟩
            have hB12 : Below v11.heap.size v11 v12 := by rw [hw]; exact ⟨rfl, rfl, rfl, Nat.le_refl _, fun _ _ => rfl⟩
            have HT12 := Lib.hid (And.intro (HT11.out.1.below hB12) (HT11.out.2.1.trans (hB12.mono HT11.out.2.1.size)))
            clear hw hB12 HT11
            go_wp2
            go_roundw
            case rel => exact ⟨j + 1, by omega, by omega, by go_num, _, _, S.does o', by rw [does_n]; exact HX.out.2.2.2, HT12.out.1, HT12.out.2⟩
            case measure => simp [Go.RowKit.intOf]; omega
          · have HS := Lib.hid hsd
            clear hsd hoj
            go_wp2_with (refine wpList_load rfl 47 _ rfl _ rfl _ HLD.out ?_)
            refine (does_any _ HX.out.1.a o HX.out.2.2.1).mono ?_
            rintro e v1 hd
            obtain ⟨y1, rfl, hT, hB⟩ := HX.out.1.stepA hd
            have HT1 := Lib.hid (And.intro hT (HX.out.2.1.trans hB))
            clear hd hT hB hload hkind
            go_wp2_with fail
            refine (of_any 1 _).mono ?_
            rintro e v2 ⟨rfl, hw⟩
            have hb2 : Below v1.heap.size v1 v2 := by rw [hw]; exact (Below.refl _ _).alloc (Nat.le_refl _) _
            have HT2 := Lib.hid (And.intro (HT1.out.1.below hb2) (HT1.out.2.trans (hb2.mono HT1.out.2.size)))
            clear hw hb2 HT1
            go_wp2_with fail
            refine (write_down _ HT2.out.1.b HS.out _ _).mono ?_
            rintro e v3 ⟨rfl, rfl⟩
            have hb3 : Below v2.heap.size v2 (v2.alloc (.cells #[.int .u8 1] 5)) := (Below.refl _ _).alloc (Nat.le_refl _) _
            have HT3 := Lib.hid (And.intro (HT2.out.1.below hb3) (HT2.out.2.trans (hb3.mono HT2.out.2.size)))
            clear hb3
            go_wp2_with fail
            refine (write_down _ HT3.out.1.b HS.out _ _).mono ?_
            rintro e v4 ⟨rfl, rfl⟩
            go_wp2_with fail
            refine (down_k _ HT3.out.1.b HS.out).mono ?_
            rintro e v5 ⟨rfl, rfl⟩
            go_wp2_with fail
            refine (down_k _ HT3.out.1.b HS.out).mono ?_
            rintro e v5 ⟨rfl, rfl⟩
            obtain ⟨o', ad', hoj', _, had', hload, _⟩ := (HO.out.below HT3.out.2 (Nat.le_refl _)).get hjm
            injection had' with had'
            subst had'
            obtain rfl : o' = o := by have := HOJ.out; rw [hoj'] at this; injection this
            clear hoj'
            go_wp2_with (refine wpList_load rfl 47 _ rfl _ rfl _ hload ?_)
            have hok3 := HOK HT3.out.2
            refine (does_any _ HT3.out.1.b o' hok3).mono ?_
            rintro e v6 hd
            obtain ⟨y6, rfl, hT, hB⟩ := HT3.out.1.stepB hd
            have HT6 := Lib.hid (And.intro hT (HT3.out.2.trans hB))
            clear hd hT hB hload hok3 HT2
            obtain ⟨q, hq⟩ : ∃ q, (S.does o').down = q := ⟨_, rfl⟩
            have HQ := Lib.hid hq
            clear hq
            go_wp2_with fail
            refine (down_k _ HT6.out.1.a HQ.out).mono ?_
            rintro e v7 ⟨rfl, rfl⟩
            go_wp2_with fail
            refine (down_k _ HT6.out.1.b HQ.out).mono ?_
            rintro e v8 ⟨rfl, rfl⟩
            go_wp2_with fail
            refine (same_disks _ HT6.out.1.a HT6.out.1.b rfl rfl (fun _ _ => rfl)).mono ?_
            rintro e v9 ⟨rfl, hB⟩
            have HT9 := Lib.hid (And.intro (HT6.out.1.below hB) (HT6.out.2.trans (hB.mono HT6.out.2.size)))
            clear hB HT6
            go_wp2_with fail
            refine (cached_yes _ HT9.out.1.a).mono ?_
            rintro e v10 ⟨C1, cc1, rfl, hR, hB⟩
            have HT10 := Lib.hid (And.intro (HT9.out.1.below hB) (And.intro (HT9.out.2.trans (hB.mono HT9.out.2.size)) hR))
            clear hB hR HT9
            go_wp2_with fail
            refine (cached_yes _ HT10.out.1.b).mono ?_
            rintro e v11 ⟨C2, cc2, rfl, hR, hB⟩
            have HT11 := Lib.hid (And.intro (HT10.out.1.below hB) (And.intro (HT10.out.2.1.trans (hB.mono HT10.out.2.1.size)) (And.intro (HT10.out.2.2.below hB (Nat.le_refl _)) hR)))
            clear hB hR HT10
            have HCL : Hid ((S.does o').cached.length ≤ 1000000) := by have := cached_le (S.does o'); rw [does_n, HX.out.2.2.2] at this; exact Nat.le_trans this (by decide)
            go_wp2_with fail
            refine (sameints_k _ _ _ (S.does o').cached _ _ _ (S.does o').cached _ HT11.out.2.2.1 HT11.out.2.2.2 HCL.out HCL.out (q := true) (beq_self_eq_true _)).mono ?_
            rintro e v12 ⟨rfl, n12, hw⟩
            have hB12 : Below v11.heap.size v11 v12 := by rw [hw]; exact ⟨rfl, rfl, rfl, Nat.le_refl _, fun _ _ => rfl⟩
            have HT12 := Lib.hid (And.intro (HT11.out.1.below hB12) (HT11.out.2.1.trans (hB12.mono HT11.out.2.1.size)))
            clear hw hB12 HT11
            go_wp2
            go_roundw
            case rel => exact ⟨j + 1, by omega, by omega, by go_num, _, _, S.does o', by rw [does_n]; exact HX.out.2.2.2, HT12.out.1, HT12.out.2⟩
            case measure => simp [Go.RowKit.intOf]; omega
      · obtain rfl : j = 60 := by omega
        go_wp2_with fail
        refine (awake_any _).mono ?_
        rintro e wz ⟨rfl, hz⟩
        have HZ := Lib.hid hz
        clear hz
        go_wp2
        go_ret
        obtain ⟨xa, xb, S, hn, hT, hB⟩ := HR.out
        exact ⟨rfl, hB.trans (HZ.out.mono hB.size)⟩
    · obtain rfl : j = mo := by omega
      go_wp2_with fail
      refine (awake_any _).mono ?_
      rintro e wz ⟨rfl, hz⟩
      have HZ := Lib.hid hz
      clear hz
      go_wp2
      go_ret
      obtain ⟨xa, xb, S, hn, hT, hB⟩ := HR.out
      exact ⟨rfl, hB.trans (HZ.out.mono hB.size)⟩
end Go.Proofs.Ytlhhijhmjkgnaaa
