/- The law DiskTwice. -/
import Derived.Test.YtlhhijhmjkgnaaaFam
import Derived.Test.YtlhhijhmjkgnaaaLawN
namespace Go.Proofs.Ytlhhijhmjkgnaaa
open Go.RowKit Go.Coop
set_option maxRecDepth 100000

/-- a disk that the inner loop is upon -/
def Inn (wk : World) (g m : Nat) (S : DS) (wq : World) : Prop := ∃ c, wk.heap.size ≤ c ∧ DiskAt wq g m c S ∧ Below wk.heap.size wk wq
/-- so many disks are made -/
def Outer (w0 : World) (b k : Nat) (T : DS) (wr : World) : Prop := ∃ gs ms cs, Fam wr w0.heap.size b k gs ms cs (fun _ => T.armedBy 1000) ∧ Below w0.heap.size w0 wr ∧ (k ≠ 0 → T.down = false)
theorem fam_const {w : World} {B b k j : Nat} {gs ms cs : Nat → Nat} {T : DS} (h : Fam w B b k gs ms cs (upd (fun _ => T) j T)) : Fam w B b k gs ms cs (fun _ => T) := by
  have : upd (fun _ : Nat => T) j T = fun _ => T := by funext i; unfold upd; split <;> rfl
  rwa [this] at h

theorem does_n (S : DS) (o : OpV) : (S.does o).n = S.n := by
  unfold DS.does DS.writeOf DS.flushOf DS.spoilOf DS.armOf
  repeat' split
  all_goals rfl
theorem runs_n (S : DS) (os : List OpV) : (S.runs os).n = S.n := by
  unfold DS.runs
  induction os generalizing S with
  | nil => rfl
  | cons o os ih => rw [List.foldl_cons, ih, does_n]
theorem crash_twice (S : DS) (a b : List Bool) (i : Nat) : (((S.crashed a).crashed b).took.flushed).at_ i = (S.crashed a).at_ i := by
  have : ((S.crashed a).crashed b).kept b i = false := by unfold DS.kept; rfl
  show ((S.crashed a).crashed b).at_ i = _
  show (if (S.crashed a).kept b i = true then (S.crashed a).at_ i else (S.crashed a).med i) = (S.crashed a).at_ i
  have h : (S.crashed a).kept b i = false := rfl
  rw [h]
  rfl
theorem rank_le (S : DS) (i : Nat) : S.rank i ≤ i := by
  unfold DS.rank
  have := List.length_filter_le (fun j => (S.cache j).isSome) (List.range i)
  rwa [List.length_range] at this
def all8 : List Bool := [true, true, true, true, true, true, true, true]
theorem crash_all (S : DS) {i : Nat} (hi : i < 8) : ((S.took.flushed).crashed []).at_ i = (S.crashed all8).at_ i := by
  have h : (S.took.flushed).kept [] i = false := rfl
  show (if (S.took.flushed).kept [] i = true then (S.took.flushed).at_ i else (S.took.flushed).med i) = (if S.kept all8 i = true then S.at_ i else S.med i)
  rw [h]
  show S.at_ i = _
  have hr : all8[S.rank i]? = some true := by
    have := rank_le S i
    have h8 : S.rank i < 8 := by omega
    match S.rank i, h8 with
    | 0, _ => rfl
    | 1, _ => rfl
    | 2, _ => rfl
    | 3, _ => rfl
    | 4, _ => rfl
    | 5, _ => rfl
    | 6, _ => rfl
    | 7, _ => rfl
  unfold DS.kept
  rw [hr]
  unfold DS.at_
  cases S.cache i <;> simp
theorem crashed_cached (S : DS) (ks : List Bool) : (S.crashed ks).cached.length = 0 := by
  unfold DS.cached
  have : (fun i => ((S.crashed ks).cache i).isSome) = fun _ => false := rfl
  rw [this]
  simp
theorem dd_flush_goes (w : World) {g m c : Nat} {S : DS} (h : DiskAt w g m c S) (hd : S.down = false) (hf : S.fails = false) : Calls Try.prog 20 #[.pointer (some ⟨g, 0, none⟩)] w (Did g m c S.took.flushed (.int .i64 0) w) :=
  (flush_goes w h hd hf).mono fun _ _ ⟨he, c', hD, hB, hc⟩ => ⟨he, c', hD, hB.mono (by simp; try omega), .inr hc⟩
theorem cached_len (w : World) {g m c : Nat} {S : DS} (h : DiskAt w g m c S) {n : Nat} (hl : S.cached.length = n) : Calls Try.prog 32 #[.pointer (some ⟨g, 0, none⟩)] w fun e w' => ∃ A cap, e = .returned (.slice A n cap) ∧ Below w.heap.size w w' :=
  (cached_yes w h).mono fun _ _ ⟨A, cap, he, _, hb⟩ => ⟨A, cap, by rw [he, hl], hb⟩
theorem twice_law (F : Option Addr) (mo co : Nat) (os : List OpV) (A1 : Option Addr) (n1 c1 : Nat) (k1 : List Bool) (A2 : Option Addr) (n2 c2 : Nat) (k2 : List Bool) (w : World) (ho : OpsAt w F mo os) (hmo : mo ≤ 9223372036854775807)
    (h1 : RdV w A1 n1 (bools k1)) (h2 : RdV w A2 n2 (bools k2)) (hn1 : n1 ≤ 9223372036854775807) (hn2 : n2 ≤ 9223372036854775807) :
    Calls Try.prog 7 #[.slice F mo co, .slice A1 n1 c1, .slice A2 n2 c2] w (LawP w) := by
  obtain ⟨T, hT⟩ : ∃ T, (DS.new 8).runs (os.take 60) = T := ⟨_, rfl⟩
  have HT := Lib.hid hT
  have HO := Lib.hid ho
  have HK := Lib.hid (And.intro h1 (And.intro h2 (And.intro hn1 hn2)))
  clear hT ho h1 h2 hn1 hn2
  have h0 : Hid (Outer w w.heap.size 0 T (w.alloc (.cells #[.pointer none, .pointer none, .pointer none, .pointer none] 67))) :=
    ⟨fun _ => 0, fun _ => 0, fun _ => 0, ⟨by simp, Nat.le_refl _, heap_alloc_new w _, fun i hi => by omega, fun i j hi => by omega, fun i hi => by omega⟩, (Below.refl _ _).alloc (Nat.le_refl _) _, fun h => absurd rfl h⟩
  go_enter Try.func7, Try.ntmps7
  go_wp2
  obtain ⟨b, hb⟩ : ∃ b, w.heap.size = b := ⟨_, rfl⟩
  rw [hb] at h0 ⊢
  obtain ⟨wa, hwa⟩ : ∃ wa, w.alloc (.cells #[.pointer none, .pointer none, .pointer none, .pointer none] 67) = wa := ⟨_, rfl⟩
  rw [hwa] at h0 ⊢
  have HB := Lib.hid hb
  clear hwa hb
  go_loopw [14] (fun i wr => ∃ k : Nat, k ≤ 4 ∧ i = .int .i64 k ∧ Hid (Outer w b k T wr)) (fun i _ => 4 - (Go.RowKit.intOf i).toNat)
  case atStart => exact ⟨0, by omega, rfl, h0.out⟩
  case round =>
    obtain ⟨k, hk, rfl, HQ⟩ := hrel
    obtain ⟨wo, hwo⟩ : ∃ wo, wo = wr := ⟨wr, rfl⟩
    subst hwo
    clear h0
    by_cases hlt : k < 4
    · have hdk : decide ((k : Int) < 4) = true := by simp; omega
      have HKL := Lib.hid hlt
      go_wp2_with fail
      refine (new_yes 8 (by omega) (by omega) wo).mono ?_
      rintro e w2 ⟨g, m, c, rfl, hD, hg, hm, hc, hBn⟩
      have HN := Lib.hid (And.intro hg (And.intro hm (show Inn wo g m ((DS.new 8).runs (os.take 0)) w2 from ⟨c, hc, hD, hBn⟩)))
      clear hD hg hm hc hBn
      go_wp2
      go_loopw [11] (fun i wr => ∃ j : Nat, j ≤ mo ∧ j ≤ 60 ∧ i = .int .i64 j ∧ Hid (Inn wo g m ((DS.new 8).runs (os.take j)) wr)) (fun i _ => 60 - (Go.RowKit.intOf i).toNat)
      case atStart => exact ⟨0, by omega, by omega, rfl, HN.out.2.2⟩
      case round =>
        obtain ⟨j, hj, hj6, rfl, HI⟩ := hrel
        by_cases hjm : j < mo
        · by_cases hj60 : j < 60
          · obtain ⟨c', hc', hDq, hBq⟩ := HI.out
            obtain ⟨gs, ms, cs, hF, hBf, hk0⟩ := HQ.out
            have hBt := hBf.trans (hBq.mono hBf.size)
            obtain ⟨o, ad, hoj, hok, rfl, hload, _⟩ := (HO.out.below hBt (Nat.le_refl _)).get hjm
            have HX := Lib.hid (And.intro hDq (And.intro hok (And.intro (runs_step (DS.new 8) hoj) (And.intro hc' hBq))))
            clear hDq hBq hF hBf hk0 hBt hok hoj hc'
            go_wp2_with (refine wpList_load rfl 47 _ rfl _ rfl _ hload ?_)
            refine (does_any _ HX.out.1 o HX.out.2.1).mono ?_
            rintro e w4 ⟨rfl, c4, hD4, hB4, hc4⟩
            have hI4 : Hid (Inn wo g m ((DS.new 8).runs (os.take (j + 1))) w4) := by
              refine ⟨c4, ?_, by rw [HX.out.2.2.1]; exact hD4, HX.out.2.2.2.2.trans (hB4.below HX.out.2.2.2.2.size (by simp; exact ⟨HN.out.1, HN.out.2.1, HX.out.2.2.2.1⟩))⟩
              have := HX.out.2.2.2.2.size
              have := HX.out.2.2.2.1
              omega
            clear hD4 hB4 hc4 hload
            go_wp2
            go_roundw
            case rel => exact ⟨j + 1, by omega, by omega, by go_num, hI4.out⟩
            case measure => simp [Go.RowKit.intOf]; omega
          · obtain rfl : j = 60 := by omega
            have HE : Hid (Inn wo g m T wr) := by rw [← HT.out]; exact HI.out
            obtain ⟨ci, hci, hDi, hBi⟩ := HE.out
            have HDi := Lib.hid (And.intro hDi (And.intro hci hBi))
            clear hDi hci hBi
            cases hTd : T.down
            · have HTd := Lib.hid hTd
              clear hTd
              go_wp2_with fail
              refine (down_yes _ HDi.out.1).mono ?_
              rintro e w5 ⟨rfl, rfl⟩
              rw [HTd.out]
              go_wp2_with fail
              refine (arm_up _ HDi.out.1 HTd.out 1000 (by omega)).mono ?_
              rintro e w6 ⟨rfl, hD6, hB6⟩
              obtain ⟨gs, ms, cs, hF, hBf, hk0⟩ := HQ.out
              have hb6 : Below wo.heap.size wo w6 := HDi.out.2.2.trans (hB6.below HDi.out.2.2.size (by simp; exact HN.out.1))
              have hmore := hF.more HKL.out hb6 HN.out.1 HN.out.2.1 HDi.out.2.1 hD6
              have hF6 := hF.below hb6
              have hcb : w6.cell? ⟨b, k, none⟩ = some (.pointer none) := by rw [cell_of_row w6 b k _ 67 (0, 0) hF6.arr, arrP_get gs HKL.out, if_neg (by omega)]
              have hfb : w6.frozen? ⟨b, k, none⟩ = false := frozen_of_row w6 b k _ 67 hF6.arr
              have HM := Lib.hid (And.intro hmore hBf)
              clear hmore hF6 hb6 hD6 hB6 hF hBf hk0
              go_wp2
              go_roundw
              case rel => exact ⟨k + 1, by omega, by go_num, _, _, _, fam_const HM.out.1.1, HM.out.2.trans HM.out.1.2, fun _ => HTd.out⟩
              case measure => simp [Go.RowKit.intOf]; omega
            · have HTd := Lib.hid hTd
              clear hTd
              go_wp2_with fail
              refine (down_yes _ HDi.out.1).mono ?_
              rintro e w5 ⟨rfl, rfl⟩
              rw [HTd.out]
              go_wp2_with fail
              refine (awake_any _).mono ?_
              rintro e wz ⟨rfl, hz⟩
              have HZ := Lib.hid hz
              clear hz
              go_wp2
              go_ret
              obtain ⟨gs, ms, cs, hF, hBf, hk0⟩ := HQ.out
              exact ⟨rfl, hBf.trans ((HDi.out.2.2.mono hBf.size).trans (HZ.out.mono (Nat.le_trans hBf.size HDi.out.2.2.size)))⟩
        · obtain rfl : j = mo := by omega
          have HE : Hid (Inn wo g m T wr) := by
            rw [← HT.out]
            have h1 := HI.out
            have hl := HO.out.len
            rw [List.take_of_length_le (by omega)] at h1
            rw [List.take_of_length_le (by omega)]
            exact h1
          obtain ⟨ci, hci, hDi, hBi⟩ := HE.out
          have HDi := Lib.hid (And.intro hDi (And.intro hci hBi))
          clear hDi hci hBi
          cases hTd : T.down
          · have HTd := Lib.hid hTd
            clear hTd
            go_wp2_with fail
            refine (down_yes _ HDi.out.1).mono ?_
            rintro e w5 ⟨rfl, rfl⟩
            rw [HTd.out]
            go_wp2_with fail
            refine (arm_up _ HDi.out.1 HTd.out 1000 (by omega)).mono ?_
            rintro e w6 ⟨rfl, hD6, hB6⟩
            obtain ⟨gs, ms, cs, hF, hBf, hk0⟩ := HQ.out
            have hb6 : Below wo.heap.size wo w6 := HDi.out.2.2.trans (hB6.below HDi.out.2.2.size (by simp; exact HN.out.1))
            have hmore := hF.more HKL.out hb6 HN.out.1 HN.out.2.1 HDi.out.2.1 hD6
            have hF6 := hF.below hb6
            have hcb : w6.cell? ⟨b, k, none⟩ = some (.pointer none) := by rw [cell_of_row w6 b k _ 67 (0, 0) hF6.arr, arrP_get gs HKL.out, if_neg (by omega)]
            have hfb : w6.frozen? ⟨b, k, none⟩ = false := frozen_of_row w6 b k _ 67 hF6.arr
            have HM := Lib.hid (And.intro hmore hBf)
            clear hmore hF6 hb6 hD6 hB6 hF hBf hk0
            go_wp2
            go_roundw
            case rel => exact ⟨k + 1, by omega, by go_num, _, _, _, fam_const HM.out.1.1, HM.out.2.trans HM.out.1.2, fun _ => HTd.out⟩
            case measure => simp [Go.RowKit.intOf]; omega
          · have HTd := Lib.hid hTd
            clear hTd
            go_wp2_with fail
            refine (down_yes _ HDi.out.1).mono ?_
            rintro e w5 ⟨rfl, rfl⟩
            rw [HTd.out]
            go_wp2_with fail
            refine (awake_any _).mono ?_
            rintro e wz ⟨rfl, hz⟩
            have HZ := Lib.hid hz
            clear hz
            go_wp2
            go_ret
            obtain ⟨gs, ms, cs, hF, hBf, hk0⟩ := HQ.out
            exact ⟨rfl, hBf.trans ((HDi.out.2.2.mono hBf.size).trans (HZ.out.mono (Nat.le_trans hBf.size HDi.out.2.2.size)))⟩
    · obtain rfl : k = 4 := by omega
      obtain ⟨gs, ms, cs, hF, hBf, hd0⟩ := HQ.out
      have HTd := Lib.hid (hd0 (by omega))
      have HF0 := Lib.hid hF
      have HB0 := Lib.hid hBf
      have HTn : Hid (T.n = 8) := by show T.n = 8; rw [← HT.out, runs_n]; rfl
      clear hF hBf hd0
      have hc := HF0.out.cell (i := 0) (by decide) (by decide)
      go_wp2_with fail
      refine (dd_crash _ (HF0.out.dsk 0 (by decide)) A1 n1 c1 k1 (HK.out.1.below HB0.out (Nat.le_refl _)) HK.out.2.2.1).mono ?_
      rintro e v1 hd
      obtain ⟨x1, rfl, hF, hB⟩ := HF0.out.step (by decide) hd
      have HF1 := Lib.hid hF
      have HB1 := Lib.hid (HB0.out.trans hB)
      clear hF hB hd hc HF0 HB0
      have hc := HF1.out.cell (i := 1) (by decide) (by decide)
      go_wp2_with fail
      refine (dd_crash _ (HF1.out.dsk 1 (by decide)) A1 n1 c1 k1 (HK.out.1.below HB1.out (Nat.le_refl _)) HK.out.2.2.1).mono ?_
      rintro e v2 hd
      obtain ⟨x2, rfl, hF, hB⟩ := HF1.out.step (by decide) hd
      have HF2 := Lib.hid hF
      have HB2 := Lib.hid (HB1.out.trans hB)
      clear hF hB hd hc HF1 HB1
      have hc := HF2.out.cell (i := 1) (by decide) (by decide)
      go_wp2_with fail
      refine (dd_crash _ (HF2.out.dsk 1 (by decide)) A2 n2 c2 k2 (HK.out.2.1.below HB2.out (Nat.le_refl _)) HK.out.2.2.2).mono ?_
      rintro e v3 hd
      obtain ⟨x3, rfl, hF, hB⟩ := HF2.out.step (by decide) hd
      have HF3 := Lib.hid hF
      have HB3 := Lib.hid (HB2.out.trans hB)
      clear hF hB hd hc HF2 HB2
      have hc := HF3.out.cell (i := 1) (by decide) (by decide)
      go_wp2_with fail
      refine (dd_flush_goes _ (HF3.out.dsk 1 (by decide)) rfl rfl).mono ?_
      rintro e v4 hd
      obtain ⟨x4, rfl, hF, hB⟩ := HF3.out.step (by decide) hd
      have HF4 := Lib.hid hF
      have HB4 := Lib.hid (HB3.out.trans hB)
      clear hF hB hd hc HF3 HB3
      have hc0 := HF4.out.cell (i := 0) (by decide) (by decide)
      have hc1 := HF4.out.cell (i := 1) (by decide) (by decide)
      go_wp2_with fail
      refine (same_disks _ (HF4.out.dsk 0 (by decide)) (HF4.out.dsk 1 (by decide)) rfl rfl (fun i _ => (crash_twice (T.armedBy 1000) k1 k2 i).symm)).mono ?_
      rintro e v5 ⟨rfl, hB⟩
      have HF5 := Lib.hid (HF4.out.below hB)
      have HB5 := Lib.hid (HB4.out.trans (hB.mono HB4.out.size))
      clear hB hc0 hc1 HF4 HB4
      have hc := HF5.out.cell (i := 2) (by decide) (by decide)
      go_wp2_with fail
      refine (dd_flush_goes _ (HF5.out.dsk 2 (by decide)) HTd.out rfl).mono ?_
      rintro e v6 hd
      obtain ⟨x6, rfl, hF, hB⟩ := HF5.out.step (by decide) hd
      have HF6 := Lib.hid hF
      have HB6 := Lib.hid (HB5.out.trans hB)
      clear hF hB hd hc HF5 HB5
      have hc := HF6.out.cell (i := 2) (by decide) (by decide)
      go_wp2_with fail
      refine (dd_crash _ (HF6.out.dsk 2 (by decide)) none 0 0 [] (RdV.nil _ _) (by omega)).mono ?_
      rintro e v7 hd
      obtain ⟨x7, rfl, hF, hB⟩ := HF6.out.step (by decide) hd
      have HF7 := Lib.hid hF
      have HB7 := Lib.hid (HB6.out.trans hB)
      clear hF hB hd hc HF6 HB6
      have hc := HF7.out.cell (i := 3) (by decide) (by decide)
      have hgo : Below v7.heap.size v7 (v7.alloc (.cells (bools all8).toArray 4)) := (Below.refl _ _).alloc (Nat.le_refl _) _
      have HL := Lib.hid (And.intro (HF7.out.below hgo) (HB7.out.trans (hgo.mono HB7.out.size)))
      clear hgo
      go_wp2_with fail
      clear hc
      refine (dd_crash _ (HL.out.1.dsk 3 (by decide)) _ _ _ all8 (RdV.new v7 (bools all8) 4 (0, 0)) (by decide)).mono ?_
      rintro e v8 hd
      obtain ⟨x8, rfl, hF, hB⟩ := HL.out.1.step (by decide) hd
      have HF8 := Lib.hid hF
      have HB8 := Lib.hid (HL.out.2.trans hB)
      clear hF hB hd HL HF7 HB7
      have hc2 := HF8.out.cell (i := 2) (by decide) (by decide)
      have hc3 := HF8.out.cell (i := 3) (by decide) (by decide)
      go_wp2_with fail
      refine (same_disks _ (HF8.out.dsk 2 (by decide)) (HF8.out.dsk 3 (by decide)) rfl rfl (fun i hi => crash_all (T.armedBy 1000) (by have h8 : i < T.n := hi; rw [HTn.out] at h8; exact h8))).mono ?_
      rintro e v9 ⟨rfl, hB⟩
      have HF9 := Lib.hid (HF8.out.below hB)
      have HB9 := Lib.hid (HB8.out.trans (hB.mono HB8.out.size))
      clear hB hc2 hc3 HF8 HB8
      have hc3 := HF9.out.cell (i := 3) (by decide) (by decide)
      go_wp2_with fail
      refine (cached_len _ (HF9.out.dsk 3 (by decide)) (n := 0) (crashed_cached _ _)).mono ?_
      rintro e v10 ⟨Ac, cc, rfl, hB⟩
      have HB10 := Lib.hid (HB9.out.trans (hB.mono HB9.out.size))
      clear hB hc3 HF9 HB9
      go_wp2_with fail
      refine (awake_any _).mono ?_
      rintro e wz ⟨rfl, hz⟩
      have HZ := Lib.hid hz
      clear hz
      go_wp2
      go_ret
      exact ⟨rfl, HB10.out.trans (HZ.out.mono HB10.out.size)⟩
end Go.Proofs.Ytlhhijhmjkgnaaa
