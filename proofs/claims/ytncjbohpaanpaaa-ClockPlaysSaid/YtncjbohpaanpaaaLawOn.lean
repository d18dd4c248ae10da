/- The law ClockOnce. Made by gon8.py. -/
import Derived.Test.YtncjbohpaanpaaaOncP
import Derived.Deep.CutBlock
import Derived.Deep.CutRange
namespace Go.Proofs.Ytncjbohpaanpaaa
open Go.RowKit Go.Coop Go.Maps
set_option maxRecDepth 100000
/-- a call's cells -/
structure OpC (w : World) (ad : Addr) (j : Nat) (o : OpV) : Prop where
  lt : ad.block < w.heap.size
  c0 : w.cell? (ad.add (j * 3)) = some (.int .i64 o.kd)
  c1 : w.cell? ⟨(ad.add (j * 3)).block, (ad.add (j * 3)).off + 1, none⟩ = some (.int .i64 o.id)
  c2 : w.cell? ⟨(ad.add (j * 3)).block, (ad.add (j * 3)).off + 2, none⟩ = some (.int .i64 o.dt)
theorem OpC.below {w w' : World} {ad : Addr} {j : Nat} {o : OpV} (h : OpC w ad j o) (hb : Below w.heap.size w w') : OpC w' ad j o :=
  ⟨Nat.lt_of_lt_of_le h.lt hb.size, (hb.cell (by rw [addr_add_block]; exact h.lt)).trans h.c0, (hb.cell (by show (ad.add (j * 3)).block < _; rw [addr_add_block]; exact h.lt)).trans h.c1, (hb.cell (by show (ad.add (j * 3)).block < _; rw [addr_add_block]; exact h.lt)).trans h.c2⟩
theorem OpsAt.opc {w : World} {F : Option Addr} {m : Nat} {os : List OpV} (h : OpsAt w F m os) {i : Nat} (hi : i < m) : ∃ o ad, os[i]? = some o ∧ o.Ok ∧ F = some ad ∧ OpC w ad i o := by
  obtain ⟨o, ad, h1, h2, h3, h4, h5, h6⟩ := h.get hi
  exact ⟨o, ad, h1, h2, h3, by have := block_lt_of_cell h4; rwa [addr_add_block] at this, h4, h5, h6⟩
theorem row36_new {w w1 : World} {t : Tm} (h : w.alloc (.cells #[.int .i64 t.due, .int .i64 t.id] 36) = w1) : Below w.heap.size w w1 ∧ w1.heap[w.heap.size]? = some (.cells #[.int .i64 t.due, .int .i64 t.id] 36 (0, 0)) := by
  subst h
  exact ⟨(Below.refl _ _).alloc (Nat.le_refl _) _, heap_alloc_new _ _⟩
set_option maxHeartbeats 4000000 in
theorem once_law (F : Option Addr) (m cap : Nat) (os : List OpV) (w : World) (hos : OpsAt w F m os) (hmm : m ≤ 9223372036854775807) : Calls Try.prog 6 #[.slice F m cap] w (Awake w) := by
  have hmk := @run_makeMap Try.prog
  have mixed : Try.prog.follows Departure.mixedOrders = true := by kernel_rfl
  have H := Lib.hid (And.intro hos hmm)
  clear hos hmm
  go_enter Try.func6, Try.ntmps6
  go_wp2_with fail
  refine (ck_new _ 200 (by decide) (by decide)).mono ?_
  rintro e w1 ⟨g, c, rfl, hC, hb, hg1, hg2, hc1, hc2⟩
  obtain ⟨w2, hw2⟩ : ∃ v, w1.alloc (.map #[] 0) = v := ⟨_, rfl⟩
  obtain ⟨d, hd⟩ : ∃ d, w1.heap.size = d := ⟨_, rfl⟩
  have hb2 : Below w1.heap.size w1 w2 := hw2 ▸ (Below.refl _ _).alloc (Nat.le_refl _) _
  have H1 : Hid (On w w2 g c d none (CS.new 200) (.map []) 0) := by
    have hm := World.ownsMap_made (H := Value) w1 Try.prog 3 (plainElem Try.prog 2)
    rw [hw2, hd] at hm
    exact On.made (hC.below hb2) (hb.trans (hb2.mono hb.size)) (hm.mono (by omega)) (by omega) (by have := hb.size; omega)
  clear hC hb hg1 hg2 hc1 hc2 hb2
  go_wp2
  (try rw [hw2]); (try rw [hd])
  clear hw2 hd
  go_loopw [6, 7, 8, 9, 10, 11, 12, 13, 14, 16] (fun s6 _ _ _ _ _ _ _ _ _ wr => ∃ (j : Nat) (a : Option Nat) (S : CS) (D : DataW Value), s6 = .int .i64 j ∧ Hid (j ≤ 130 ∧ On w wr g c d a S D j)) (fun s6 _ _ _ _ _ _ _ _ _ _ => 130 - (Go.RowKit.intOf s6).toNat)
  case atStart => exact ⟨0, none, _, _, rfl, (⟨by omega, H1.out⟩ : 0 ≤ 130 ∧ On w w2 g c d none (CS.new 200) (.map []) 0)⟩
  case round =>
    obtain ⟨j, a, S, D, rfl, HM⟩ := hrel
    clear H1
    by_cases h130 : j < 130
    · have hwj : IntKind.i64.wrap ((j : Int) + 1) = (j : Int) + 1 := IntWalk.i64_in _ (by omega)
      have hi1 : (0 : Int) ≤ (j : Int) := by omega
      have hi3 : (j : Int) < 130 := by omega
      have H130 := Lib.hid h130
      clear h130
      go_upto_region 8 with (fail)
      go_cut [43] from 28 to 42 (fun v wc => ∃ q : Bool, v = .bool q ∧ wc = wr ∧ Hid (q = true → ∃ o, os[j]? = some o ∧ o.Ok ∧ j < m))
      case first =>
        by_cases hjm : j < m
        · obtain ⟨o, ad, ho, hok, rfl, k0, k1, k2⟩ := (H.out.1.below HM.out.2.bel (Nat.le_refl _)).get hjm
          have hi2 : (j : Int) < (m : Int) := by omega
          have HO := Lib.hid (And.intro ho (And.intro hok hjm))
          clear ho hok
          by_cases h100 : (j : Int) < 100
          · by_cases hkd : o.kd < 6
            · clear hjm
              go_wp2_with fail
              go_meet
              exact ⟨true, rfl, rfl, (fun _ => ⟨o, HO.out⟩ : true = true → ∃ o, os[j]? = some o ∧ o.Ok ∧ j < m)⟩
            · have hkd' : decide (o.kd < 6) = false := by simpa using hkd
              clear hkd hjm
              go_wp2_with fail
              go_meet
              exact ⟨false, rfl, rfl, ((fun h => Bool.noConfusion h) : false = true → ∃ o, os[j]? = some o ∧ o.Ok ∧ j < m)⟩
          · have h100' : decide ((j : Int) < 100) = false := by simpa using h100
            have h100n : decide (j < 100) = false := by simp; omega
            clear h100 hjm
            go_wp2_with fail
            go_meet
            exact ⟨false, rfl, rfl, ((fun h => Bool.noConfusion h) : false = true → ∃ o, os[j]? = some o ∧ o.Ok ∧ j < m)⟩
        · have hjm' : decide ((j : Int) < (m : Int)) = false := by simp; omega
          have hjmn : decide (j < m) = false := by simpa using hjm
          clear hjm
          go_wp2_with fail
          go_meet
          exact ⟨false, rfl, rfl, ((fun h => Bool.noConfusion h) : false = true → ∃ o, os[j]? = some o ∧ o.Ok ∧ j < m)⟩
      case rest =>
        obtain ⟨q, rfl, rfl, HQ⟩ := hcut
        cases q with
        | true =>
          have hjm : j < m := by obtain ⟨_, _, _, h⟩ := HQ.out rfl; exact h
          obtain ⟨o, ad, ho, hok, rfl, hoc⟩ := H.out.1.opc hjm
          have hi2 : (j : Int) < (m : Int) := by omega
          have HO := Lib.hid (And.intro hoc (And.intro hok hjm))
          have k0 := (hoc.below HM.out.2.bel).c0
          have k1 := (hoc.below HM.out.2.bel).c1
          have k2 := (hoc.below HM.out.2.bel).c2
          clear ho hok hoc hjm HQ
          go_wp2_with fail
          refine (does_is _ HM.out.2.ck HO.out.2.1 rfl).mono ?_
          rintro e w2 hp
          obtain ⟨a', hC, hB, hO⟩ := HM.out.2.does hp
          obtain ⟨rfl, _⟩ := hp
          have H2 := Lib.hid (And.intro hC (And.intro hB hO))
          clear hC hB hO k0 k1 k2
          have k1 := (HO.out.1.below H2.out.2.1).c1
          cases hx : (S.does o).find o.id with
          | some x =>
            have HX := Lib.hid hx
            have hsoon := HM.out.2.soon HO.out.2.1 hx
            have hn0 := HM.out.2.n0
            have hnj := HM.out.2.nj
            have HK := Lib.hid (And.intro (key3 HO.out.2.1.id.1 HO.out.2.1.id.2) (And.intro (pe2 (k := x) (by omega) (by have := H130.out; omega)) (by unfold maxLen; omega : 65537 < maxLen)))
            have hd1 : decide (x ≤ S.now) = false := by simp; omega
            have hd2 : decide (S.now + 20 < x) = false := by simp; omega
            have hw20 : IntKind.i64.wrap (S.now + 20) = S.now + 20 := IntWalk.i64_in _ (by have := H130.out; omega)
            clear hx hsoon hn0 hnj
            go_wp2_with fail
            refine (ck_due _ H2.out.1 HO.out.2.1.id.1 HO.out.2.1.id.2 (o := some x) HX.out).mono ?_
            rintro e _ ⟨rfl, rfl⟩
            dsimp only [Option.getD, Option.isSome]
            go_wp2_with (refine wpList_mapUpdate_in _ rfl _ _ _ 55 rfl 3 2 (Maps.int_keyed Try.underlying3) Try.underlying55 (plainElem Try.prog 2) d 65537 D rfl H2.out.2.2 HK.out.2.2 _ _ _ rfl rfl HK.out.1 _ [] HK.out.2.1 ?_)
            intro w3 hown hg
            have H3 := Lib.hid (HM.out.2.put HO.out.2.1 H2.out.1 H2.out.2.1 H2.out.2.2 HX.out hown hg.grown)
            clear hown hg k1
            go_wp2_with fail
            refine (ck_now _ H3.out.ck (n := S.now) (CS.does_now o).1).mono ?_
            rintro e _ ⟨rfl, rfl⟩
            go_wp2_with fail
            refine (ck_now _ H3.out.ck (n := S.now) (CS.does_now o).1).mono ?_
            rintro e _ ⟨rfl, rfl⟩
            go_wp2
            go_roundw
            case rel => exact ⟨j + 1, a', _, _, by go_num, (⟨by have := H130.out; omega, H3.out⟩ : j + 1 ≤ 130 ∧ On w _ g c d a' (S.does o) _ (j + 1))⟩
            case measure =>
              have := H130.out
              simp [Go.RowKit.intOf]; omega
          | none =>
            have HX := Lib.hid hx
            have HK := Lib.hid (key3 HO.out.2.1.id.1 HO.out.2.1.id.2)
            clear hx
            go_wp2_with fail
            refine (ck_due _ H2.out.1 HO.out.2.1.id.1 HO.out.2.1.id.2 (o := none) HX.out).mono ?_
            rintro e _ ⟨rfl, rfl⟩
            dsimp only [Option.getD, Option.isSome]
            go_wp2_with (refine wpList_delete_own _ rfl _ _ 55 3 rfl 2 (Maps.int_keyed Try.underlying3) Try.underlying55 (plainElem Try.prog 2) d 65537 D rfl H2.out.2.2 _ _ rfl HK.out ?_)
            intro w3 hown hg
            have H3 := Lib.hid (HM.out.2.del_ HO.out.2.1 H2.out.1 H2.out.2.1 H2.out.2.2 HX.out hown hg.grown)
            clear hown hg k1
            go_wp2
            go_roundw
            case rel => exact ⟨j + 1, a', _, _, by go_num, (⟨by have := H130.out; omega, H3.out⟩ : j + 1 ≤ 130 ∧ On w _ g c d a' (S.does o) _ (j + 1))⟩
            case measure =>
              have := H130.out
              simp [Go.RowKit.intOf]; omega
        | false =>
          clear HQ
          have hlt : S.now < 1152921504606846976 := by have := HM.out.2.nj; have := H130.out; omega
          have hn0 := HM.out.2.n0
          have hwn : IntKind.i64.wrap (S.now + 1) = S.now + 1 := IntWalk.i64_in _ (by omega)
          have htn := CS.tickN_eq hlt
          obtain ⟨n, hn⟩ : ∃ n, (S.L.countP fun t => decide (t.due ≤ S.now + 1)) = n := ⟨_, rfl⟩
          have hdf := CS.due_first HM.out.2.ck.ok (S.now + 1)
          rw [hn] at hdf
          have htl : S.tickL = S.L.take n := by unfold CS.tickL; rw [htn]; exact hdf.1
          have htk : S.tick.L = S.L.drop n := by unfold CS.tick; rw [htn]; exact hdf.2
          have htw : S.tick.now = S.now + 1 := htn
          have hnl : n ≤ S.L.length := by rw [← hn]; exact List.countP_le_length
          have hlen : (S.L.take n).length = n := by rw [List.length_take]; omega
          have hn200 : n ≤ 200 := by have := HM.out.2.ck.ok.len; rw [HM.out.2.most] at this; omega
          have hdue : ∀ t ∈ S.L.take n, t.due = S.now + 1 := fun t ht => CS.told_due HM.out.2.ck.ok (by rw [hdf.1]; exact ht)
          have HT := Lib.hid (And.intro htl (And.intro htk (And.intro htw (And.intro hnl (And.intro hlen (And.intro hn200 (And.intro hdue HM.out.2.ck.ok)))))))
          clear hlt hn0 htn hn hdf htl htk htw hnl hn200 hdue
          go_wp2_with fail
          refine (ck_now _ HM.out.2.ck rfl).mono ?_
          rintro e _ ⟨rfl, rfl⟩
          go_wp2_with fail
          refine (ck_tick _ HM.out.2.ck rfl HT.out.1).mono ?_
          rintro e w2 ⟨_, rfl, ⟨A, ca, rfl, hN⟩, hC, hb, hk⟩
          rw [hlen] at hN ⊢
          have H2 := Lib.hid (HM.out.2.tick hC (HM.out.2.bel.trans hb) hk hN)
          clear hN hC hb hk hlen
          go_wp2_with fail
          refine (ck_now _ H2.out.ck (n := S.now + 1) HT.out.2.2.1).mono ?_
          rintro e _ ⟨rfl, rfl⟩
          go_upto_block 2 with (fail)
          go_cut [11, 12, 13, 14] from 99 to 143 (fun _ _ _ _ wc => Hid (∃ D', On w wc g c d a S.tick D' (j + 1)))
          case first =>
            go_wp2_with fail
            go_loopw [11, 12, 13, 14, 99] (fun _ _ _ _ s99 wr' => ∃ (k : Nat) (D' : DataW Value), s99 = .int .i64 k ∧ Hid (k ≤ n ∧ OnT w wr' g c d a S.tick S.L A n ca k D')) (fun _ _ _ _ s99 _ => n - (Go.RowKit.intOf s99).toNat)
            case atStart => exact ⟨0, D, rfl, (⟨by omega, H2.out⟩ : 0 ≤ n ∧ OnT w w2 g c d a S.tick S.L A n ca 0 D)⟩
            case round =>
              obtain ⟨k, D', rfl, HK⟩ := hrel
              by_cases hkn : k < n
              · obtain ⟨t, ht⟩ : ∃ t, (S.L.take n)[k]? = some t := ⟨_, List.getElem?_eq_getElem (by rw [HT.out.2.2.2.2.1]; exact hkn)⟩
                have hdt := HT.out.2.2.2.2.2.2.1 t (List.mem_of_getElem? ht)
                obtain ⟨td, ti⟩ := t
                simp only at hdt
                subst hdt
                have htL : S.L[k]? = some ⟨S.now + 1, ti⟩ := by rw [List.getElem?_take, if_pos hkn] at ht; exact ht
                have hbi := (HT.out.2.2.2.2.2.2.2.its _ (List.mem_of_getElem? htL)).2.2
                have hfd : findD ti (S.L.drop k) = some (S.now + 1) := by
                  have h1 := (List.getElem?_eq_some_iff.1 htL).1
                  rw [List.drop_eq_getElem_cons h1, (List.getElem?_eq_some_iff.1 htL).2]
                  simp [findD]
                obtain ⟨r, o, rfl, d0, d1, _⟩ := row_get HK.out.2.lst ht
                have hi1' : (0 : Int) ≤ (k : Int) := by omega
                have hi2 : (k : Int) < (n : Int) := by omega
                have hn200 := HT.out.2.2.2.2.2.1
                have hwk : IntKind.i64.wrap ((k : Int) + 1) = (k : Int) + 1 := IntWalk.i64_in _ (by omega)
                obtain ⟨w3, hw3⟩ : ∃ v, wr.alloc (.cells #[.int .i64 (S.now + 1), .int .i64 ti] 36) = v := ⟨_, rfl⟩
                obtain ⟨hb3, hx3⟩ := row36_new (t := ⟨S.now + 1, ti⟩) hw3
                have H3 := Lib.hid (HK.out.2.below hb3)
                obtain ⟨k0, k1⟩ := two36 hx3
                have hl := own_look H3.out.own H3.out.due hbi.1 hbi.2
                simp only [hfd, Option.getD_some, Option.isSome_some] at hl
                have KQ := Lib.hid (fun q => (ck_now _ (H3.out.ck.drewN q) (n := S.now + 1) HT.out.2.2.1).mono fun e w' hh => (⟨hh.1, hh.2.symm⟩ : e = .returned (.int .i64 (S.now + 1)) ∧ w' = w3.drewN q))
                have HX := Lib.hid (And.intro hx3 (And.intro hkn (And.intro htL (And.intro (key3 hbi.1 hbi.2) ht))))
                by_cases hk : k = 0
                · have hk0 : decide ((0 : Int) < (k : Int)) = false := by simp; omega
                  have hk0n : decide (0 < k) = false := by simp; omega
                  clear hk hb3 hx3 htL ht hkn hn200 hfd hbi
                  go_wp2
                  go_quiet (first | (go_at_call 15; refine Calls.quiet_of_same (KQ.out _)))
                  obtain ⟨w4, hw4⟩ : ∃ v, w3.drewN nq = v := ⟨_, rfl⟩
                  have hb4 : Below w3.heap.size w3 w4 := hw4 ▸ ⟨rfl, rfl, rfl, Nat.le_refl _, fun _ _ => rfl⟩
                  have k1 := (two36 ((hb4.block _ (Array.getElem?_eq_some_iff.1 HX.out.1).1).trans HX.out.1)).2
                  have H4 := Lib.hid (H3.out.below hb4)
                  rw [hw4]
                  clear hw4 hb4
                  go_wp2_with (refine wpList_delete_own _ rfl _ _ 55 3 rfl 2 (Maps.int_keyed Try.underlying3) Try.underlying55 (plainElem Try.prog 2) d 65537 D' rfl H4.out.own _ _ rfl HX.out.2.2.2.1 ?_)
                  intro w5 hown hg
                  have H5 := Lib.hid (H4.out.strike HT.out.2.2.2.2.2.2.2.nod HX.out.2.2.1 HM.out.2.dc HM.out.2.dlo hown hg.grown)
                  clear hown hg k1
                  go_wp2
                  go_roundw
                  case rel => exact ⟨k + 1, _, by go_num, (⟨HX.out.2.1, H5.out⟩ : k + 1 ≤ n ∧ OnT w w5 g c d a S.tick S.L _ n ca (k + 1) _)⟩
                  case measure =>
                    have := HX.out.2.1
                    simp [Go.RowKit.intOf]; omega
                · obtain ⟨k', hk⟩ : ∃ k', k = k' + 1 := ⟨k - 1, by omega⟩
                  obtain ⟨s, hs⟩ : ∃ s, (S.L.take n)[k']? = some s := ⟨_, List.getElem?_eq_getElem (by rw [HT.out.2.2.2.2.1]; omega)⟩
                  have hsL : S.L[k']? = some s := by rw [List.getElem?_take, if_pos (by omega)] at hs; exact hs
                  have hsd := HT.out.2.2.2.2.2.2.1 s (List.mem_of_getElem? hs)
                  have hrise := ids_rise HT.out.2.2.2.2.2.2.2.srt hsL (by rw [← hk]; exact htL) hsd
                  obtain ⟨r', o', e2, _, e1, _⟩ := row_get H3.out.lst hs
                  injection e2 with e2
                  injection e2 with e2 e3
                  subst e2 e3
                  have hj1 : (0 : Int) ≤ (k' : Int) := by omega
                  have hj2 : (k' : Int) < (n : Int) := by omega
                  have hwk' : IntKind.i64.wrap ((k : Int) - 1) = (k' : Int) := (IntWalk.i64_in _ (by omega)).trans (by omega)
                  have hkp : (0 : Int) < (k : Int) := by omega
                  have hkpn : 0 < k := by omega
                  have hle : decide (ti ≤ s.id) = false := by simp; exact hrise
                  clear hb3 hx3 htL ht hkn hn200 hfd hbi hk hs hsL hsd hrise
                  go_wp2
                  go_quiet (first | (go_at_call 15; refine Calls.quiet_of_same (KQ.out _)))
                  obtain ⟨w4, hw4⟩ : ∃ v, w3.drewN nq = v := ⟨_, rfl⟩
                  have hb4 : Below w3.heap.size w3 w4 := hw4 ▸ ⟨rfl, rfl, rfl, Nat.le_refl _, fun _ _ => rfl⟩
                  have k1 := (two36 ((hb4.block _ (Array.getElem?_eq_some_iff.1 HX.out.1).1).trans HX.out.1)).2
                  have H4 := Lib.hid (H3.out.below hb4)
                  rw [hw4]
                  clear hw4 hb4
                  go_wp2_with (refine wpList_delete_own _ rfl _ _ 55 3 rfl 2 (Maps.int_keyed Try.underlying3) Try.underlying55 (plainElem Try.prog 2) d 65537 D' rfl H4.out.own _ _ rfl HX.out.2.2.2.1 ?_)
                  intro w5 hown hg
                  have H5 := Lib.hid (H4.out.strike HT.out.2.2.2.2.2.2.2.nod HX.out.2.2.1 HM.out.2.dc HM.out.2.dlo hown hg.grown)
                  clear hown hg k1
                  go_wp2
                  go_roundw
                  case rel => exact ⟨k + 1, _, by go_num, (⟨HX.out.2.1, H5.out⟩ : k + 1 ≤ n ∧ OnT w w5 g c d a S.tick S.L _ n ca (k + 1) _)⟩
                  case measure =>
                    have := HX.out.2.1
                    simp [Go.RowKit.intOf]; omega
              · obtain rfl : k = n := by have := HK.out.1; omega
                go_wp2_with fail
                go_meet
                exact ⟨D', OnT.done HM.out.2 HK.out.2 HT.out.2.1 HT.out.2.2.1⟩
          case rest =>
            obtain ⟨D', hO⟩ := hcut.out
            have HO := Lib.hid hO
            have hownd : OMap wc d 65537 D' := hO.own
            clear hcut hO
            go_wp2_with (first
              | (at_range; refine wpList_range_own _ rfl _ 55 rfl 3 2 (Maps.int_keyed Try.underlying3) Try.underlying55 (plainElem Try.prog 2) d 65537 D' rfl hownd ?_; intro w3 hrg0 hg0 hs0))
            go_frame
            have h1 := ORng.start HO.out hg0 hrg0
            obtain ⟨r, hr⟩ : ∃ r, wc.heap.size = r := ⟨_, rfl⟩
            rw [hr] at h1 ⊢
            clear hrg0 hg0 hs0 hr hownd
            have H1 := Lib.hid h1
            clear h1
            go_loopw [16] (fun _ wr => ORng w g c d a S.tick D' (j + 1) r wr) (fun _ wr => wr.rangeLeft d r)
            case atStart => exact H1.out
            case round =>
              have HR := Lib.hid hrel
              obtain ⟨left, cnt, hrg⟩ := hrel.rg
              clear hrel
              have HM2 := Lib.hid hrg.left_eq
              go_wp2_with (first
                | (at_next; refine wpList_next_ranges_ii _ rfl _ rfl 3 2 .i64 .i64 (Maps.int_keyed Try.underlying3) Try.underlying3 Try.underlying2 d r 65537 _ _ _ rfl hrg ?_ ?_))
              · intro hc0 hl0
                clear hc0 hl0 hrg
                go_wp2
                go_roundw
                case rel => exact ⟨j + 1, a, _, _, by go_num, (⟨by have := H130.out; omega, HR.out.on⟩ : j + 1 ≤ 130 ∧ On w _ g c d a S.tick D' (j + 1))⟩
                case measure =>
                  have := H130.out
                  simp [Go.RowKit.intOf]; omega
              · intro x v w4 cnt4 hwx hwv hlk hat hrg4 hlt4 hg4 hs4 hen
                have hv := entry_due HR.out.on.due HR.out.on.ck.ok hat
                rw [HT.out.2.2.1] at hv
                have hd : decide (v ≤ S.now + 1) = false := by simp; omega
                have HE := Lib.hid (HR.out.next hg4 hrg4)
                have HM := Lib.hid (And.intro hrg4.left_eq hlt4)
                clear hv hat hlk hrg4 hlt4 hg4 hs4 hrg hwx hwv
                go_wp2_with fail
                refine (ck_now _ HE.out.on.ck (n := S.now + 1) HT.out.2.2.1).mono ?_
                rintro e _ ⟨rfl, rfl⟩
                go_wp2
                go_roundw
                case rel => exact HE.out
                case measure => rw [HM.out.1, HM2.out]; exact HM.out.2
    · obtain rfl : j = 130 := by have := HM.out.1; omega
      have hsz := owns_size HM.out.2.own HM.out.2.due HM.out.2.ck.ok.nod
      obtain ⟨n, hn⟩ : ∃ n, S.L.length = n := ⟨_, rfl⟩
      rw [hn] at hsz
      have hlen := fun ty => HM.out.2.own.len Try.underlying55 ty
      rw [hsz] at hlen
      have HN := Lib.hid hn
      clear hsz hn h130
      go_wp2_with fail
      refine (ck_all _ HM.out.2.ck rfl).mono ?_
      rintro e w2 ⟨_, rfl, ⟨A, ca, rfl, hN⟩, hW⟩
      rw [HN.out]
      have HB := Lib.hid (HM.out.2.bel.trans (hW.mono HM.out.2.bel.size))
      clear hN hW hlen
      go_wp2_with fail
      refine (awake_is _).mono ?_
      rintro e w99 ⟨rfl, hb⟩
      have HZ := Lib.hid (HB.out.trans (hb.mono HB.out.size))
      clear hb
      go_wp2
      go_ret
      exact ⟨rfl, HZ.out⟩
end Go.Proofs.Ytncjbohpaanpaaa
