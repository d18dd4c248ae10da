/- The law ClockApart. Made by gap8.py. -/
import Derived.Test.YtncjbohpaanpaaaApP
import Derived.Test.YtncjbohpaanpaaaLawSk
namespace Go.Proofs.Ytncjbohpaanpaaa
open Go.RowKit Go.Coop Go.Maps
set_option maxRecDepth 100000
/-- where the law stands -/
def AA (w wc : World) (g c g' c' q j : Nat) : Prop := ∃ a a' Sa Sb, Ap Sa Sb q ∧ Sa.now ≤ j ∧ Sk w wc g c a g' c' a' Sa Sb
theorem box46 {w w3 w4 : World} {kd id dt v : Int} (h3 : w.alloc (.cells #[.int .i64 kd, .int .i64 id, .int .i64 dt] 46) = w3) (h4 : w3.setCell ⟨w.heap.size, 1, none⟩ (.int .i64 v) = w4) :
    w3.heap[w.heap.size]? = some (.cells #[.int .i64 kd, .int .i64 id, .int .i64 dt] 46 (0, 0)) ∧ w4.heap[w.heap.size]? = some (.cells #[.int .i64 kd, .int .i64 v, .int .i64 dt] 46 (0, 0)) ∧ Below w.heap.size w w4 := by
  subst h3
  have h := heap_alloc_new w (.cells #[.int .i64 kd, .int .i64 id, .int .i64 dt] 46)
  subst h4
  exact ⟨h, heap_setCell_same _ _ 1 _ 46 _ h, ((Below.refl _ w).alloc (Nat.le_refl _) _).setCell (Nat.le_refl _) _⟩
theorem three46 {w : World} {b : Nat} {x0 x1 x2 : Value} (h : w.heap[b]? = some (.cells #[x0, x1, x2] 46 (0, 0))) : w.cell? ⟨b, 0, none⟩ = some x0 ∧ w.cell? ⟨b, 1, none⟩ = some x1 ∧ w.cell? ⟨b, 2, none⟩ = some x2 ∧ w.frozen? ⟨b, 1, none⟩ = false :=
  ⟨cell_of_row _ b 0 _ 46 (0, 0) h, cell_of_row _ b 1 _ 46 (0, 0) h, cell_of_row _ b 2 _ 46 (0, 0) h, frozen_of_row w b 1 _ 46 h⟩
set_option maxHeartbeats 4000000 in
theorem apart_law (F : Option Addr) (m cap : Nat) (os : List OpV) (F2 : Option Addr) (m2 cap2 : Nat) (ms : List OpV) (w : World) (hos : OpsAt w F m os) (hmm : m ≤ 9223372036854775807) (hms : OpsAt w F2 m2 ms) (hmm2 : m2 ≤ 9223372036854775807) : Calls Try.prog 9 #[.slice F m cap, .slice F2 m2 cap2] w (Awake w) := by
  have H := Lib.hid (And.intro hos (And.intro hmm (And.intro hms hmm2)))
  clear hos hmm hms hmm2
  go_enter Try.func9, Try.ntmps9
  go_wp2_with fail
  refine (ck_new _ 200 (by decide) (by decide)).mono ?_
  rintro e w1 ⟨g, c, rfl, hC, hb, hg1, hg2, hc1, hc2⟩
  have H1 := Lib.hid (And.intro hC hb)
  clear hC hb hg1 hg2 hc1 hc2
  go_wp2_with fail
  refine (ck_new _ 200 (by decide) (by decide)).mono ?_
  rintro e w2 ⟨g', c', rfl, hC, hb, hg1, hg2, hc1, hc2⟩
  have H2 : Hid (AA w w2 g c g' c' 0 0) := ⟨none, none, CS.new 200, CS.new 200, ⟨rfl, rfl, rfl, rfl, by simp [CS.new]⟩, by simp [CS.new], Two.made H1.out.1 hC hb hg1 hc1, H1.out.2.trans (hb.mono H1.out.2.size)⟩
  clear hC hb hg1 hg2 hc1 hc2 H1
  go_wp2
  go_loopw [9, 10, 11, 12, 13, 15] (fun s9 _ _ _ _ _ wr => ∃ j : Nat, s9 = .int .i64 j ∧ Hid (j ≤ 50 ∧ AA w wr g c g' c' (2 * j) j)) (fun s9 _ _ _ _ _ _ => 50 - (Go.RowKit.intOf s9).toNat)
  case atStart => exact ⟨0, rfl, (⟨by omega, H2.out⟩ : 0 ≤ 50 ∧ AA w w2 g c g' c' (2 * 0) 0)⟩
  case round =>
    clear H2
    obtain ⟨j, rfl, HM⟩ := hrel
    by_cases h50 : j < 50
    · have hi1 : (0 : Int) ≤ (j : Int) := by omega
      have hi3 : (j : Int) < 50 := by omega
      have hwj : IntKind.i64.wrap ((j : Int) + 1) = (j : Int) + 1 := IntWalk.i64_in _ (by omega)
      have H50 := Lib.hid h50
      clear h50
      go_upto_region 8 with (fail)
      go_cut [41] from 34 to 40 (fun v wd => ∃ q : Bool, v = .bool q ∧ wd = wr ∧ Hid (q = true → j < m ∧ j < 20))
      case first =>
        by_cases hjm : j < m
        · have hi2 : (j : Int) < (m : Int) := by omega
          by_cases h20 : (j : Int) < 20
          · go_wp2_with fail
            go_meet
            exact ⟨true, rfl, rfl, (fun _ => ⟨hjm, by omega⟩ : true = true → j < m ∧ j < 20)⟩
          · have h20' : decide ((j : Int) < 20) = false := by simpa using h20
            have h20n : decide (j < 20) = false := by simp; omega
            clear h20
            go_wp2_with fail
            go_meet
            exact ⟨false, rfl, rfl, ((fun h => Bool.noConfusion h) : false = true → j < m ∧ j < 20)⟩
        · have hjm' : decide ((j : Int) < (m : Int)) = false := by simp; omega
          have hjmn : decide (j < m) = false := by simpa using hjm
          clear hjm
          go_wp2_with fail
          go_meet
          exact ⟨false, rfl, rfl, ((fun h => Bool.noConfusion h) : false = true → j < m ∧ j < 20)⟩
      case rest =>
      obtain ⟨q, rfl, rfl, HQ⟩ := hcut
      go_upto_if 41 with (fail)
      go_cut [10] from 42 to 55 (fun _ wc => Hid (AA w wc g c g' c' (2 * j + 1) j))
      case first =>
        cases q with
        | true =>
          have hlt := HQ.out rfl
          clear HQ
          obtain ⟨o, ad, ho, hok, rfl, hoc⟩ := H.out.1.opc hlt.1
          have hi2 : (j : Int) < (m : Int) := by omega
          obtain ⟨a, a', Sa, Sb, hAp, hnow, hSk⟩ := HM.out.2
          have k0 := (hoc.below hSk.bel).c0
          have k1 := (hoc.below hSk.bel).c1
          have k2 := (hoc.below hSk.bel).c2
          obtain ⟨b, hb⟩ : ∃ b, wc.heap.size = b := ⟨_, rfl⟩
          obtain ⟨w3, hw3⟩ : ∃ v, wc.alloc (.cells #[.int .i64 o.kd, .int .i64 o.id, .int .i64 o.dt] 46) = v := ⟨_, rfl⟩
          obtain ⟨w4, hw4⟩ : ∃ v, w3.setCell ⟨b, 1, none⟩ (.int .i64 (o.id % 10)) = v := ⟨_, rfl⟩
          obtain ⟨hr3, hr4, hB4⟩ := box46 (v := o.id % 10) (w4 := w4) hw3 (by rw [hb]; exact hw4)
          rw [hb] at hr3 hr4
          have hm1 := Int.emod_nonneg o.id (show (10 : Int) ≠ 0 by decide)
          have hm2 := Int.emod_lt_of_pos o.id (show (0 : Int) < 10 by decide)
          have hok4 : OpV.Ok ⟨o.kd, o.id % 10, o.dt⟩ := ⟨hok.kd, ⟨by show _ ≤ o.id % 10; omega, by show o.id % 10 ≤ _; omega⟩, hok.dt⟩
          have HO := Lib.hid (And.intro hok4 (And.intro hAp (And.intro hnow (And.intro (hSk.below hB4) (And.intro hr4 (And.intro hm1 hm2))))))
          obtain ⟨m0, m1, m2', fm1⟩ := three46 hr3
          obtain ⟨n0, n1, n2, _⟩ := three46 hr4
          clear ho hok hoc hlt hAp hnow hSk hr3 hr4 hB4 hm1 hm2 hok4
          go_wp2_with fail
          (try rw [hw3]); (try rw [hb])
          refine (pick_is _ (by decide) (by decide)).mono ?_
          rintro e _ ⟨rfl, rfl⟩
          clear hw3 hb
          go_wp2_with fail
          (try rw [hw4])
          refine (does_is _ HO.out.2.2.2.1.two.x HO.out.1 rfl).mono ?_
          rintro e w5 hp
          obtain ⟨a5, h5⟩ := HO.out.2.2.2.1.fst hp
          obtain ⟨rfl, _, _, _, hk5⟩ := hp
          have hr5 := hk5.cells _ _ _ _ HO.out.2.2.2.2.1 (by decide) (by decide)
          obtain ⟨n0, n1, n2, _⟩ := three46 hr5
          have H5 := Lib.hid h5
          clear h5 hr5 hk5 hw4
          go_wp2_with fail
          refine (does_is _ H5.out.two.y HO.out.1 rfl).mono ?_
          rintro e w6 hp
          obtain ⟨a6, h6⟩ := H5.out.swap.fst hp
          obtain ⟨rfl, _⟩ := hp
          have H6 := Lib.hid h6.swap
          clear h6
          go_wp2_with fail
          go_meet
          obtain ⟨e1, _⟩ := CS.does_now (S := Sa) ⟨o.kd, o.id % 10, o.dt⟩
          have hq := H50.out
          have hnow := HO.out.2.2.1
          exact ⟨_, _, _, _, HO.out.2.1.both (by omega) (by omega) (by show o.id % 10 < 100; have := HO.out.2.2.2.2.2.2; omega), by rw [e1]; exact hnow, H6.out⟩
        | false =>
          clear HQ
          go_wp2_with fail
          go_meet
          obtain ⟨a, a', Sa, Sb, h1, h2, h3⟩ := HM.out.2
          exact ⟨a, a', Sa, Sb, h1.wider (by omega), h2, h3⟩
      case rest =>
      have HM2 := hcut
      clear HM hcut HQ
      go_upto_region 13 with (fail)
      go_cut [63] from 56 to 62 (fun v wd => ∃ q : Bool, v = .bool q ∧ wd = wc ∧ Hid (q = true → j < m2 ∧ j < 20))
      case first =>
        by_cases hjm : j < m2
        · have hi2 : (j : Int) < (m2 : Int) := by omega
          by_cases h20 : (j : Int) < 20
          · go_wp2_with fail
            go_meet
            exact ⟨true, rfl, rfl, (fun _ => ⟨hjm, by omega⟩ : true = true → j < m2 ∧ j < 20)⟩
          · have h20' : decide ((j : Int) < 20) = false := by simpa using h20
            have h20n : decide (j < 20) = false := by simp; omega
            clear h20
            go_wp2_with fail
            go_meet
            exact ⟨false, rfl, rfl, ((fun h => Bool.noConfusion h) : false = true → j < m2 ∧ j < 20)⟩
        · have hjm' : decide ((j : Int) < (m2 : Int)) = false := by simp; omega
          have hjmn : decide (j < m2) = false := by simpa using hjm
          clear hjm
          go_wp2_with fail
          go_meet
          exact ⟨false, rfl, rfl, ((fun h => Bool.noConfusion h) : false = true → j < m2 ∧ j < 20)⟩
      case rest =>
      obtain ⟨q2, rfl, rfl, HQ⟩ := hcut
      go_upto_if 63 with (fail)
      go_cut [11] from 64 to 75 (fun _ wc => Hid (AA w wc g c g' c' (2 * j + 2) j))
      case first =>
        cases q2 with
        | true =>
          have hlt := HQ.out rfl
          clear HQ
          obtain ⟨o, ad, ho, hok, rfl, hoc⟩ := H.out.2.2.1.opc hlt.1
          have hi2 : (j : Int) < (m2 : Int) := by omega
          obtain ⟨a, a', Sa, Sb, hAp, hnow, hSk⟩ := HM2.out
          have k0 := (hoc.below hSk.bel).c0
          have k1 := (hoc.below hSk.bel).c1
          have k2 := (hoc.below hSk.bel).c2
          obtain ⟨b, hb⟩ : ∃ b, wc.heap.size = b := ⟨_, rfl⟩
          obtain ⟨w3, hw3⟩ : ∃ v, wc.alloc (.cells #[.int .i64 o.kd, .int .i64 o.id, .int .i64 o.dt] 46) = v := ⟨_, rfl⟩
          obtain ⟨w4, hw4⟩ : ∃ v, w3.setCell ⟨b, 1, none⟩ (.int .i64 (100 + o.id % 10)) = v := ⟨_, rfl⟩
          obtain ⟨hr3, hr4, hB4⟩ := box46 (v := 100 + o.id % 10) (w4 := w4) hw3 (by rw [hb]; exact hw4)
          rw [hb] at hr3 hr4
          have hm1 := Int.emod_nonneg o.id (show (10 : Int) ≠ 0 by decide)
          have hm2 := Int.emod_lt_of_pos o.id (show (0 : Int) < 10 by decide)
          have hok4 : OpV.Ok ⟨o.kd, 100 + o.id % 10, o.dt⟩ := ⟨hok.kd, ⟨by show _ ≤ 100 + o.id % 10; omega, by show 100 + o.id % 10 ≤ _; omega⟩, hok.dt⟩
          have HO := Lib.hid (And.intro hok4 (And.intro hAp (And.intro hnow (And.intro (hSk.below hB4) (And.intro hr4 (And.intro hm1 hm2))))))
          have hwp : IntKind.i64.wrap (100 + o.id % 10) = 100 + o.id % 10 := IntWalk.i64_in _ (by omega)
          obtain ⟨m0, m1, m2', fm1⟩ := three46 hr3
          obtain ⟨n0, n1, n2, _⟩ := three46 hr4
          clear ho hok hoc hlt hAp hnow hSk hr3 hr4 hB4 hm1 hm2 hok4
          go_wp2_with fail
          (try rw [hw3]); (try rw [hb])
          refine (pick_is _ (by decide) (by decide)).mono ?_
          rintro e _ ⟨rfl, rfl⟩
          clear hw3 hb
          go_wp2_with fail
          (try rw [hw4])
          refine (does_is _ HO.out.2.2.2.1.two.y HO.out.1 rfl).mono ?_
          rintro e w5 hp
          obtain ⟨a5, h5⟩ := HO.out.2.2.2.1.swap.fst hp
          obtain ⟨rfl, _⟩ := hp
          have H5 := Lib.hid h5.swap
          clear h5 hw4
          go_wp2_with fail
          go_meet
          have hq := H50.out
          have hnow := HO.out.2.2.1
          exact ⟨_, _, _, _, HO.out.2.1.high HO.out.2.2.2.1.two.y.ok (by omega) (by omega) (by show 100 ≤ 100 + o.id % 10; have := HO.out.2.2.2.2.2.1; omega), hnow, H5.out⟩
        | false =>
          clear HQ
          go_wp2_with fail
          go_meet
          obtain ⟨a, a', Sa, Sb, h1, h2, h3⟩ := HM2.out
          exact ⟨a, a', Sa, Sb, h1.wider (by omega), h2, h3⟩
      case rest =>
      have HM3 := hcut
      clear HM2 hcut HQ
      obtain ⟨a, a', Sa, Sb, hAp, hnow, hSk⟩ := HM3.out
      have HA := Lib.hid (And.intro hAp hnow)
      have HS := Lib.hid hSk
      clear hAp hnow hSk HM3
      obtain ⟨hApT, hxl⟩ := HA.out.1.tick
      obtain ⟨n1, hn1⟩ : ∃ n1, Sa.tickL.length = n1 := ⟨_, rfl⟩
      obtain ⟨n2, hn2⟩ : ∃ n2, Sb.tickL.length = n2 := ⟨_, rfl⟩
      have hn1l : n1 ≤ 200 := by
        have h1 : Sa.tickL.length ≤ Sa.L.length := List.length_filter_le _ _
        have := HA.out.1.len_a
        have := H50.out
        omega
      have hn2l : n2 ≤ 200 := by
        have h1 : Sb.tickL.length ≤ Sb.L.length := List.length_filter_le _ _
        have := HA.out.1.len
        have := H50.out
        omega
      have hnt : Sa.tick.now ≤ ((j + 1 : Nat) : Int) := by
        have h1 : Sa.tick.now ≤ Sa.now + 1 := by show Sa.tickN ≤ _; unfold CS.tickN; split <;> omega
        have := HA.out.2
        omega
      have HT := Lib.hid (And.intro hApT (And.intro hxl (And.intro hn1 (And.intro hn2 (And.intro hn1l (And.intro hn2l hnt))))))
      clear hApT hxl hn1l hn2l hnt
      go_wp2_with fail
      refine (ck_tick _ HS.out.two.x rfl rfl).mono ?_
      rintro e w3 ⟨_, rfl, ⟨Ax, cx, rfl, hN⟩, hC, hb, hk⟩
      have hlx := Nl.ls (a := a') (⟨Ax, cx, rfl, hN⟩ : Nl w3 wc.heap.size (.slice Ax Sa.tickL.length cx) Sa.tickL) HS.out.two.y.a_lt
      rw [hn1] at hlx ⊢
      have H3 := Lib.hid (And.intro (HS.out.tk hC (fun _ => hb) hk) hlx)
      clear hN hC hb hk hlx HS hn1
      go_wp2_with fail
      refine (ck_tick _ H3.out.1.two.y rfl rfl).mono ?_
      rintro e w4 ⟨_, rfl, ⟨Al, cl, rfl, hN⟩, hC, hb, hk⟩
      rw [hn2] at hN ⊢
      have H4 : Hid (Sk w w4 g c a g' c' a' Sa.tick Sb.tick ∧ Tl w4 0 Ax n1 cx Sa.tickL ∧ Tl w4 0 Al n2 cl Sb.tickL) := by
        obtain ⟨A', c3, e, h1, _⟩ := H3.out.2.kp hk
        injection e with e1 e2 e3
        subst e1 e3
        rw [← e2] at h1
        exact ⟨(H3.out.1.swap.tk hC (fun _ => hb) hk).swap, h1, hN.lower (Nat.zero_le _)⟩
      clear hN hC hb hk H3 hn2
      go_wp2
      go_loopw [13, 15, 81] (fun s13 _ s81 wr => ∃ (k : Nat) (Ay : Option Addr) (ny cy : Nat), s81 = .int .i64 k ∧ s13 = .slice Ay ny cy ∧ Hid (k ≤ n2 ∧ Below w4.heap.size w4 wr ∧ RowW wr w4.heap.size 36 2 Ay ny cy (tvs (low (Sb.tickL.take k))))) (fun _ _ s81 _ => n2 - (Go.RowKit.intOf s81).toNat)
      case atStart => exact ⟨0, none, 0, 0, rfl, rfl, (⟨by omega, Below.refl _ _, RowW.nil _ _ _ _⟩ : 0 ≤ n2 ∧ Below w4.heap.size w4 w4 ∧ RowW w4 w4.heap.size 36 2 none 0 0 (tvs (low (Sb.tickL.take 0))))⟩
      case round =>
        obtain ⟨k, Ay, ny, cy, rfl, rfl, HK⟩ := hrel
        by_cases hkn : k < n2
        · obtain ⟨t, ht⟩ : ∃ t, Sb.tickL[k]? = some t := ⟨_, List.getElem?_eq_getElem (by rw [HT.out.2.2.2.1]; exact hkn)⟩
          obtain ⟨r, o, hAl, d0, d1, _⟩ := row_get (H4.out.2.2.below HK.out.2.1) ht
          subst hAl
          have hi1' : (0 : Int) ≤ (k : Int) := by omega
          have hi2 : (k : Int) < (n2 : Int) := by omega
          have hwk : IntKind.i64.wrap ((k : Int) + 1) = (k : Int) + 1 := IntWalk.i64_in _ (by have := HT.out.2.2.2.2.2.1; omega)
          obtain ⟨w5, hw5⟩ : ∃ v, wr.alloc (.cells #[.int .i64 t.due, .int .i64 t.id] 36) = v := ⟨_, rfl⟩
          obtain ⟨hb5, hx5⟩ := row36_new hw5
          obtain ⟨k0, k1⟩ := two36 hx5
          have hny : ny ≤ 200 := by
            have h1 := HK.out.2.2.len
            rw [tvs_len] at h1
            have h2 : (low (Sb.tickL.take k)).length ≤ (Sb.tickL.take k).length := List.length_filter_le _ _
            rw [List.length_take] at h2
            have := HT.out.2.2.2.2.2.1
            omega
          by_cases ht1 : t.id < 100
          · have hlow : low (Sb.tickL.take (k + 1)) = low (Sb.tickL.take k) ++ [t] := by
              rw [List.take_add_one, ht]
              unfold low
              rw [List.filter_append]
              congr 1
              simp [ht1]
            obtain ⟨w6, hw6⟩ : ∃ v, w5.alloc (.cells #[.int .i64 t.due, .int .i64 t.id] 36) = v := ⟨_, rfl⟩
            obtain ⟨hb6, hx6⟩ := row36_new hw6
            have hB6 : Below w4.heap.size w4 w6 := (HK.out.2.1.trans (hb5.mono HK.out.2.1.size)).trans (hb6.mono (Nat.le_trans HK.out.2.1.size hb5.size))
            obtain ⟨A', c', w7, hrun, hrow, hbt, hA⟩ := run_appW (P := Try.prog) w6 w4.heap.size 30 30 36 2 _ 16 Try.underlying30 info36 rfl (by omega) ((HK.out.2.2.below hb5).below hb6) 1 (box_rd hx6) (by omega) (vs_one t) (by omega) (by omega) hB6.size
            have H7 := Lib.hid (And.intro hkn (And.intro (hB6.trans (hbt.below hB6.size (fun i hi => by
                simp only [Option.mem_toList] at hi
                exact (HK.out.2.2.block i hi).1))) (show RowW w7 w4.heap.size 36 2 A' (ny + 1) c' (tvs (low (Sb.tickL.take (k + 1)))) by
                  rw [hlow, tvs_append]
                  simpa [tvs] using hrow)))
            have HR := Lib.hid hrun
            clear hb5 hx5 hny hlow hb6 hx6 hB6 hrow hbt hA hrun ht hkn
            go_wp2_with (at_builtin; refine Lib.wpList_append_run _ rfl _ _ _ _ rfl _ _ rfl rfl _ _ HR.out ?_)
            go_roundw
            case rel => exact ⟨k + 1, A', ny + 1, c', by go_num, rfl, (⟨H7.out.1, H7.out.2⟩ : k + 1 ≤ n2 ∧ Below w4.heap.size w4 w7 ∧ RowW w7 w4.heap.size 36 2 A' (ny + 1) c' (tvs (low (Sb.tickL.take (k + 1)))))⟩
            case measure =>
              have := H7.out.1
              simp [Go.RowKit.intOf]; omega
          · have hlow : low (Sb.tickL.take (k + 1)) = low (Sb.tickL.take k) := by
              rw [List.take_add_one, ht]
              unfold low
              rw [List.filter_append]
              simp [ht1]
            have ht2 : decide (t.id < 100) = false := by simpa using ht1
            have H7 := Lib.hid (And.intro hkn (And.intro (HK.out.2.1.trans (hb5.mono HK.out.2.1.size)) (show RowW w5 w4.heap.size 36 2 Ay ny cy (tvs (low (Sb.tickL.take (k + 1)))) by rw [hlow]; exact HK.out.2.2.below hb5)))
            clear hb5 hx5 hny hlow ht ht1 hkn
            go_wp2
            go_roundw
            case rel => exact ⟨k + 1, Ay, ny, cy, by go_num, rfl, (⟨H7.out.1, H7.out.2⟩ : k + 1 ≤ n2 ∧ Below w4.heap.size w4 w5 ∧ RowW w5 w4.heap.size 36 2 Ay ny cy (tvs (low (Sb.tickL.take (k + 1)))))⟩
            case measure =>
              have := H7.out.1
              simp [Go.RowKit.intOf]; omega
        · obtain rfl : k = n2 := by have := HK.out.1; omega
          have hall : low (Sb.tickL.take k) = Sa.tickL := by rw [List.take_of_length_le (by rw [HT.out.2.2.2.1]; exact Nat.le_refl _), HT.out.2.1]
          have HY : Hid (Tl wr 0 Ay ny cy Sa.tickL) := by
            have := HK.out.2.2.lower (Nat.zero_le _)
            rw [hall] at this
            exact this
          clear hall hkn
          go_wp2_with fail
          refine (same_is _ (H4.out.2.1.below HK.out.2.1) HY.out (by have := HT.out.2.2.2.2.1; omega) (sameL_self _)).mono ?_
          rintro e w8 ⟨rfl, hW⟩
          have H8 := Lib.hid ((H4.out.1.below HK.out.2.1).below hW)
          clear hW HY
          go_wp2
          go_roundw
          case rel => exact ⟨j + 1, by go_num, (⟨by have := H50.out; omega, a, a', Sa.tick, Sb.tick, HT.out.1, HT.out.2.2.2.2.2.2, H8.out⟩ : j + 1 ≤ 50 ∧ AA w w8 g c g' c' (2 * (j + 1)) (j + 1))⟩
          case measure =>
            have := H50.out
            simp [Go.RowKit.intOf]; omega
    · obtain rfl : j = 50 := by have := HM.out.1; omega
      have HB : Hid (Below w.heap.size w wr) := by obtain ⟨_, _, _, _, _, _, h⟩ := HM.out.2; exact h.bel
      go_wp2_with fail
      refine (awake_is _).mono ?_
      rintro e w99 ⟨rfl, hb⟩
      have HZ := Lib.hid (HB.out.trans (hb.mono HB.out.size))
      clear hb
      go_wp2
      go_ret
      exact ⟨rfl, HZ.out⟩
end Go.Proofs.Ytncjbohpaanpaaa
