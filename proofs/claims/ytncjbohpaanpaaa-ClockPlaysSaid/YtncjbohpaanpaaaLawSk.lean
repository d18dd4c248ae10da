/- The law ClockSkips. Made by gsk8.py. -/
import Derived.Test.YtncjbohpaanpaaaTwoC
import Derived.Test.YtncjbohpaanpaaaLawOn
namespace Go.Proofs.Ytncjbohpaanpaaa
open Go.RowKit Go.Coop Go.Maps
set_option maxRecDepth 100000
/-- two clocks that are alike -/
structure Sk (w0 w : World) (g c : Nat) (a : Option Nat) (g' c' : Nat) (a' : Option Nat) (S S' : CS) : Prop where
  two : Two w w0.heap.size g c a S g' c' a' S'
  bel : Below w0.heap.size w0 w
section
variable {w0 w w2 : World} {g c g' c' : Nat} {a a' : Option Nat} {S S1 S' : CS}
theorem Sk.below (h : Sk w0 w g c a g' c' a' S S') (hb : Below w.heap.size w w2) : Sk w0 w2 g c a g' c' a' S S' := ⟨h.two.below hb, h.bel.trans (hb.mono h.bel.size)⟩
theorem Sk.swap (h : Sk w0 w g c a g' c' a' S S') : Sk w0 w g' c' a' g c a S' S := ⟨h.two.swap, h.bel⟩
theorem Sk.fst {r : Value} {e : Ending} (h : Sk w0 w g c a g' c' a' S S') (hp : CkP w w0.heap.size g c a S1 r e w2) : ∃ a1, Sk w0 w2 g c a1 g' c' a' S1 S' := by
  obtain ⟨a1, h1, h2⟩ := h.two.step hp
  exact ⟨a1, h1, h.bel.trans h2⟩
theorem Sk.tk (h : Sk w0 w g c a g' c' a' S S') (hc : Ck w2 w0.heap.size g c a S1) (hb : Below w0.heap.size w0 w → Below w0.heap.size w w2) (hk : Kp g c a a w w2) : Sk w0 w2 g c a g' c' a' S1 S' := ⟨h.two.first hc hk, h.bel.trans (hb h.bel)⟩
end
/-- a call for both clocks, and a tick for both if it is of that kind -/
def CS.both (S : CS) (o : OpV) : CS := if 6 ≤ o.kd then (S.does o).tick else S.does o
theorem CS.both_ok {S : CS} (h : S.Ok) {o : OpV} (ho : o.Ok) : (S.both o).Ok := by
  unfold CS.both
  split
  · exact CS.tick_ok (CS.does_ok h ho)
  · exact CS.does_ok h ho
theorem CS.Near.both {S : CS} (h : S.Near) (hok : S.Ok) {o : OpV} (ho : o.Ok) : (S.both o).Near := by
  unfold CS.both
  split
  · exact (h.does o).turn (CS.tickN_le _ (CS.does_ok hok ho)).1
  · exact h.does o
/-- while the other clock ticks: nothing told yet, or what Skip told -/
def SkL (w0 wr : World) (g c : Nat) (a : Option Nat) (g' c' : Nat) (a' : Option Nat) (S : CS) (k : Nat) (d : Nat) (x : Value) (A : Option Addr) (n ca n1 : Nat) : Prop :=
  Ls wr a' x S.skipL ∧ ((k < d ∧ n = 0 ∧ Sk w0 wr g c a g' c' a' S.skip (S.turn (S.now + k))) ∨ (k = d ∧ n = n1 ∧ Sk w0 wr g c a g' c' a' S.skip S.skip ∧ Tl wr 0 A n ca S.skipL))
set_option maxHeartbeats 4000000 in
theorem skips_law (F : Option Addr) (m cap : Nat) (os : List OpV) (w : World) (hos : OpsAt w F m os) (hmm : m ≤ 9223372036854775807) : Calls Try.prog 7 #[.slice F m cap] w (Awake w) := by
  have H := Lib.hid (And.intro hos hmm)
  clear hos hmm
  go_enter Try.func7, Try.ntmps7
  go_wp2_with fail
  refine (ck_new _ 100 (by decide) (by decide)).mono ?_
  rintro e w1 ⟨g, c, rfl, hC, hb, hg1, hg2, hc1, hc2⟩
  have H1 := Lib.hid (And.intro hC hb)
  clear hC hb hg1 hg2 hc1 hc2
  go_wp2_with fail
  refine (ck_new _ 100 (by decide) (by decide)).mono ?_
  rintro e w2 ⟨g', c', rfl, hC, hb, hg1, hg2, hc1, hc2⟩
  have H2 : Hid (Sk w w2 g c none g' c' none (CS.new 100) (CS.new 100)) := ⟨Two.made H1.out.1 hC hb hg1 hc1, H1.out.2.trans (hb.mono H1.out.2.size)⟩
  clear hC hb hg1 hg2 hc1 hc2 H1
  go_wp2
  go_loopw [7] (fun s7 wr => ∃ (j : Nat) (a a' : Option Nat) (S : CS), s7 = .int .i64 j ∧ Hid (j ≤ 50 ∧ j ≤ m ∧ S.Near ∧ Sk w wr g c a g' c' a' S S)) (fun s7 _ => 50 - (Go.RowKit.intOf s7).toNat)
  case atStart => exact ⟨0, none, none, _, rfl, (⟨by omega, by omega, (fun t ht => by simp [CS.new] at ht), H2.out⟩ : 0 ≤ 50 ∧ 0 ≤ m ∧ (CS.new 100).Near ∧ Sk w w2 g c none g' c' none (CS.new 100) (CS.new 100))⟩
  case round =>
    obtain ⟨j, a, a', S, rfl, HM⟩ := hrel
    clear H2
    go_upto_region 6 with (fail)
    go_cut [35] from 28 to 34 (fun v wc => ∃ q : Bool, v = .bool q ∧ wc = wr ∧ Hid (q = true → j < m ∧ j < 50))
    case first =>
      by_cases hjm : j < m
      · have hi2 : (j : Int) < (m : Int) := by omega
        by_cases h50 : (j : Int) < 50
        · go_wp2_with fail
          go_meet
          exact ⟨true, rfl, rfl, (fun _ => ⟨hjm, by omega⟩ : true = true → j < m ∧ j < 50)⟩
        · have h50' : decide ((j : Int) < 50) = false := by simpa using h50
          have h50n : decide (j < 50) = false := by simp; omega
          clear h50
          go_wp2_with fail
          go_meet
          exact ⟨false, rfl, rfl, ((fun h => Bool.noConfusion h) : false = true → j < m ∧ j < 50)⟩
      · have hjm' : decide ((j : Int) < (m : Int)) = false := by simp; omega
        have hjmn : decide (j < m) = false := by simpa using hjm
        clear hjm
        go_wp2_with fail
        go_meet
        exact ⟨false, rfl, rfl, ((fun h => Bool.noConfusion h) : false = true → j < m ∧ j < 50)⟩
    case rest =>
    obtain ⟨q, rfl, rfl, HQ⟩ := hcut
    cases q with
    | true =>
      have hlt := HQ.out rfl
      clear HQ
      obtain ⟨o, ad, ho, hok, rfl, hoc⟩ := H.out.1.opc hlt.1
      have hi1 : (0 : Int) ≤ (j : Int) := by omega
      have hi2 : (j : Int) < (m : Int) := by omega
      have hi3 : (j : Int) < 50 := by omega
      have hwj : IntKind.i64.wrap ((j : Int) + 1) = (j : Int) + 1 := IntWalk.i64_in _ (by omega)
      have HO := Lib.hid (And.intro hoc (And.intro hok hlt))
      have k0 := (hoc.below HM.out.2.2.2.bel).c0
      have k1 := (hoc.below HM.out.2.2.2.bel).c1
      have k2 := (hoc.below HM.out.2.2.2.bel).c2
      clear ho hok hlt hoc
      go_wp2_with fail
      refine (does_is _ HM.out.2.2.2.two.x HO.out.2.1 rfl).mono ?_
      rintro e w2 hp
      obtain ⟨a2, hS⟩ := HM.out.2.2.2.fst hp
      obtain ⟨rfl, _⟩ := hp
      have H2 := Lib.hid hS
      clear hS k0 k1 k2
      have k0 := (HO.out.1.below H2.out.bel).c0
      have k1 := (HO.out.1.below H2.out.bel).c1
      have k2 := (HO.out.1.below H2.out.bel).c2
      go_wp2_with fail
      refine (does_is _ H2.out.two.y HO.out.2.1 rfl).mono ?_
      rintro e w3 hp
      obtain ⟨a3, hS⟩ := H2.out.swap.fst hp
      obtain ⟨rfl, _⟩ := hp
      have H3 := Lib.hid hS.swap
      clear hS k0 k1 k2 H2
      have k0 := (HO.out.1.below H3.out.bel).c0
      by_cases h6 : (6 : Int) ≤ o.kd
      · have HE : Hid (S.both o = (S.does o).tick) := by show _ = _; unfold CS.both; rw [if_pos h6]
        go_wp2_with fail
        refine (ck_tick _ H3.out.two.x rfl rfl).mono ?_
        rintro e w4 ⟨_, rfl, ⟨A, ca, rfl, hN⟩, hC, hb, hk⟩
        have H4 := Lib.hid (H3.out.tk hC (fun _ => hb) hk)
        clear hN hC hb hk k0 H3
        obtain ⟨n4, hn4⟩ : ∃ n4, (S.does o).tickL.length = n4 := ⟨_, rfl⟩
        rw [hn4]
        clear hn4
        go_wp2_with fail
        refine (ck_tick _ H4.out.two.y rfl rfl).mono ?_
        rintro e w5 ⟨_, rfl, ⟨A5, ca5, rfl, hN⟩, hC, hb, hk⟩
        have H5 := Lib.hid (H4.out.swap.tk hC (fun _ => hb) hk).swap
        clear hN hC hb hk H4
        obtain ⟨n5, hn5⟩ : ∃ n5, (S.does o).tickL.length = n5 := ⟨_, rfl⟩
        rw [hn5]
        clear hn5
        go_wp2
        go_roundw
        case rel => exact ⟨j + 1, _, _, S.both o, by go_num, (⟨by have := HO.out.2.2.2; omega, by have := HO.out.2.2.1; omega, HM.out.2.2.1.both HM.out.2.2.2.two.x.ok HO.out.2.1, by rw [HE.out]; exact H5.out⟩ : j + 1 ≤ 50 ∧ j + 1 ≤ m ∧ (S.both o).Near ∧ Sk w w5 g c _ g' c' _ (S.both o) (S.both o))⟩
        case measure =>
          have := HO.out.2.2.2
          simp [Go.RowKit.intOf]; omega
      · have HE : Hid (S.both o = S.does o) := by show _ = _; unfold CS.both; rw [if_neg h6]
        have h6' : decide ((6 : Int) ≤ o.kd) = false := by simpa using h6
        clear h6
        go_wp2
        go_roundw
        case rel => exact ⟨j + 1, _, _, S.both o, by go_num, (⟨by have := HO.out.2.2.2; omega, by have := HO.out.2.2.1; omega, HM.out.2.2.1.both HM.out.2.2.2.two.x.ok HO.out.2.1, by rw [HE.out]; exact H3.out⟩ : j + 1 ≤ 50 ∧ j + 1 ≤ m ∧ (S.both o).Near ∧ Sk w w3 g c _ g' c' _ (S.both o) (S.both o))⟩
        case measure =>
          have := HO.out.2.2.2
          simp [Go.RowKit.intOf]; omega
    | false =>
      clear HQ
      have H3 := Lib.hid (And.intro HM.out.2.2.1 HM.out.2.2.2)
      clear HM
      go_wp2
      go_loopw [8, 9, 10, 11, 12, 13] (fun s8 _ _ _ _ _ wr => ∃ (n : Nat) (a a' : Option Nat) (S : CS), s8 = .int .i64 n ∧ Hid (n ≤ 60 ∧ S.Near ∧ Sk w wr g c a g' c' a' S S)) (fun s8 _ _ _ _ _ _ => 60 - (Go.RowKit.intOf s8).toNat)
      case atStart => exact ⟨0, _, _, _, rfl, (⟨by omega, H3.out⟩ : 0 ≤ 60 ∧ S.Near ∧ Sk w _ g c a g' c' a' S S)⟩
      case round =>
        clear H3
        obtain ⟨n, a, a', S, rfl, HM⟩ := hrel
        by_cases h60 : n < 60
        · have hi3 : (n : Int) < 60 := by omega
          have hwn : IntKind.i64.wrap ((n : Int) + 1) = (n : Int) + 1 := IntWalk.i64_in _ (by omega)
          have H60 := Lib.hid h60
          clear h60
          cases hL : S.L with
          | nil =>
            obtain ⟨e1, e2⟩ := CS.skip_nil hL
            have HL := Lib.hid (And.intro hL (And.intro e1 e2))
            clear hL e1 e2
            go_wp2_with fail
            refine (ck_next_k _ HM.out.2.2.two.x (t := noT) (by rw [HL.out.1]; rfl) (b := false) (by rw [HL.out.1]; rfl)).mono ?_
            rintro e w3 ⟨rfl, hW⟩
            dsimp only [TV, noT]
            obtain ⟨w4, hw4⟩ : ∃ v, w3.alloc (.cells #[.int .i64 0, .int .i64 0] 36) = v := ⟨_, rfl⟩
            have hb4 : Below w3.heap.size w3 w4 := hw4 ▸ (Below.refl _ _).alloc (Nat.le_refl _) _
            have H4 := Lib.hid ((HM.out.2.2.below hW).below hb4)
            have HW := Lib.hid hw4
            clear hW hb4 hw4
            go_wp2_with fail
            rw [HW.out]
            refine (ck_skip _ H4.out.two.x (S' := S) HL.out.2.1 (l := []) HL.out.2.2).mono ?_
            rintro e w5 ⟨_, rfl, ⟨A, ca, rfl, hN⟩, hC, hb, hk⟩
            dsimp only [List.length] at hN ⊢
            have H5 := Lib.hid (H4.out.tk hC (fun _ => hb) hk)
            clear hN hC hb hk H4 HW
            go_wp2_with fail
            refine (ck_now _ H5.out.two.x rfl).mono ?_
            rintro e _ ⟨rfl, rfl⟩
            go_wp2_with fail
            refine (ck_now _ H5.out.two.y rfl).mono ?_
            rintro e _ ⟨rfl, rfl⟩
            go_wp2_with fail
            refine (awake_is _).mono ?_
            rintro e w99 ⟨rfl, hb⟩
            have HZ := Lib.hid (H5.out.bel.trans (hb.mono H5.out.bel.size))
            clear hb
            go_wp2
            go_ret
            exact ⟨rfl, HZ.out⟩
          | cons t l =>
            have hok := HM.out.2.2.two.x.ok
            have hpos := CS.skipL_pos hL
            have htm : t ∈ S.L := by rw [hL]; simp
            have hits := hok.its t htm
            have hnear := HM.out.2.1 t htm
            have hn0 := hok.n0
            have hhead := CS.head_le hok hL
            have hsk := CS.skipN_cons hL
            obtain ⟨d, hd⟩ : ∃ d : Nat, S.now + d = t.due := ⟨(t.due - S.now).toNat, by omega⟩
            obtain ⟨n1, hn1⟩ : ∃ n1, S.skipL.length = n1 := ⟨_, rfl⟩
            rw [hn1] at hpos
            have hp1 : (0 : Int) < (n1 : Int) := by omega
            have hn1l : n1 ≤ 100000 := by
              have h1 : S.skipL.length ≤ S.L.length := List.length_filter_le _ _
              have := hok.len
              have := hok.m2
              omega
            have hp2 : ((n1 : Int) == 0) = false := by simp; omega
            have hp3 : (n1 == 0) = false := by simp; omega
            have HD := Lib.hid (And.intro hd (And.intro (by omega : 1 ≤ d) (And.intro (by omega : d ≤ 20) (And.intro hhead (And.intro hsk (And.intro hn1 (And.intro hn1l (And.intro hok (And.intro hn0 hits.2.1)))))))))
            have HL := Lib.hid hL
            clear hok htm hits hnear hn0 hhead hsk hd hn1l hL
            go_wp2_with fail
            refine (ck_next_k _ HM.out.2.2.two.x (t := t) (by rw [HL.out]; rfl) (b := true) (by rw [HL.out]; rfl)).mono ?_
            rintro e w3 ⟨rfl, hW⟩
            obtain ⟨w4, hw4⟩ : ∃ v, w3.alloc (.cells #[.int .i64 t.due, .int .i64 t.id] 36) = v := ⟨_, rfl⟩
            have hb4 : Below w3.heap.size w3 w4 := hw4 ▸ (Below.refl _ _).alloc (Nat.le_refl _) _
            have H4 := Lib.hid ((HM.out.2.2.below hW).below hb4)
            clear hW hb4
            go_wp2_with fail
            (try rw [hw4])
            refine (ck_skip _ H4.out.two.x rfl rfl).mono ?_
            rintro e w5 ⟨_, rfl, ⟨Ax, cx, rfl, hN⟩, hC, hb, hk⟩
            have hlx : Ls w5 a' (.slice Ax n1 cx) S.skipL := by
              have := Nl.ls (a := a') (⟨Ax, cx, rfl, hN⟩ : Nl w5 w4.heap.size (.slice Ax S.skipL.length cx) S.skipL) H4.out.two.y.a_lt
              rw [hn1] at this
              exact this
            rw [hn1]
            have H5 : Hid (SkL w w5 g c a g' c' a' S 0 d (.slice Ax n1 cx) none 0 0 n1) := by
              have hs := H4.out.tk hC (fun _ => hb) hk
              refine ⟨hlx, .inl ⟨by have := HD.out.2.1; omega, rfl, ?_⟩⟩
              have e : S.turn (S.now + ((0 : Nat) : Int)) = S := by
                rw [show S.now + ((0 : Nat) : Int) = S.now by omega]
                exact CS.turn_now HD.out.2.2.2.2.2.2.2.1
              rw [e]
              exact hs
            clear hN hC hb hk hlx hn1 H4 hw4
            go_wp2
            go_loopw [12, 13] (fun s12 s13 wr => ∃ (k : Nat) (A : Option Addr) (n' ca : Nat), s13 = .int .i64 k ∧ s12 = .slice A n' ca ∧ Hid (SkL w wr g c a g' c' a' S k d (.slice Ax n1 cx) A n' ca n1)) (fun _ s13 _ => 25 - (Go.RowKit.intOf s13).toNat)
            case atStart => exact ⟨0, none, 0, 0, rfl, rfl, H5.out⟩
            case round =>
              clear H5
              obtain ⟨k, A, n', ca, rfl, rfl, HK⟩ := hrel
              rcases HK.out.2 with ⟨hkd, hn', hsk⟩ | ⟨hkd, hn', hsk, hy⟩
              · subst hn'
                have hk25 : (k : Int) < 25 := by have := HD.out.2.2.1; omega
                have hwk : IntKind.i64.wrap ((k : Int) + 1) = (k : Int) + 1 := IntWalk.i64_in _ (by omega)
                have hbef : ∀ u ∈ S.L, S.now + k < u.due := fun u hu => by have := HD.out.2.2.2.1 u hu; have := HD.out.1; omega
                obtain ⟨e1, e2⟩ := CS.turn_tick hbef (by have := HD.out.2.2.2.2.2.2.2.2.2; have := HD.out.1; omega)
                have HS := Lib.hid (And.intro hsk (And.intro hkd (And.intro e1 e2)))
                have HX := Lib.hid HK.out.1
                clear hsk hkd hbef e1 e2 HK
                go_wp2_with fail
                refine (ck_tick _ HS.out.1.two.y HS.out.2.2.1 HS.out.2.2.2).mono ?_
                rintro e w6 ⟨_, rfl, ⟨A6, ca6, rfl, hN⟩, hC, hb, hk⟩
                have hsk2 := (HS.out.1.swap.tk hC (fun _ => hb) hk).swap
                have hx2 := HX.out.kp hk
                obtain ⟨n6, hn6⟩ : ∃ n6, (S.told (S.now + k + 1)).length = n6 := ⟨_, rfl⟩
                have H6 : Hid (SkL w w6 g c a g' c' a' S (k + 1) d (.slice Ax n1 cx) A6 n6 ca6 n1) := by
                  refine ⟨hx2, ?_⟩
                  by_cases hkd2 : k + 1 < d
                  · left
                    have hbef : ∀ u ∈ S.L, S.now + k + 1 < u.due := fun u hu => by have := HD.out.2.2.2.1 u hu; have := HD.out.1; omega
                    have ht := (CS.turn_before hbef).2
                    rw [ht] at hn6
                    refine ⟨hkd2, hn6.symm, ?_⟩
                    rw [show S.now + ((k + 1 : Nat) : Int) = S.now + k + 1 by omega]
                    exact hsk2
                  · right
                    have he : S.now + (k : Int) + 1 = t.due := by have := HD.out.1; have := HS.out.2.1; omega
                    rw [he] at hsk2 hN hn6
                    have e1 : S.turn t.due = S.skip := by unfold CS.skip; rw [HD.out.2.2.2.2.1]
                    have e2 : S.told t.due = S.skipL := by unfold CS.skipL; rw [HD.out.2.2.2.2.1]
                    rw [e1] at hsk2
                    rw [e2] at hN hn6
                    have hnn : n6 = n1 := by rw [← hn6]; exact HD.out.2.2.2.2.2.1
                    refine ⟨by have := HS.out.2.1; omega, hnn, hsk2, ?_⟩
                    rw [hn6] at hN
                    exact hN.lower (Nat.zero_le _)
                rw [hn6]
                clear hN hC hb hk hsk2 hx2 hn6 HX
                go_wp2
                go_roundw
                case rel => exact ⟨k + 1, A6, n6, ca6, by go_num, rfl, H6.out⟩
                case measure =>
                  have := HS.out.2.1
                  have := HD.out.2.2.1
                  simp [Go.RowKit.intOf]; omega
              · subst hn'
                have hk25 : (k : Int) < 25 := by have := HD.out.2.2.1; omega
                obtain ⟨A2, c2, e2, hx, _⟩ := HK.out.1
                injection e2 with e2 e3 e4
                subst e2 e4
                rw [← e3] at hx
                have HS := Lib.hid (And.intro hsk (And.intro hx hy))
                clear hsk hkd hx hy HK e3
                go_wp2_with fail
                refine (same_is _ HS.out.2.1 HS.out.2.2 (by have := HD.out.2.2.2.2.2.2.1; omega) (sameL_self _)).mono ?_
                rintro e w6 ⟨rfl, hW⟩
                have H6 := Lib.hid (HS.out.1.below hW)
                clear hW HS
                go_wp2_with fail
                refine (ck_now _ H6.out.two.x rfl).mono ?_
                rintro e _ ⟨rfl, rfl⟩
                go_wp2_with fail
                refine (ck_now _ H6.out.two.y rfl).mono ?_
                rintro e _ ⟨rfl, rfl⟩
                obtain ⟨n7, hn7⟩ : ∃ n7, S.skip.L.length = n7 := ⟨_, rfl⟩
                have HN7 := Lib.hid hn7
                clear hn7
                go_wp2_with fail
                refine (ck_all _ H6.out.two.x rfl).mono ?_
                rintro e w7 ⟨_, rfl, ⟨A7, c7, rfl, hN⟩, hW⟩
                rw [HN7.out] at hN ⊢
                have H7 := Lib.hid (And.intro (H6.out.below hW) (hN.lower (Nat.zero_le _)))
                clear hW hN H6
                go_wp2_with fail
                refine (ck_all _ H7.out.1.two.y rfl).mono ?_
                rintro e w8 ⟨_, rfl, ⟨A8, c8, rfl, hN⟩, hW⟩
                rw [HN7.out] at hN ⊢
                have H8 := Lib.hid (And.intro (H7.out.1.below hW) (And.intro (H7.out.2.below hW) (hN.lower (Nat.zero_le _))))
                clear hW hN H7
                go_wp2_with fail
                refine (same_is _ H8.out.2.1 H8.out.2.2 (by have h1 := HN7.out; have h2 : S.skip.L.length ≤ S.L.length := List.length_filter_le _ _; have := HD.out.2.2.2.2.2.2.2.1.len; have := HD.out.2.2.2.2.2.2.2.1.m2; omega) (sameL_self _)).mono ?_
                rintro e w9 ⟨rfl, hW⟩
                have H9 := Lib.hid (H8.out.1.below hW)
                clear hW H8
                go_wp2
                go_roundw
                case rel => exact ⟨n + 1, a, a', S.skip, by go_num, (⟨by have := H60.out; omega, HM.out.2.1.turn (CS.skipN_le _ HD.out.2.2.2.2.2.2.2.1).1, H9.out⟩ : n + 1 ≤ 60 ∧ S.skip.Near ∧ Sk w _ g c a g' c' a' S.skip S.skip)⟩
                case measure =>
                  have := H60.out
                  simp [Go.RowKit.intOf]; omega
        · obtain rfl : n = 60 := by have := HM.out.1; omega
          go_wp2_with fail
          refine (awake_is _).mono ?_
          rintro e w99 ⟨rfl, hb⟩
          have HZ := Lib.hid (HM.out.2.2.bel.trans (hb.mono HM.out.2.2.bel.size))
          clear hb
          go_wp2
          go_ret
          exact ⟨rfl, HZ.out⟩
end Go.Proofs.Ytncjbohpaanpaaa
