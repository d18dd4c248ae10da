/- The reference's Read. -/
import Derived.Test.YtbilbfjmfaignaaTelD
import Derived.Test.YtbilbfjmfaignaaTelP
namespace Go.Proofs.Ytbilbfjmfaignaa
open Go.RowKit Go.Coop
set_option maxRecDepth 100000
section
variable (w : World)
theorem rget_q {A : Option Addr} {n : Nat} (c : Nat) {b : List UInt8} {x : Nat} (hr : Rd w A n b) (hn : n ≤ 1000000) (hx : x ≤ b.length) {a nx er : Nat} (h1 : (getU b (x : Int)).1 = a) (h2 : (getU b (x : Int)).2.1 = nx) (h3 : (getU b (x : Int)).2.2 = er) : Calls Try.prog 49 #[.slice A n c, .int .i64 (x : Int)] w fun e w' => e = .returned (.tuple #[.int .u64 (a : Int), .int .i64 (nx : Int), .int .i64 (er : Int)]) ∧ w = w' := by
  subst h1 h2 h3
  exact rgetUint_in A n c b x w hr (by omega) (by have := hr.len; omega)
set_option maxHeartbeats 4000000 in
theorem rread_is {A : Option Addr} {n : Nat} (c : Nat) {b : List UInt8} (hr : Rd w A n b) (hn : n ≤ 1000000) : Calls Try.prog 24 #[.slice A n c] w (RGave w (readP b)) := by
  have hend : ∀ W, Below w.heap.size w W → (∀ L, ¬ Fits b L) → RGave w (readP b) (.returned (.tuple #[.slice none 0 0, .int .i64 100])) W := fun W hb hno => by
    rw [readP_none hno]
    exact ⟨none, 0, 0, [], rfl, PL.nil _ _, rfl, by omega, hb⟩
  have HE := Lib.hid hend
  have hlb := hr.len
  obtain ⟨a0, ha0⟩ : ∃ q, (getU b ((0 : Nat) : Int)).1 = q := ⟨_, rfl⟩
  obtain ⟨nx0, hnx0⟩ : ∃ q, (getU b ((0 : Nat) : Int)).2.1 = q := ⟨_, rfl⟩
  obtain ⟨er0, her0⟩ : ∃ q, (getU b ((0 : Nat) : Int)).2.2 = q := ⟨_, rfl⟩
  have G0 := Lib.hid (rget_q w c hr hn (Nat.zero_le _) ha0 hnx0 her0)
  have H := Lib.hid (And.intro hr (And.intro hlb (And.intro ha0 (And.intro hnx0 her0))))
  clear hend hr hlb ha0 hnx0 her0
  go_enter Try.func24, Try.ntmps24
  go_wp2_with fail
  refine G0.out.mono ?_
  rintro e _ ⟨rfl, rfl⟩
  by_cases zer0 : ¬ er0 = 0
  · have hbe : ((er0 : Int) == 0) = false := by simp; omega
    have hbe' : ((er0 : Int) != 0) = true := by simp; omega
    have HZ := Lib.hid zer0
    clear zer0
    go_wp2
    go_ret2
    exact HE.out _ (Below.refl _ _) (fun L hL => by have h1 := (fits_first hL).2.1; have h2 := H.out.2.2.2.2; exact HZ.out (h2.symm.trans h1))
  have yer0 : er0 = 0 := by omega
  clear zer0
  subst yer0
  by_cases la0 : (1000 : Int) < (a0 : Int)
  · have la0' : ¬ (a0 : Int) ≤ 1000 := by omega
    go_wp2
    go_ret2
    exact HE.out _ (Below.refl _ _) (fun L hL => by have h1 := fits_first hL; have h2 := H.out.2.2.1; omega)
  have la0' : (a0 : Int) ≤ 1000 := by omega
  have hwn : IntKind.i64.wrap (a0 : Int) = (a0 : Int) := IntWalk.i64_in _ (by omega)
  have hst : Rdg b nx0 (dig a0) := by
    have h0 : Rdg b 0 [] := ⟨Nat.zero_le _, rfl⟩
    have := h0.step H.out.2.2.2.2
    rw [H.out.2.2.1, H.out.2.2.2.1] at this
    exact this
  have HS := Lib.hid (And.intro hst (must_zero H.out.2.2.1))
  have ha1000 : a0 ≤ 1000 := by omega
  clear hst G0
  go_wp2
  go_loopw [5, 7, 8, 9, 10, 11, 12, 13, 14, 15, 16, 17, 18] (fun s5 s7 s8 _ _ _ _ _ _ _ _ _ _ wr => ∃ (i N at_ : Nat) (A1 : Option Addr) (c1 : Nat), i ≤ a0 ∧ s8 = .int .i64 i ∧ s5 = .int .i64 at_ ∧ s7 = .slice A1 N c1 ∧ Hid (∃ ps, N = i ∧ PR wr w.heap.size A1 N c1 [] ps ∧ Rdg b at_ (dig a0 ++ encT (ps.map Pc.pl)) ∧ Must b a0 i (ps.map Pc.pl) ∧ Below w.heap.size w wr)) (fun _ _ s8 _ _ _ _ _ _ _ _ _ _ _ => a0 - (Go.RowKit.intOf s8).toNat)
  case atStart => exact ⟨0, 0, nx0, none, 0, by omega, rfl, rfl, rfl, Lib.hid ⟨[], rfl, PR.nil _ _ _, by simpa [encT] using HS.out.1, HS.out.2, Below.refl _ _⟩⟩
  case round =>
    obtain ⟨i, N, at_, A1, c1, hi, rfl, rfl, rfl, HR⟩ := hrel
    obtain ⟨ps, hNi, hPR, hRd, hMu, hBe⟩ := HR.out
    subst hNi
    have HQ := Lib.hid (And.intro hPR (And.intro hRd (And.intro hMu hBe)))
    clear hPR hRd hMu hBe HR
    by_cases hlt : N < a0
    · have hi2 : (N : Int) < (a0 : Int) := by omega
      have hw1 : IntKind.i64.wrap ((N : Int) + 1) = (N : Int) + 1 := IntWalk.i64_in _ (by omega)
      have HLT := Lib.hid hlt
      clear hlt
      obtain ⟨ep, hep⟩ : ∃ q, (getU b (at_ : Int)).1 = q := ⟨_, rfl⟩
      obtain ⟨nx1, hnx1⟩ : ∃ q, (getU b (at_ : Int)).2.1 = q := ⟨_, rfl⟩
      obtain ⟨er1, her1⟩ : ∃ q, (getU b (at_ : Int)).2.2 = q := ⟨_, rfl⟩
      have G1 := Lib.hid (rget_q wr c (H.out.1.below HQ.out.2.2.2 (Nat.le_refl _)) hn HQ.out.2.1.1 hep hnx1 her1)
      have H1 := Lib.hid (And.intro hep (And.intro hnx1 her1))
      clear hep hnx1 her1
      go_wp2_with fail
      refine G1.out.mono ?_
      rintro e _ ⟨rfl, rfl⟩
      by_cases zer1 : ¬ er1 = 0
      · have hbe : ((er1 : Int) == 0) = false := by simp; omega
        have hbe' : ((er1 : Int) != 0) = true := by simp; omega
        have HZ := Lib.hid zer1
        clear zer1
        go_wp2
        go_ret2
        exact HE.out _ (HQ.out.2.2.2) (fun L hL => by obtain ⟨p, _, _, _, h1⟩ := must_epoch HQ.out.2.2.1 HQ.out.2.1 HLT.out hL; exact HZ.out (H1.out.2.2.symm.trans h1))
      have yer1 : er1 = 0 := by omega
      clear zer1
      subst yer1
      by_cases lep : (1099511627776 : Int) < (ep : Int)
      · have lep' : ¬ (ep : Int) ≤ 1099511627776 := by omega
        go_wp2
        go_ret2
        exact HE.out _ (HQ.out.2.2.2) (fun L hL => by obtain ⟨p, _, hri, h1, _⟩ := must_epoch HQ.out.2.2.1 HQ.out.2.1 HLT.out hL; have h2 := H1.out.1; have h3 := hri.2.1; omega)
      have lep' : (ep : Int) ≤ 1099511627776 := by omega
      have hst : Rdg b nx1 ((dig a0 ++ encT (ps.map Pc.pl)) ++ dig ep) := by
        have := HQ.out.2.1.step H1.out.2.2
        rw [H1.out.1, H1.out.2.1] at this
        exact this
      have hmu : Must1 b a0 N (ps.map Pc.pl) ep := fun L hL => ⟨HQ.out.2.2.1 L hL, by
        obtain ⟨p, hp, hri, h1, _⟩ := must_epoch HQ.out.2.2.1 HQ.out.2.1 HLT.out hL
        have h2 := H1.out.1
        have h3 := hri.2.1
        exact ⟨p, hp, by omega⟩⟩
      have HS1 := Lib.hid (And.intro hst hmu)
      clear hst hmu G1
      obtain ⟨many, hmany⟩ : ∃ q, (getU b (nx1 : Int)).1 = q := ⟨_, rfl⟩
      obtain ⟨nx2, hnx2⟩ : ∃ q, (getU b (nx1 : Int)).2.1 = q := ⟨_, rfl⟩
      obtain ⟨er2, her2⟩ : ∃ q, (getU b (nx1 : Int)).2.2 = q := ⟨_, rfl⟩
      have G2 := Lib.hid (rget_q wr c (H.out.1.below HQ.out.2.2.2 (Nat.le_refl _)) hn HS1.out.1.1 hmany hnx2 her2)
      have H2 := Lib.hid (And.intro hmany (And.intro hnx2 her2))
      clear hmany hnx2 her2
      go_wp2_with fail
      refine G2.out.mono ?_
      rintro e _ ⟨rfl, rfl⟩
      by_cases zer2 : ¬ er2 = 0
      · have hbe : ((er2 : Int) == 0) = false := by simp; omega
        have hbe' : ((er2 : Int) != 0) = true := by simp; omega
        have HZ := Lib.hid zer2
        clear zer2
        go_wp2
        go_ret2
        exact HE.out _ (HQ.out.2.2.2) (fun L hL => by obtain ⟨p, _, _, _, _, h1⟩ := must_many HS1.out.2 HS1.out.1 hL; exact HZ.out (H2.out.2.2.symm.trans h1))
      have yer2 : er2 = 0 := by omega
      clear zer2
      subst yer2
      by_cases lmany : (255 : Int) < (many : Int)
      · have lmany' : ¬ (many : Int) ≤ 255 := by omega
        go_wp2
        go_ret2
        exact HE.out _ (HQ.out.2.2.2) (fun L hL => by obtain ⟨p, _, hri, _, h1, _⟩ := must_many HS1.out.2 HS1.out.1 hL; have h2 := H2.out.1; have h3 := hri.2.2.1; omega)
      have lmany' : (many : Int) ≤ 255 := by omega
      have hst : Rdg b nx2 (((dig a0 ++ encT (ps.map Pc.pl)) ++ dig ep ++ dig many) ++ encN []) := by
        have := HS1.out.1.step H2.out.2.2
        rw [H2.out.1, H2.out.2.1] at this
        simpa [encN] using this
      have hmu : Must2 b a0 N (ps.map Pc.pl) ep many 0 [] := fun L hL => ⟨(HS1.out.2 L hL).1, by
        obtain ⟨p, hp, hri, h0, h1, _⟩ := must_many HS1.out.2 HS1.out.1 hL
        have h2 := H2.out.1
        exact ⟨p, hp, h0, by omega, by simp⟩⟩
      have HS2 := Lib.hid (And.intro hst hmu)
      clear hst hmu G2
      have hwe : IntKind.i64.wrap (ep : Int) = (ep : Int) := IntWalk.i64_in _ (by omega)
      have hwm : IntKind.i64.wrap (many : Int) = (many : Int) := IntWalk.i64_in _ (by omega)
      have hm255 : many ≤ 255 := by omega
      obtain ⟨wa, hwa⟩ : ∃ v, wr.alloc (.cells #[.int .i64 0, .slice none 0 0] 30) = v := ⟨_, rfl⟩
      obtain ⟨hba, hxa⟩ := box_new hwa
      obtain ⟨bx, hbx⟩ : ∃ q, wr.heap.size = q := ⟨_, rfl⟩
      rw [hbx] at hxa
      obtain ⟨⟨m0, m1⟩, fm0, fm1⟩ := two30 hxa
      obtain ⟨wd, hwd⟩ : ∃ v, (wa.setCell ⟨bx, 0, none⟩ (.int .i64 (ep : Int))).setCell ⟨bx, 1, none⟩ (.slice none 0 0) = v := ⟨_, rfl⟩
      have hxd : wd.heap[bx]? = some (.cells #[.int .i64 (ep : Int), .slice none 0 0] 30 (0, 0)) := by
        rw [← hwd]
        exact row2 hxa
      have hbd : Below bx wr wd := by
        rw [← hwd, ← hbx]
        exact (hba.setCell (by simp) _).setCell (by simp) _
      have hle := HQ.out.2.2.2.size
      have hPd : PR wd w.heap.size A1 N c1 [bx] ps := by
        have hb0 : But [] wr wd := But.of_below (by rw [hbx]; exact hbd)
        refine HQ.out.1.grown hb0 (by simp) (fun j hj => ?_)
        right
        simp at hj
        omega
      have hAb : ∀ j, A1.map (·.block) = some j → j ≠ bx := fun j hj => by
        have := (HQ.out.1.row.block j hj).2
        omega
      have hlex : w.heap.size ≤ bx := by omega
      have HD := Lib.hid (And.intro hxd (And.intro hPd (And.intro (HQ.out.2.2.2.trans (hbd.mono hlex)) (And.intro hAb hlex))))
      clear hxd hPd hbd hba hxa hAb hle hlex
      go_wp2
      (try rw [hbx]); (try rw [hwa]); (try rw [hwd])
      clear m0 m1 fm0 fm1 hwa hwd hwe
      go_loopw [13, 15, 16, 17, 18] (fun s13 s15 _ _ _ wr2 => ∃ (k at2 : Nat), k ≤ many ∧ s15 = .int .i64 k ∧ s13 = .int .i64 at2 ∧ Hid (∃ X cX ns, wr2.heap[bx]? = some (.cells #[.int .i64 (ep : Int), .slice X k cX] 30 (0, 0)) ∧ OwnV wr2 w.heap.size 3 X k cX (ns.map IV) ∧ PR wr2 w.heap.size A1 N c1 ((X.map (·.block)).toList ++ [bx]) ps ∧ Rdg b at2 (((dig a0 ++ encT (ps.map Pc.pl)) ++ dig ep ++ dig many) ++ encN ns) ∧ Must2 b a0 N (ps.map Pc.pl) ep many k ns ∧ Below w.heap.size w wr2)) (fun _ s15 _ _ _ _ => many - (Go.RowKit.intOf s15).toNat)
      case atStart => exact ⟨0, nx2, by omega, rfl, rfl, Lib.hid ⟨none, 0, [], HD.out.1, OwnV.nil _ _ _, HD.out.2.1, HS2.out.1, HS2.out.2, HD.out.2.2.1⟩⟩
      case round =>
        obtain ⟨k, at2, hk, rfl, rfl, HI⟩ := hrel
        obtain ⟨X, cX, ns, i1, i2, i3, i4, i5, i6⟩ := HI.out
        obtain ⟨⟨m0, m1⟩, fm0, fm1⟩ := two30 i1
        have HJ := Lib.hid (And.intro i1 (And.intro i2 (And.intro i3 (And.intro i4 (And.intro i5 i6)))))
        clear i1 i2 i3 i4 i5 i6 HI
        by_cases hlt : k < many
        · have hk2 : (k : Int) < (many : Int) := by omega
          have hw2 : IntKind.i64.wrap ((k : Int) + 1) = (k : Int) + 1 := IntWalk.i64_in _ (by omega)
          have HK := Lib.hid hlt
          clear hlt
          obtain ⟨y, hy⟩ : ∃ q, (getU b (at2 : Int)).1 = q := ⟨_, rfl⟩
          obtain ⟨nx3, hnx3⟩ : ∃ q, (getU b (at2 : Int)).2.1 = q := ⟨_, rfl⟩
          obtain ⟨er3, her3⟩ : ∃ q, (getU b (at2 : Int)).2.2 = q := ⟨_, rfl⟩
          have G3 := Lib.hid (rget_q _ c (H.out.1.below HJ.out.2.2.2.2.2 (Nat.le_refl _)) hn HJ.out.2.2.2.1.1 hy hnx3 her3)
          have H3 := Lib.hid (And.intro hy (And.intro hnx3 her3))
          clear hy hnx3 her3
          go_wp2_with fail
          refine G3.out.mono ?_
          rintro e _ ⟨rfl, rfl⟩
          by_cases zer3 : ¬ er3 = 0
          · have hbe : ((er3 : Int) == 0) = false := by simp; omega
            have hbe' : ((er3 : Int) != 0) = true := by simp; omega
            have HZ := Lib.hid zer3
            clear zer3
            go_wp2
            go_ret2
            exact HE.out _ (HJ.out.2.2.2.2.2) (fun L hL => by obtain ⟨p, x, _, _, _, _, _, _, _, h1⟩ := must_node HJ.out.2.2.2.2.1 HJ.out.2.2.2.1 HK.out hL; exact HZ.out (H3.out.2.2.symm.trans h1))
          have yer3 : er3 = 0 := by omega
          clear zer3
          subst yer3
          by_cases ly : (256 : Int) < (y : Int)
          · have ly' : ¬ (y : Int) ≤ 256 := by omega
            go_wp2
            go_ret2
            exact HE.out _ (HJ.out.2.2.2.2.2) (fun L hL => by obtain ⟨p, x, _, _, _, _, _, hxb, h1, _⟩ := must_node HJ.out.2.2.2.2.1 HJ.out.2.2.2.1 HK.out hL; have h2 := H3.out.1; omega)
          have ly' : (y : Int) ≤ 256 := by omega
          have hst : Rdg b nx3 (((dig a0 ++ encT (ps.map Pc.pl)) ++ dig ep ++ dig many) ++ encN (ns ++ [(y : Int)])) := by
            have := HJ.out.2.2.2.1.step H3.out.2.2
            rw [H3.out.1, H3.out.2.1] at this
            rw [encN_snoc, Int.toNat_natCast, ← List.append_assoc]
            exact this
          have hmu : Must2 b a0 N (ps.map Pc.pl) ep many (k + 1) (ns ++ [(y : Int)]) := fun L hL => ⟨(HJ.out.2.2.2.2.1 L hL).1, by
            obtain ⟨p, x, hp, h0, hm, hns, hx, hxb, h1, _⟩ := must_node HJ.out.2.2.2.2.1 HJ.out.2.2.2.1 HK.out hL
            have h2 := H3.out.1
            refine ⟨p, hp, h0, hm, ?_⟩
            rw [take_snoc hx, hns]
            congr 2
            omega⟩
          have HS3 := Lib.hid (And.intro hst hmu)
          clear hst hmu G3
          have hwy : IntKind.i64.wrap (y : Int) = (y : Int) := IntWalk.i64_in _ (by omega)
          have hk255 : k < 255 := by omega
          obtain ⟨wq, hwq⟩ : ∃ v, wr.alloc (.cells #[IV (y : Int)] 3) = v := ⟨_, rfl⟩
          obtain ⟨hbq, hxq⟩ := box_new hwq
          have hoq := HJ.out.2.1.below hbq (Nat.le_refl _)
          have hbxq := (hbq.block _ (lt_of_block HJ.out.1)).trans HJ.out.1
          have hrq : RdV wq (some ⟨wr.heap.size, 0, none⟩) 1 ([(y : Int)].map IV) := by rw [← hwq]; exact RdV.one wr (IV (y : Int)) 3 (0, 0)
          have hPq : PR wq w.heap.size A1 N c1 ((X.map (·.block)).toList ++ [bx]) ps := by rw [← hwq]; exact HJ.out.2.2.1.alloc _
          have hBq := HJ.out.2.2.2.2.2.trans (hbq.mono HJ.out.2.2.2.2.2.size)
          obtain ⟨bq, hbqs⟩ : ∃ v, wr.heap.size = v := ⟨_, rfl⟩
          rw [hbqs] at hrq
          have HV := Lib.hid (And.intro hoq (And.intro hrq (And.intro hbxq (And.intro hPq hBq))))
          clear hoq hrq hbxq hPq hBq hbq hxq
          go_wp2_with (at_builtin; refine wpList_appV _ rfl (.tmp 87) (.tmp 90) _ rfl w.heap.size 3 (.int .i64 0) 8 Try.underlying28 info3 rfl rfl HV.out.1 rfl HV.out.2.1 (ivs_one _) (by omega) (by omega) HV.out.2.2.2.2.size (k + 1) rfl ?_; intro A' c' w7 ho hg hat; have hb7 : But (X.map (·.block)).toList wq w7 := (But.refl _ _).grown hg (by simp); have hx7 := hb7.cells HV.out.2.2.1 (fun hm => by simp only [Option.mem_toList] at hm; obtain ⟨cur, hc⟩ := HV.out.1.typ hm; exact ne_of_type hc HV.out.2.2.1 (by decide) rfl); have q7 := two30 hx7; have q70 := q7.1.1; have q71 := q7.1.2; have f70 := q7.2.1; have f71 := q7.2.2; clear q7)
          go_roundw
          case rel =>
            obtain ⟨v1, v2, v3, v4, v5⟩ := HV.out
            have hb8 : But [bx] w7 (w7.setCell ⟨bx, 1, none⟩ (.slice A' (k + 1) c')) := (But.refl _ _).setCell (by simp) _
            have hb78 : But ((X.map (·.block)).toList ++ [bx]) wq (w7.setCell ⟨bx, 1, none⟩ (.slice A' (k + 1) c')) := (hb7.mono (fun q hq => List.mem_append_left _ hq)).trans (hb8.mono (fun q hq => List.mem_append_right _ hq))
            refine ⟨k + 1, nx3, by have := HK.out; omega, by go_num, rfl, Lib.hid ⟨A', c', ns ++ [(y : Int)], heap_setCell_same w7 bx 1 _ 30 _ hx7, ?_, v4.grown hb78 ?_ ?_, HS3.out.1, HS3.out.2, ?_⟩⟩
            · rw [List.map_append]
              refine ho.but hb8 (fun j hj hm => ?_)
              simp at hm
              subst hm
              obtain ⟨cur, hc⟩ := ho.typ hj
              exact ne_of_type hc hx7 (by decide) rfl
            · intro j hj hm
              rcases List.mem_append.1 hm with hm | hm
              · obtain ⟨cur, hc⟩ := OwnK.typ v4.row hj
                obtain ⟨cur', hc'⟩ := v1.typ (by simpa using hm)
                exact ne_of_type hc hc' (by decide) rfl
              · simp at hm
                exact HD.out.2.2.2.1 j hj hm
            · intro j hj
              rcases List.mem_append.1 hj with hj | hj
              · rcases hat with e | e
                · left
                  rw [e] at hj
                  exact List.mem_append_left _ hj
                · right
                  rw [e] at hj
                  simp only [Option.toList_some, List.mem_singleton] at hj
                  exact Nat.le_of_eq hj.symm
              · left
                exact List.mem_append_right _ hj
            · refine v5.trans ⟨hb78.os, hb78.tape, hb78.output, hb78.size, fun q hq => ?_⟩
              refine hb78.block q (by have := v5.size; omega) (fun hm => ?_)
              rcases List.mem_append.1 hm with hm | hm
              · have := (v1.block q (by simpa using hm)).1
                omega
              · simp at hm
                have := HD.out.2.2.2.2
                omega
          case measure => have := HK.out; simp [Go.RowKit.intOf]; omega
        · obtain rfl : k = many := by omega
          clear hlt
          obtain ⟨wq, hwq⟩ : ∃ v, wr.alloc (.cells #[.int .i64 (ep : Int), .slice X k cX] 30) = v := ⟨_, rfl⟩
          obtain ⟨hbq, hxq⟩ := box_new hwq
          have hoq := HJ.out.2.1.below hbq (Nat.le_refl _)
          have hrq : RdV wq (some ⟨wr.heap.size, 0, none⟩) (1 * 2) (Pc.cells ⟨(ep : Int), X, k, cX, ns⟩) := by rw [← hwq]; exact RdV.new wr (Pc.cells ⟨(ep : Int), X, k, cX, ns⟩) 30 (0, 0)
          have hPq : PR wq w.heap.size A1 N c1 ((X.map (·.block)).toList ++ [bx]) ps := by rw [← hwq]; exact HJ.out.2.2.1.alloc _
          have hBq := HJ.out.2.2.2.2.2.trans (hbq.mono HJ.out.2.2.2.2.2.size)
          obtain ⟨bq, hbqs⟩ : ∃ v, wr.heap.size = v := ⟨_, rfl⟩
          rw [hbqs] at hrq
          have HV := Lib.hid (And.intro hoq (And.intro hrq (And.intro hPq hBq)))
          clear hoq hrq hPq hBq hbq hxq
          have hN1000 : N < 1000 := by have := HLT.out; omega
          go_wp2_with (at_builtin; refine wpList_appK _ rfl (.tmp 94) (.tmp 96) _ rfl w.heap.size 30 2 (.agg #[.int .i64 0, .slice none 0 0]) 32 Try.underlying24 info30 rfl (by omega) rfl HV.out.2.2.1.row rfl (m := 1) HV.out.2.1 (by omega) (by intro u hu; simp [Pc.cells] at hu; rcases hu with rfl | rfl <;> rfl) (by omega) (by omega) HV.out.2.2.2.size (N + 1) rfl ?_; intro A' c' w7 ho hg hat)
          go_roundw
          case rel =>
            obtain ⟨v1, v2, v4, v5⟩ := HV.out
            have hne : ∀ j, X.map (·.block) = some j → A1.map (·.block) ≠ some j := by
              intro j hj hm
              obtain ⟨cur, hc⟩ := OwnK.typ v4.row hm
              obtain ⟨cur', hc'⟩ := v1.typ hj
              exact ne_of_type hc hc' (by decide) rfl
            have hb7 : But (A1.map (·.block)).toList wq w7 := (But.refl _ _).grown hg (by simp)
            refine ⟨N + 1, N + 1, at2, A', c', by have := HLT.out; omega, by go_num, rfl, rfl, Lib.hid ⟨ps ++ [⟨(ep : Int), X, k, cX, ns⟩], rfl, v4.app hg hat ho ⟨v1.rd, by simp only; omega⟩ (fun _ j hj => hne j hj) (by simp), ?_, ?_, ?_⟩⟩
            · have := HJ.out.2.2.2.1
              have hl : ns.length = k := by have := v1.len; simpa using this
              rw [List.map_append, encT_app]
              simp only [List.map_cons, List.map_nil, Pc.pl, encT, List.flatMap_cons, List.flatMap_nil, List.append_nil, enc1, Int.toNat_natCast, hl]
              simp only [encT, List.append_assoc] at this
              exact this
            · intro L hL
              obtain ⟨⟨h1, h2⟩, p, hp, he, hm, hns⟩ := HJ.out.2.2.2.2.1 L hL
              refine ⟨h1, ?_⟩
              rw [take_snoc hp, List.map_append, h2]
              congr 1
              simp only [List.map_cons, List.map_nil, Pc.pl]
              rw [hns, ← hm, List.take_length, ← he]
            · refine v5.trans ⟨hb7.os, hb7.tape, hb7.output, hb7.size, fun q hq => ?_⟩
              refine hb7.block q (by have := v5.size; omega) (fun hm => ?_)
              have := (v4.row.block q (by simpa using hm)).1
              omega
          case measure => have := HLT.out; simp [Go.RowKit.intOf]; omega
    · obtain rfl : N = a0 := by omega
      clear hlt
      have hlM : (ps.map Pc.pl).length = N := by rw [List.length_map]; exact HQ.out.1.len
      have hEn : encL (ps.map Pc.pl) = b.take at_ := by
        unfold encL
        rw [hlM, HQ.out.2.1.2]
      have hsz : (encL (ps.map Pc.pl)).length ≤ 1000000 := by
        rw [hEn, List.length_take]
        have := H.out.2.1
        omega
      obtain ⟨E, hE⟩ : ∃ E, encL (ps.map Pc.pl) = E := ⟨_, rfl⟩
      have HM := Lib.hid (And.intro hlM (And.intro hsz hE))
      clear hlM hEn hsz hE
      by_cases hA : AllP (ps.map Pc.pl)
      · have HA := Lib.hid hA
        clear hA
        go_wp2_with fail
        refine (rbytes_yes wr HQ.out.1.pl (by omega) (decide_eq_true HA.out) HM.out.2.1).mono ?_
        rintro e w2 ⟨Ab, cb, rfl, hb1, hb2⟩
        have hb3 := HQ.out.2.2.2.trans (hb2.mono HQ.out.2.2.2.size)
        simp only at hb1 ⊢
        rw [HM.out.2.2] at hb1 ⊢
        have k1 := conv_str (P := Try.prog) Try.underlying34 Try.underlying5 Try.underlying9 hb1 cb
        have k2 := conv_str (P := Try.prog) Try.underlying34 Try.underlying5 Try.underlying9 (H.out.1.below hb3 (Nat.le_refl _)) c
        obtain ⟨m, hm⟩ : ∃ m, E.length = m := ⟨_, rfl⟩
        rw [hm] at k1 ⊢
        have HF := Lib.hid (And.intro hb3 (HQ.out.1.pl.below hb2 (Nat.le_refl _)))
        clear hb1 hb2 hb3 hm
        by_cases hEb : E = b
        · have HB := Lib.hid (HM.out.2.2.trans hEb)
          subst hEb
          go_wp2
          go_ret2
          rw [readP_iff.2 ⟨HA.out, HB.out⟩]
          exact ⟨A1, N, c1, ps, rfl, HF.out.2, rfl, ha1000, HF.out.1⟩
        · have HB := Lib.hid hEb
          have hne : (E == b) = false := by simpa using hEb
          have hne' : (E != b) = true := by simpa using hEb
          clear hEb
          go_wp2
          go_ret2
          refine HE.out _ HF.out.1 (fun L hL => ?_)
          obtain ⟨h1, h2⟩ := HQ.out.2.2.1 L hL
          rw [h1, List.take_length] at h2
          have h3 := hL.2
          rw [← h2, HM.out.2.2] at h3
          exact HB.out h3
      · have HA := Lib.hid hA
        clear hA
        go_wp2_with fail
        refine (rbytes_no wr HQ.out.1.pl (by omega) (decide_eq_false HA.out)).mono ?_
        rintro e w2 ⟨Ab, cb, rfl, hb1, hb2⟩
        have HF := Lib.hid (HQ.out.2.2.2.trans (hb2.mono HQ.out.2.2.2.size))
        clear hb1 hb2
        go_wp2
        go_ret2
        refine HE.out _ HF.out (fun L hL => ?_)
        obtain ⟨h1, h2⟩ := HQ.out.2.2.1 L hL
        rw [h1, List.take_length] at h2
        exact HA.out (h2 ▸ hL.1)

end
end Go.Proofs.Ytbilbfjmfaignaa
