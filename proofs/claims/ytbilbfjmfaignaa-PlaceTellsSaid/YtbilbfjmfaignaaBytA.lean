/- put, Bytes. -/
import Derived.Test.YtbilbfjmfaignaaLawSp
import Derived.Test.YtbilbfjmfaignaaByt
import Derived.Test.YtbilbfjmfaignaaEncP
namespace Go.Proofs.Ytbilbfjmfaignaa
open Go.RowKit Go.Coop
set_option maxRecDepth 100000
section
variable (w : World)
theorem put_is {B : Nat} {A : Option Addr} {n c : Nat} {l : List UInt8} (h : Own w B 5 A n c l) (hB : B ≤ w.heap.size) (hn : n ≤ 1000000000) (x : Nat) (hx : x ≤ 9223372036854775807) : Calls Try.prog 40 #[.slice A n c, .int .i64 (x : Int)] w fun e w' => ∃ A' c', e = .returned (.slice A' (n + (dig x).length) c') ∧ Own w' B 5 A' (n + (dig x).length) c' (l ++ dig x) ∧ But (A.map (·.block)).toList w w' := by
  have hd := dig_length x
  have hw1 : IntKind.u64.wrap (x : Int) = (x : Int) := by rw [IntKind.wrap_u64]; omega
  have H := Lib.hid (And.intro h hB)
  clear h hB
  go_enter Try.func40, Try.ntmps40
  go_wp2_with fail
  refine (uint_nil x _ (by omega)).mono ?_
  rintro e w1 ⟨A1, c1, rfl, ho1, hb1⟩
  obtain ⟨D, hD⟩ : ∃ D, dig x = D := ⟨_, rfl⟩
  obtain ⟨q, hq⟩ : ∃ q, D.length = q := ⟨_, rfl⟩
  rw [hD, hq] at ho1 hd ⊢
  have HDq := Lib.hid (And.intro hD hq)
  have H1 := Lib.hid (And.intro (H.out.1.below hb1 (Nat.le_refl _)) (And.intro ho1.rd (And.intro (But.of_below (gs := (A.map (·.block)).toList) hb1) (Nat.le_trans H.out.2 hb1.size))))
  clear ho1 hb1 hD hq
  go_wp2_with (at_builtin; refine wpList_app _ rfl (.tmp 5) (.tmp 8) _ rfl B 5 Try.underlying34 info5 rfl H1.out.1 rfl H1.out.2.1 (by omega) H1.out.2.2.2 (n + q) rfl ?_; intro A' c' w' ho hg hat)
  go_ret
  have e1 := HDq.out.1
  have e2 := HDq.out.2
  subst e2
  subst e1
  exact ⟨A', c', rfl, ho, (H1.out.2.2.1).grown hg (by simp)⟩
theorem own_typ {w : World} {B E n c : Nat} {A : Option Addr} {l : List UInt8} (h : Own w B E A n c l) {j : Nat} (hj : A.map (·.block) = some j) : ∃ cur, w.heap[j]? = some (.cells cur E (0, 0)) := by
  rcases h.row.2 with ⟨hv, _⟩ | ⟨g, cap, cur, hv, hbg, hg, r⟩
  · injection hv with hA h2 h3
    subst hA
    cases hj
  · injection hv with hA h2 h3
    subst hA
    injection hj with hj
    subst hj
    exact ⟨cur, hg⟩
theorem put_below {w w' : World} {B n c : Nat} {A : Option Addr} {l : List UInt8} (h : Own w B 5 A n c l) (hB : B ≤ w.heap.size) (hb : But (A.map (·.block)).toList w w') : Below B w w' :=
  hb.below hB (fun g hg => by simp only [Option.mem_toList] at hg; exact (h.block g hg).1)
theorem put_box {w w' : World} {B n c bx : Nat} {A : Option Addr} {l : List UInt8} {cs : Array Value} (h : Own w B 5 A n c l) (hb : But (A.map (·.block)).toList w w') (hx : w.heap[bx]? = some (.cells cs 30 (0, 0))) : w'.heap[bx]? = some (.cells cs 30 (0, 0)) :=
  hb.cells hx (fun hm => by
    simp only [Option.mem_toList] at hm
    obtain ⟨cur, hc⟩ := own_typ h hm
    exact ne_of_type hc hx (by decide) rfl)
/-- what Bytes tells -/
def Wrote (w : World) (r : List UInt8 × Int) (e : Ending) (w' : World) : Prop := ∃ A c, e = .returned (.tuple #[.slice A r.1.length c, .int .i64 r.2]) ∧ Own w' w.heap.size 5 A r.1.length c r.1 ∧ r.1.length ≤ 10000000 ∧ Below w.heap.size w w'
theorem bytes_no {A : Option Addr} {n ca : Nat} {ps : List Pc} (h : PL w A n ps) (hn : n ≤ 1000000) (hA : allB (ps.map Pc.pl) = false) : Calls Try.prog 13 #[.slice A n ca] w (Wrote w ([], 100)) := by
  go_enter Try.func13, Try.ntmps13
  go_wp2_with fail
  refine (rightAll_is _ h hn hA).mono ?_
  rintro e w1 ⟨rfl, hb⟩
  go_wp2
  go_ret2
  exact ⟨none, 0, rfl, Own.nil _ _ _, by simp, hb⟩
set_option maxHeartbeats 2000000 in
theorem bytes_yes {A : Option Addr} {n ca : Nat} {ps : List Pc} (h : PL w A n ps) (hn : n ≤ 1000000) (hA : allB (ps.map Pc.pl) = true) : Calls Try.prog 13 #[.slice A n ca] w (Wrote w (encL (ps.map Pc.pl), 0)) := by
  have hall : AllP (ps.map Pc.pl) := of_decide_eq_true hA
  have hn1000 : n ≤ 1000 := by
    have h1 := hall.1.2
    have h2 := h.len
    simp at h1
    omega
  have H := Lib.hid (And.intro h (And.intro hall hn1000))
  have HA := Lib.hid hA
  clear hall h hA
  go_enter Try.func13, Try.ntmps13
  go_wp2_with fail
  refine (rightAll_is _ H.out.1 hn HA.out).mono ?_
  rintro e w1 ⟨rfl, hb1⟩
  have HB1 := Lib.hid hb1
  clear hb1
  go_wp2_with fail
  refine (put_is w1 (B := w.heap.size) (Own.nil _ _ _) HB1.out.size (by omega) n (by omega)).mono ?_
  rintro e w2 ⟨A2, c2, rfl, ho2, hbt2⟩
  have hb2 := put_below (B := w.heap.size) (Own.nil w1 _ _) HB1.out.size hbt2
  have hdn := dig_length n
  obtain ⟨n2, hn2⟩ : ∃ q, 0 + (dig n).length = q := ⟨_, rfl⟩
  rw [hn2] at ho2 ⊢
  rw [List.nil_append] at ho2
  have H2 := Lib.hid (And.intro ho2 (HB1.out.trans hb2))
  have hn20 : n2 ≤ 10 := by omega
  clear ho2 hb2 hn2 hbt2
  go_wp2
  go_loopw [4, 6, 8, 17, 33] (fun s4 _ _ s17 _ wr => ∃ (k N : Nat) (A' : Option Addr) (c' : Nat), k ≤ n ∧ s17 = .int .i64 k ∧ s4 = .slice A' N c' ∧ N ≤ 10 + 2600 * k ∧ Hid (Own wr w.heap.size 5 A' N c' (dig n ++ encT ((ps.take k).map Pc.pl)) ∧ Below w.heap.size w wr)) (fun _ _ _ s17 _ _ => n - (Go.RowKit.intOf s17).toNat)
  case atStart => exact ⟨0, n2, A2, c2, by omega, rfl, rfl, by omega, (⟨by simpa [encT] using H2.out.1, H2.out.2⟩ : Own w2 w.heap.size 5 A2 n2 c2 (dig n ++ encT ((ps.take 0).map Pc.pl)) ∧ _)⟩
  case round =>
    clear H2 hn20
    obtain ⟨k, N, A', c', hk, rfl, rfl, hN, HR⟩ := hrel
    have hn1000 := H.out.2.2
    by_cases hlt : k < n
    · obtain ⟨p, hp⟩ : ∃ p, ps[k]? = some p := ⟨_, List.getElem?_eq_getElem (by rw [H.out.1.len]; exact hlt)⟩
      obtain ⟨ad, hok, rfl, hadl, hload, d0, d1⟩ := (H.out.1.below HR.out.2 (Nat.le_refl _)).get' hp
      have hright := H.out.2.1.2 p.pl (List.mem_map.2 ⟨p, mem_at hp, rfl⟩)
      obtain ⟨_, hre, hrl, hrn, _⟩ := hright
      simp only [Pc.pl] at hre hrl hrn
      have hi1 : (0 : Int) ≤ (k : Int) := by omega
      have hi2 : (k : Int) < (n : Int) := by omega
      have hw1 : IntKind.i64.wrap ((k : Int) + 1) = (k : Int) + 1 := IntWalk.i64_in _ (by omega)
      obtain ⟨ep, hep⟩ : ∃ ep : Nat, p.e = (ep : Int) := ⟨p.e.toNat, by omega⟩
      have hpl := hok.len
      obtain ⟨PA, hPA⟩ : ∃ X, p.A = X := ⟨_, rfl⟩
      obtain ⟨wa, hwa⟩ : ∃ v, wr.alloc (.cells #[.int .i64 (ep : Int), .slice PA p.n p.c] 30) = v := ⟨_, rfl⟩
      obtain ⟨hba, hxa⟩ := box_new hwa
      obtain ⟨bx, hbx⟩ : ∃ b, wr.heap.size = b := ⟨_, rfl⟩
      rw [hbx] at hxa
      obtain ⟨⟨m0, m1⟩, _⟩ := two30 hxa
      have hHa := HR.out.2.trans (hba.mono HR.out.2.size)
      have HX := Lib.hid (And.intro hlt (And.intro (HR.out.1.below hba (Nat.le_refl _)) (And.intro hHa (And.intro (hok.below hba (Nat.le_refl _)) (And.intro hxa (And.intro (show w.heap.size ≤ bx by rw [← hbx]; exact HR.out.2.size) (And.intro hp (And.intro hep (And.intro hrn hbx)))))))))
      have hep2 : ep ≤ 1099511627776 := by omega
      have hpn : p.n ≤ 255 := by omega
      clear hlt hba hxa hHa hok hadl hre hrl hrn hp
      go_wp2_with fail
      (try rw [hwa]); (try rw [HX.out.2.2.2.2.2.2.2.2.2])
      refine (put_is wa HX.out.2.1 HX.out.2.2.1.size (by omega) ep (by omega)).mono ?_
      rintro e wb ⟨Ab, cb, rfl, hob, hbb⟩
      have hdb := dig_length ep
      obtain ⟨Nb, hNb⟩ : ∃ q, N + (dig ep).length = q := ⟨_, rfl⟩
      rw [hNb] at hob ⊢
      have hNb2 : Nb ≤ N + 10 := by omega
      have hxb := put_box HX.out.2.1 hbb HX.out.2.2.2.2.1
      have hBb := put_below HX.out.2.1 HX.out.2.2.1.size hbb
      have hEb := Lib.hid (HX.out.2.2.1.trans hBb)
      obtain ⟨⟨n0, n1⟩, _⟩ := two30 hxb
      have HO := Lib.hid (And.intro hob (And.intro hxb hNb))
      clear hob hxb hbb hBb hNb m0 m1 hload d0 d1 hwa
      go_wp2_with fail
      refine (put_is wb HO.out.1 hEb.out.size (by omega) p.n (by omega)).mono ?_
      rintro e wc ⟨Ac, cc, rfl, hoc, hbc⟩
      have hdc := dig_length p.n
      obtain ⟨Nc, hNc⟩ : ∃ q, Nb + (dig p.n).length = q := ⟨_, rfl⟩
      rw [hNc] at hoc ⊢
      have hNc2 : Nc ≤ N + 20 := by omega
      have hxc := put_box HO.out.1 hbc HO.out.2.1
      have hBc := put_below HO.out.1 hEb.out.size hbc
      have hEc := Lib.hid (hEb.out.trans hBc)
      clear n0 n1
      obtain ⟨⟨n0, n1⟩, _⟩ := two30 hxc
      have HOc := Lib.hid (And.intro hoc hxc)
      clear hoc hxc hbc hBc HO hNc hdc hdb
      go_wp2
      go_loopw [4, 8, 33] (fun s4 _ s33 wr2 => ∃ (j N2 : Nat) (A2' : Option Addr) (c2' : Nat), j ≤ p.n ∧ s33 = .int .i64 j ∧ s4 = .slice A2' N2 c2' ∧ N2 ≤ N + 20 + 10 * j ∧ Hid (Own wr2 w.heap.size 5 A2' N2 c2' (((dig n ++ encT ((ps.take k).map Pc.pl)) ++ dig ep ++ dig p.n) ++ encN (p.l.take j)) ∧ Below w.heap.size w wr2)) (fun _ _ s33 _ => p.n - (Go.RowKit.intOf s33).toNat)
      case atStart => exact ⟨0, Nc, Ac, cc, by omega, rfl, rfl, by omega, (⟨by simpa [encN] using HOc.out.1, hEc.out⟩ : Own wc w.heap.size 5 Ac Nc cc (((dig n ++ encT ((ps.take k).map Pc.pl)) ++ dig ep ++ dig p.n) ++ encN (p.l.take 0)) ∧ _)⟩
      case round =>
        clear n0 n1
        obtain ⟨j, N2, A2', c2', hj, rfl, rfl, hN2, HR2⟩ := hrel
        by_cases hlt : j < p.n
        · have hok2 := (H.out.1.below HR2.out.2 (Nat.le_refl _)).get' HX.out.2.2.2.2.2.2.1
          obtain ⟨_, hok3, e9, _⟩ := hok2
          clear e9
          obtain ⟨pd, hpA, hpl2, hpc⟩ := hok3.rd.cells (by omega)
          have hln := hok3.len
          obtain ⟨v, hv⟩ : ∃ v, p.l[j]? = some v := ⟨_, List.getElem?_eq_getElem (by omega)⟩
          have hvv := hpc j (IV v) (by rw [List.getElem?_map, hv]; rfl)
          have hvb := HX.out.2.2.2.2.2.2.2.2.1 v (mem_at hv)
          obtain ⟨u, rfl⟩ : ∃ u : Nat, v = (u : Int) := ⟨v.toNat, by omega⟩
          have hj1 : (0 : Int) ≤ (j : Int) := by omega
          have hj2 : (j : Int) < (p.n : Int) := by omega
          have hw2 : IntKind.i64.wrap ((j : Int) + 1) = (j : Int) + 1 := IntWalk.i64_in _ (by omega)
          have HU := Lib.hid (And.intro hlt hv)
          have hu : u ≤ 255 := by omega
          clear hlt hv hok3 hpl2 hpc hln hvb
          rw [hPA] at hpA
          subst hpA
          go_wp2_with fail
          refine (put_is _ HR2.out.1 HR2.out.2.size (by omega) u (by omega)).mono ?_
          rintro e wd ⟨Ad, cd, rfl, hod, hbd⟩
          have hdd := dig_length u
          obtain ⟨Nd, hNd⟩ : ∃ q, N2 + (dig u).length = q := ⟨_, rfl⟩
          rw [hNd] at hod ⊢
          have hBd := put_below HR2.out.1 HR2.out.2.size hbd
          have HOd := Lib.hid (And.intro hod (And.intro (HR2.out.2.trans hBd) (show Nd ≤ N2 + 10 by omega)))
          clear hod hbd hBd hNd hdd hvv
          go_wp2
          go_roundw
          case rel =>
            refine ⟨j + 1, Nd, Ad, cd, by have := HU.out.1; omega, by go_num, rfl, by have := HOd.out.2.2; omega, (⟨?_, HOd.out.2.1⟩ : Own wd w.heap.size 5 Ad Nd cd (((dig n ++ encT ((ps.take k).map Pc.pl)) ++ dig ep ++ dig p.n) ++ encN (p.l.take (j + 1))) ∧ _)⟩
            have := HOd.out.1
            rw [take_snoc HU.out.2, encN_snoc, Int.toNat_natCast, ← List.append_assoc]
            exact this
          case measure => have := HU.out.1; simp [Go.RowKit.intOf]; omega
        · obtain rfl : j = p.n := by omega
          clear hlt
          go_wp2
          go_roundw
          case rel =>
            have hln : p.l.length = p.n := HX.out.2.2.2.1.len
            refine ⟨k + 1, N2, A2', c2', by have := HX.out.1; omega, by go_num, rfl, by omega, (⟨?_, HR2.out.2⟩ : Own _ w.heap.size 5 A2' N2 c2' (dig n ++ encT ((ps.take (k + 1)).map Pc.pl)) ∧ _)⟩
            have := HR2.out.1
            rw [show p.l.take p.n = p.l from List.take_of_length_le (by omega)] at this
            have e : dig n ++ encT ((ps.take (k + 1)).map Pc.pl) = ((dig n ++ encT ((ps.take k).map Pc.pl)) ++ dig ep ++ dig p.n) ++ encN p.l := by
              rw [take_snoc HX.out.2.2.2.2.2.2.1, List.map_append]
              simp only [List.map_cons, List.map_nil]
              rw [encT_snoc]
              unfold enc1
              simp only [Pc.pl]
              rw [HX.out.2.2.2.2.2.2.2.1, Int.toNat_natCast, hln]
              simp only [List.append_assoc]
            rw [e]
            exact this
          case measure => have := HX.out.1; simp [Go.RowKit.intOf]; omega
    · obtain rfl : k = n := by omega
      clear hlt
      go_wp2
      go_ret2
      have hln := H.out.1.len
      have e : dig k ++ encT ((ps.take k).map Pc.pl) = encL (ps.map Pc.pl) := by
        rw [List.take_of_length_le (by omega)]
        unfold encL
        rw [List.length_map, hln]
      have hO := HR.out.1
      rw [e] at hO
      have hNl := hO.len
      refine ⟨A', c', by simp only; rw [hNl]; rfl, by simp only; rw [hNl]; exact hO, ?_, HR.out.2⟩
      simp only
      rw [hNl]
      omega
theorem bytes_is {A : Option Addr} {n ca : Nat} {ps : List Pc} (h : PL w A n ps) (hn : n ≤ 1000000) : Calls Try.prog 13 #[.slice A n ca] w (Wrote w (bytesP (ps.map Pc.pl))) := by
  unfold bytesP
  by_cases hA : AllP (ps.map Pc.pl)
  · rw [if_pos hA]
    exact bytes_yes w h hn (decide_eq_true hA)
  · rw [if_neg hA]
    exact bytes_no w h hn (decide_eq_false hA)
end
end Go.Proofs.Ytbilbfjmfaignaa
