/- The reference's Bytes. -/
import Derived.Test.YtbilbfjmfaignaaTelC
import Derived.Test.YtbilbfjmfaignaaRGet
import Derived.Test.YtbilbfjmfaignaaEncP
namespace Go.Proofs.Ytbilbfjmfaignaa
open Go.RowKit Go.Coop
set_option maxRecDepth 100000
theorem encT_app (L M : List Pl) : encT (L ++ M) = encT L ++ encT M := by simp [encT]
theorem encN_app (L M : List Int) : encN (L ++ M) = encN L ++ encN M := by simp [encN]
/-- what was written so far is no longer than all -/
theorem enc_le {L : List Pl} {k : Nat} {p : Pl} (h : L[k]? = some p) (j : Nat) : (dig L.length ++ encT (L.take k)).length + ((dig p.e.toNat).length + ((dig p.l.length).length + (encN (p.l.take j)).length)) ≤ (encL L).length := by
  have e : L = L.take k ++ (p :: L.drop (k + 1)) := by
    have hlt := (List.getElem?_eq_some_iff.1 h).1
    have hd : L.drop k = p :: L.drop (k + 1) := by
      rw [List.drop_eq_getElem_cons hlt]
      congr 1
      exact (List.getElem?_eq_some_iff.1 h).2
    rw [← hd, List.take_append_drop]
  have e2 : encT L = encT (L.take k) ++ (enc1 p ++ encT (L.drop (k + 1))) := by
    conv => lhs; rw [e]
    rw [encT_app]
    simp [encT]
  have e3 : encN p.l = encN (p.l.take j) ++ encN (p.l.drop j) := by
    rw [← encN_app, List.take_append_drop]
  unfold encL
  rw [e2]
  unfold enc1
  rw [e3]
  simp only [List.length_append]
  omega
theorem enc_le0 (L : List Pl) (k : Nat) : (dig L.length ++ encT (L.take k)).length ≤ (encL L).length := by
  have : encT L = encT (L.take k) ++ encT (L.drop k) := by rw [← encT_app, List.take_append_drop]
  unfold encL
  rw [this]
  simp only [List.length_append]
  omega
/-- what the reference's Bytes tells -/
def RWrote (w : World) (r : List UInt8 × Int) (e : Ending) (w' : World) : Prop := ∃ A c, e = .returned (.tuple #[.slice A r.1.length c, .int .i64 r.2]) ∧ Rd w' A r.1.length r.1 ∧ Below w.heap.size w w'
section
variable (w : World)
theorem rbytes_no {A : Option Addr} {n ca : Nat} {ps : List Pc} (h : PL w A n ps) (hn : n ≤ 1000000) (hA : allB (ps.map Pc.pl) = false) : Calls Try.prog 23 #[.slice A n ca] w (RWrote w ([], 100)) := by
  go_enter Try.func23, Try.ntmps23
  go_wp2_with fail
  refine (rall_is _ h hn hA).mono ?_
  rintro e w1 ⟨rfl, hb⟩
  go_wp2
  go_ret2
  exact ⟨none, 0, rfl, (Own.nil w1 w1.heap.size 5).rd, hb⟩
set_option maxHeartbeats 2000000 in
theorem rbytes_yes {A : Option Addr} {n ca : Nat} {ps : List Pc} (h : PL w A n ps) (hn : n ≤ 1000000) (hA : allB (ps.map Pc.pl) = true) (hsz : (encL (ps.map Pc.pl)).length ≤ 1000000) : Calls Try.prog 23 #[.slice A n ca] w (RWrote w (encL (ps.map Pc.pl), 0)) := by
  have hall : AllP (ps.map Pc.pl) := of_decide_eq_true hA
  have hn1000 : n ≤ 1000 := by
    have h1 := hall.1.2
    have h2 := h.len
    simp at h1
    omega
  have hlm : (ps.map Pc.pl).length = n := by rw [List.length_map]; exact h.len
  have H := Lib.hid (And.intro h (And.intro hall (And.intro hn1000 (And.intro hsz hlm))))
  have HA := Lib.hid hA
  clear hall h hA hsz hlm
  have hwn : IntKind.u64.wrap (n : Int) = (n : Int) := by rw [IntKind.wrap_u64]; omega
  go_enter Try.func23, Try.ntmps23
  go_wp2_with fail
  refine (rall_is _ H.out.1 hn HA.out).mono ?_
  rintro e w1 ⟨rfl, hb1⟩
  have HB1 := Lib.hid hb1
  clear hb1
  go_wp2_with fail
  refine (varint_nat n w1 (by omega)).mono ?_
  rintro e w2 ⟨A2, c2, rfl, ho2, hbt2⟩
  have hdn := dig_length n
  obtain ⟨n2, hn2⟩ : ∃ q, (dig n).length = q := ⟨_, rfl⟩
  rw [hn2] at ho2 ⊢
  have H2 := Lib.hid (And.intro ho2.rd (HB1.out.trans (hbt2.mono HB1.out.size)))
  clear ho2 hbt2 hn2 hwn
  go_wp2
  go_loopw [4, 5, 6] (fun s4 s5 _ wr => ∃ (k N : Nat) (A' : Option Addr) (c' : Nat), k ≤ n ∧ s5 = .int .i64 k ∧ s4 = .slice A' N c' ∧ Hid (Rd wr A' N (dig n ++ encT ((ps.take k).map Pc.pl)) ∧ Below w.heap.size w wr)) (fun _ s5 _ _ => n - (Go.RowKit.intOf s5).toNat)
  case atStart => exact ⟨0, n2, A2, c2, by omega, rfl, rfl, (⟨by simpa [encT] using H2.out.1, H2.out.2⟩ : Rd w2 A2 n2 (dig n ++ encT ((ps.take 0).map Pc.pl)) ∧ _)⟩
  case round =>
    clear H2 hdn
    obtain ⟨k, N, A', c', hk, rfl, rfl, HR⟩ := hrel
    have hn1000 := H.out.2.2.1
    by_cases hlt : k < n
    · obtain ⟨p, hp⟩ : ∃ p, ps[k]? = some p := ⟨_, List.getElem?_eq_getElem (by rw [H.out.1.len]; exact hlt)⟩
      obtain ⟨ad, hok, rfl, hadl, hload, d0, d1⟩ := (H.out.1.below HR.out.2 (Nat.le_refl _)).get' hp
      have hright := H.out.2.1.2 p.pl (List.mem_map.2 ⟨p, mem_at hp, rfl⟩)
      obtain ⟨_, hre, hrl, hrn, _⟩ := hright
      simp only [Pc.pl] at hre hrl hrn
      have hi1 : (0 : Int) ≤ (k : Int) := by omega
      have hi2 : (k : Int) < (n : Int) := by omega
      have hw1 : IntKind.i64.wrap ((k : Int) + 1) = (k : Int) + 1 := IntWalk.i64_in _ (by omega)
      obtain ⟨ep, hep⟩ : ∃ ep : Nat, p.e = (ep : Int) := ⟨p.e.toNat, by omega⟩
      have hpl := hok.len
      have hpn : p.n ≤ 255 := by omega
      have hall : ∀ j, (dig n ++ encT ((ps.take k).map Pc.pl)).length + ((dig ep).length + ((dig p.n).length + (encN (p.l.take j)).length)) ≤ 1000000 := by
        intro j
        have hp' : (ps.map Pc.pl)[k]? = some p.pl := by rw [List.getElem?_map, hp]; rfl
        have := enc_le hp' j
        rw [H.out.2.2.2.2, ← List.map_take] at this
        simp only [Pc.pl] at this
        rw [hep, Int.toNat_natCast, hpl] at this
        exact Nat.le_trans this H.out.2.2.2.1
      have hN := HR.out.1.len
      have hN0 : N ≤ 1000000 := by have := hall 0; omega
      have hNa : N + (dig ep).length ≤ 1000000 := by have := hall 0; omega
      have hwe : IntKind.u64.wrap (ep : Int) = (ep : Int) := by rw [IntKind.wrap_u64]; omega
      have hwp : IntKind.u64.wrap (p.n : Int) = (p.n : Int) := by rw [IntKind.wrap_u64]; omega
      rw [hep] at d0
      have HX := Lib.hid (And.intro hlt (And.intro hok (And.intro hp (And.intro hep (And.intro hrn (And.intro hall hN))))))
      have hep2 : ep ≤ 1099511627776 := by omega
      clear hlt hok hadl hre hrl hrn hp hall hload hN
      go_wp2_with fail
      refine (ruint_any _ _ _ _ ep wr HR.out.1 (by omega) (by omega)).mono ?_
      rintro e wb ⟨Ab, cb, rfl, hob, hbb⟩
      obtain ⟨Nb, hNb⟩ : ∃ q, N + (dig ep).length = q := ⟨_, rfl⟩
      rw [hNb] at hob hNa ⊢
      have HO := Lib.hid (And.intro hob (And.intro (HR.out.2.trans (hbb.mono HR.out.2.size)) hNb))
      obtain ⟨_, _, e9, _, _, _, d1b⟩ := (H.out.1.below HO.out.2.1 (Nat.le_refl _)).get' HX.out.2.2.1
      injection e9 with e9
      subst e9
      clear hob hbb hNb d0 d1
      go_wp2_with fail
      refine (ruint_any _ _ _ _ p.n wb HO.out.1 (by omega) (by omega)).mono ?_
      rintro e wc ⟨Ac, cc, rfl, hoc, hbc⟩
      obtain ⟨Nc, hNc⟩ : ∃ q, Nb + (dig p.n).length = q := ⟨_, rfl⟩
      rw [hNc] at hoc ⊢
      have HOc := Lib.hid (And.intro hoc (And.intro (HO.out.2.1.trans (hbc.mono HO.out.2.1.size)) hNc))
      clear hoc hbc hNc d1b
      go_wp2
      go_loopw [4, 6] (fun s4 s6 wr2 => ∃ (j N2 : Nat) (A2' : Option Addr) (c2' : Nat), j ≤ p.n ∧ s6 = .int .i64 j ∧ s4 = .slice A2' N2 c2' ∧ Hid (Rd wr2 A2' N2 (((dig n ++ encT ((ps.take k).map Pc.pl)) ++ dig ep ++ dig p.n) ++ encN (p.l.take j)) ∧ Below w.heap.size w wr2)) (fun _ s6 _ => p.n - (Go.RowKit.intOf s6).toNat)
      case atStart => exact ⟨0, Nc, Ac, cc, by omega, rfl, rfl, (⟨by simpa [encN] using HOc.out.1, HOc.out.2.1⟩ : Rd wc Ac Nc (((dig n ++ encT ((ps.take k).map Pc.pl)) ++ dig ep ++ dig p.n) ++ encN (p.l.take 0)) ∧ _)⟩
      case round =>
        obtain ⟨j, N2, A2', c2', hj, rfl, rfl, HR2⟩ := hrel
        obtain ⟨_, hok3, e9, _, _, _, d1c⟩ := (H.out.1.below HR2.out.2 (Nat.le_refl _)).get' HX.out.2.2.1
        injection e9 with e9
        subst e9
        by_cases hlt : j < p.n
        · obtain ⟨pd, hpA, hpl2, hpc⟩ := hok3.rd.cells (by omega)
          have hln := hok3.len
          obtain ⟨v, hv⟩ : ∃ v, p.l[j]? = some v := ⟨_, List.getElem?_eq_getElem (by omega)⟩
          have hvv := hpc j (IV v) (by rw [List.getElem?_map, hv]; rfl)
          have hvb := HX.out.2.2.2.2.1 v (mem_at hv)
          obtain ⟨u, rfl⟩ : ∃ u : Nat, v = (u : Int) := ⟨v.toNat, by omega⟩
          have hj1 : (0 : Int) ≤ (j : Int) := by omega
          have hj2 : (j : Int) < (p.n : Int) := by omega
          have hw2 : IntKind.i64.wrap ((j : Int) + 1) = (j : Int) + 1 := IntWalk.i64_in _ (by omega)
          have hu : u ≤ 255 := by omega
          have hwu : IntKind.u64.wrap (u : Int) = (u : Int) := by rw [IntKind.wrap_u64]; omega
          have hN2 : N2 ≤ 1000000 := by
            have h1 := HR2.out.1.len
            have h2 := HX.out.2.2.2.2.2.1 j
            simp only [List.length_append] at h1 h2
            omega
          have HU := Lib.hid (And.intro hlt hv)
          clear hlt hv hok3 hpl2 hpc hln hvb
          rw [hpA] at d1c
          clear hpA
          go_wp2_with fail
          refine (ruint_any _ _ _ _ u _ HR2.out.1 (by omega) (by omega)).mono ?_
          rintro e wd ⟨Ad, cd, rfl, hod, hbd⟩
          obtain ⟨Nd, hNd⟩ : ∃ q, N2 + (dig u).length = q := ⟨_, rfl⟩
          rw [hNd] at hod ⊢
          have HOd := Lib.hid (And.intro hod (HR2.out.2.trans (hbd.mono HR2.out.2.size)))
          clear hod hbd hNd hvv d1c
          go_wp2
          go_roundw
          case rel =>
            refine ⟨j + 1, Nd, Ad, cd, by have := HU.out.1; omega, by go_num, rfl, (⟨?_, HOd.out.2⟩ : Rd wd Ad Nd (((dig n ++ encT ((ps.take k).map Pc.pl)) ++ dig ep ++ dig p.n) ++ encN (p.l.take (j + 1))) ∧ _)⟩
            have := HOd.out.1
            rw [take_snoc HU.out.2, encN_snoc, Int.toNat_natCast, ← List.append_assoc]
            exact this
          case measure => have := HU.out.1; simp [Go.RowKit.intOf]; omega
        · obtain rfl : j = p.n := by omega
          clear hlt hok3
          go_wp2
          go_roundw
          case rel =>
            have hln : p.l.length = p.n := HX.out.2.1.len
            refine ⟨k + 1, N2, A2', c2', by have := HX.out.1; omega, by go_num, rfl, (⟨?_, HR2.out.2⟩ : Rd _ A2' N2 (dig n ++ encT ((ps.take (k + 1)).map Pc.pl)) ∧ _)⟩
            have := HR2.out.1
            rw [show p.l.take p.n = p.l from List.take_of_length_le (by omega)] at this
            have e : dig n ++ encT ((ps.take (k + 1)).map Pc.pl) = ((dig n ++ encT ((ps.take k).map Pc.pl)) ++ dig ep ++ dig p.n) ++ encN p.l := by
              rw [take_snoc HX.out.2.2.1, List.map_append]
              simp only [List.map_cons, List.map_nil]
              rw [encT_snoc]
              unfold enc1
              simp only [Pc.pl]
              rw [HX.out.2.2.2.1, Int.toNat_natCast, hln]
              simp only [List.append_assoc]
            rw [e]
            exact this
          case measure => have := HX.out.1; simp [Go.RowKit.intOf]; omega
    · obtain rfl : k = n := by omega
      clear hlt
      go_wp2
      go_ret2
      have hln := H.out.1.len
      have e : dig k ++ encT ((ps.take k).map Pc.pl) = encL (ps.map Pc.pl) := by
        rw [List.take_of_length_le (by omega)]
        unfold encL
        rw [List.length_map, hln]
      have hO := HR.out.1
      rw [e] at hO
      have hNl := hO.len
      exact ⟨A', c', by simp only; rw [hNl]; rfl, by simp only; rw [hNl]; exact hO, HR.out.2⟩
theorem rbytes_is {A : Option Addr} {n ca : Nat} {ps : List Pc} (h : PL w A n ps) (hn : n ≤ 1000000) (hsz : (encL (ps.map Pc.pl)).length ≤ 1000000) : Calls Try.prog 23 #[.slice A n ca] w (RWrote w (bytesP (ps.map Pc.pl))) := by
  unfold bytesP
  by_cases hA : AllP (ps.map Pc.pl)
  · rw [if_pos hA]
    exact rbytes_yes w h hn (decide_eq_true hA) hsz
  · rw [if_neg hA]
    exact rbytes_no w h hn (decide_eq_false hA)

end
end Go.Proofs.Ytbilbfjmfaignaa
