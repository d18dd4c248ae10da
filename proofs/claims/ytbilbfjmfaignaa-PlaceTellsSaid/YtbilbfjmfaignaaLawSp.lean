/- PlaceSpares' walk. -/
import Derived.Test.YtbilbfjmfaignaaPld
namespace Go.Proofs.Ytbilbfjmfaignaa
open Go.RowKit Go.Coop
set_option maxRecDepth 100000
theorem below_drewN {B : Nat} {a w : World} (h : Below B a w) (n : Nat) : Below B a (w.drewN n) := ⟨h.os, h.tape, h.output, h.size, h.block⟩
/-- placements whose nodes may have been written over -/
structure PW (w : World) (B : Nat) (A : Option Addr) (n c : Nat) (qs : List Pc) : Prop where
  row : OwnK w B 30 2 A n c (pcs qs)
  each : ∀ q ∈ qs, (∃ vs, OwnV w B 3 q.A q.n q.c vs) ∧ q.n ≤ 1000000
theorem PO.pw {w : World} {B n c : Nat} {A : Option Addr} {qs : List Pc} (h : PO w B A n c qs) : PW w B A n c qs := ⟨h.row, fun q hq => ⟨⟨_, (h.each q hq).1⟩, (h.each q hq).2⟩⟩
theorem OwnK.typ {w : World} {B E k n c : Nat} {A : Option Addr} {vs : List Value} (h : OwnK w B E k A n c vs) {j : Nat} (hj : A.map (·.block) = some j) : ∃ cur, w.heap[j]? = some (.cells cur E (0, 0)) := by
  rcases h.row.2 with ⟨hv, _⟩ | ⟨g, cap, cur, hv, hbg, hg, r⟩
  · injection hv with hA h2 h3
    subst hA
    cases hj
  · injection hv with hA h2 h3
    subst hA
    injection hj with hj
    subst hj
    exact ⟨cur, hg⟩
theorem own_set_any {w : World} {B n c x k : Nat} {A : Option Addr} {v : Value} (h : ∃ vs, OwnV w B 3 A n c vs) : ∃ vs, OwnV (w.setCell ⟨x, k, none⟩ v) B 3 A n c vs := by
  obtain ⟨vs, h⟩ := h
  by_cases e : A = some ⟨x, 0, none⟩
  · exact ⟨_, h.set (g := x) (k := k) e v⟩
  · refine ⟨vs, h.but (gs := [x]) ((But.refl _ _).setCell (by simp) _) (fun j hj hm => ?_)⟩
    simp at hm
    subst hm
    rcases h.row.2 with ⟨hv, _⟩ | ⟨g, cap, cur, hv, _⟩
    · injection hv with hA _ _
      subst hA
      cases hj
    · injection hv with hA _ _
      subst hA
      injection hj with hj
      subst hj
      exact e rfl
theorem PW.set {w : World} {B n c x k : Nat} {A : Option Addr} {qs : List Pc} {v : Value} (h : PW w B A n c qs) (hx : ∃ cur, w.heap[x]? = some (.cells cur 3 (0, 0))) : PW (w.setCell ⟨x, k, none⟩ v) B A n c qs := by
  refine ⟨h.row.but (gs := [x]) ((But.refl _ _).setCell (by simp) _) (fun j hj hm => ?_), fun q hq => ⟨own_set_any (h.each q hq).1, (h.each q hq).2⟩⟩
  simp at hm
  subst hm
  obtain ⟨c1, e1⟩ := hx
  obtain ⟨c2, e2⟩ := OwnK.typ h.row hj
  exact ne_of_type e1 e2 (by decide) rfl
theorem PW.below {w w' : World} {B B' n c : Nat} {A : Option Addr} {qs : List Pc} (h : PW w B A n c qs) (hb : Below B' w w') (hB : w.heap.size ≤ B') : PW w' B A n c qs :=
  ⟨h.row.below hb hB, fun q hq => ⟨by obtain ⟨⟨vs, h1⟩, _⟩ := h.each q hq; exact ⟨vs, h1.below hb hB⟩, (h.each q hq).2⟩⟩
/-- the header of the i-th one -/
theorem PW.get {w : World} {B n c : Nat} {A : Option Addr} {qs : List Pc} (h : PW w B A n c qs) {i : Nat} {q : Pc} (hi : qs[i]? = some q) : ∃ ad, A = some ad ∧ w.cell? ⟨(ad.add (i * 2)).block, (ad.add (i * 2)).off + 1, none⟩ = some (.slice q.A q.n q.c) := by
  have hlt := (List.getElem?_eq_some_iff.1 hi).1
  have hl := h.row.len
  rw [pcs_len] at hl
  obtain ⟨ad, e, _, hc⟩ := h.row.rd.cells (by omega)
  have := hc _ _ (pcs_get hi (j := 1) rfl)
  rw [addr_succ] at this
  exact ⟨ad, e, this⟩
theorem own_cell {w : World} {B n c : Nat} {A : Option Addr} (h : ∃ vs, OwnV w B 3 A n c vs) {i : Nat} (hi : i < n) : ∃ x v, A = some ⟨x, 0, none⟩ ∧ B ≤ x ∧ w.cell? ⟨x, i, none⟩ = some v ∧ w.frozen? ⟨x, i, none⟩ = false ∧ (∃ cur, w.heap[x]? = some (.cells cur 3 (0, 0))) := by
  obtain ⟨vs, h⟩ := h
  obtain ⟨x, rfl, hB, hx, hf⟩ := h.addr (by omega)
  obtain ⟨ad, e, _, hc⟩ := h.rd.cells (by omega)
  injection e with e
  subst e
  obtain ⟨v, hv⟩ : ∃ v, vs[i]? = some v := ⟨_, List.getElem?_eq_getElem (by rw [h.len]; exact hi)⟩
  have := hc i v hv
  rw [addr_at, Nat.zero_add] at this
  exact ⟨x, v, rfl, hB, this, hf i, h.typ rfl⟩
theorem PO.n_eq {w : World} {B n c : Nat} {A : Option Addr} {ps : List Pc} {L : List Pl} (h : PO w B A n c ps) (hl : ps.map Pc.pl = L) : n = L.length := by
  have h1 := h.len
  have h2 := congrArg List.length hl
  rw [List.length_map] at h2
  omega
section
variable (w : World)
theorem arr49 {w : World} {b : Nat} {a0 a1 a2 : Value} (h : w.heap[b]? = some (.cells #[a0, a1, a2] 49 (0, 0))) : w.cell? ⟨b, 0, none⟩ = some a0 ∧ w.cell? ⟨b, 1, none⟩ = some a1 ∧ w.cell? ⟨b, 2, none⟩ = some a2 :=
  ⟨cell_of_row _ b 0 _ 49 (0, 0) h, cell_of_row _ b 1 _ 49 (0, 0) h, cell_of_row _ b 2 _ 49 (0, 0) h⟩
set_option maxHeartbeats 2000000 in
theorem spares_law (x0 x1 x2 s f : Nat) (h0 : x0 < 256) (h1 : x1 < 256) (h2 : x2 < 256) (hs : s < 65536) (hf : f < 256) : Calls Try.prog 9 #[.agg #[.int .u8 x0, .int .u8 x1, .int .u8 x2], .int .u16 s, .int .u8 f] w (Told w true) := by
  obtain ⟨w1, hw1⟩ : ∃ v, w.alloc (.cells #[.int .u8 x0, .int .u8 x1, .int .u8 x2] 49) = v := ⟨_, rfl⟩
  obtain ⟨hb1, hx1⟩ := box_new hw1
  obtain ⟨b, hb⟩ : ∃ b, w.heap.size = b := ⟨_, rfl⟩
  rw [hb] at hx1
  obtain ⟨c0, c1, c2⟩ := arr49 hx1
  have HE := Lib.hid (And.intro hb1 hx1)
  clear hb1 hx1
  go_enter Try.func9, Try.ntmps9
  go_wp2_with fail
  (try rw [hb]); (try rw [hw1])
  refine (placed_is _ (MsAt.nil _) (by omega) x0 x1 x2 h0 h1 h2).mono ?_
  rintro e w2 ⟨A, n, ps, rfl, hpo, hpl, hb2⟩
  have hx2 := (hb2.block _ (lt_of_block HE.out.2)).trans HE.out.2
  clear c0 c1 c2 hw1 hb
  obtain ⟨c0, c1, c2⟩ := arr49 hx2
  have HO := Lib.hid (And.intro hpo.pl (And.intro hpl (And.intro (HE.out.1.trans (hb2.mono HE.out.1.size)) (hpo.n_eq hpl))))
  clear HE hpo hpl hb2 hx2
  go_wp2_with fail
  refine (placed_is _ (MsAt.nil _) (by omega) x0 x1 x2 h0 h1 h2).mono ?_
  rintro e w3 ⟨A2, n2, ps2, rfl, hpo, hpl, hb3⟩
  have hn2 := hpo.n_eq hpl
  have HP := Lib.hid (And.intro (HO.out.1.below hb3 (Nat.le_refl _)) (And.intro HO.out.2.1 (And.intro (HO.out.2.2.1.trans (hb3.mono HO.out.2.2.1.size)) (And.intro HO.out.2.2.2 (And.intro hpo.pl hpl)))))
  have hnice := placed_nice x0 x1 x2 []
  have hlen := placed_len x0 x1 x2 []
  obtain ⟨L, hL⟩ : ∃ L, placedP x0 x1 x2 [] = L := ⟨_, rfl⟩
  rw [hL] at HP hnice hlen hn2
  have hnn := HP.out.2.2.2.1
  obtain rfl : n2 = n := by omega
  have hn40 : n2 ≤ 40 := by have := hnice.few; omega
  have hn1 : 1 ≤ n2 := by have := hnice.some; omega
  have HN := Lib.hid (And.intro hnice (And.intro hn40 (And.intro hn1 hnn)))
  clear HO hpo hpl hb3 c0 c1 c2 hn2 hL hnice hlen hn40 hn1 hnn
  have sw : IntKind.i64.wrap (s : Int) = (s : Int) := IntWalk.i64_in _ (by omega)
  go_wp2_with fail
  refine (of_is _ HP.out.1 (by have := HN.out.2.1; omega) (s : Int) (by omega)).mono ?_
  rintro e w4 ⟨X, cX, rfl, hX, hb4⟩
  rw [HP.out.2.1] at hX ⊢
  obtain ⟨pe, pl, hof, hpl⟩ : ∃ pe pl, ofP L (s : Int) = (⟨pe, pl⟩, true) ∧ pl.length ≤ 20 := by
    unfold ofP
    have h1 := HN.out.2.2.1
    have h2 := HN.out.2.2.2
    have h3 : (s : Int).toNat % L.length < L.length := Nat.mod_lt _ (by omega)
    rw [if_neg (by omega), List.getElem?_eq_getElem h3]
    exact ⟨_, _, rfl, (HN.out.1.each _ (List.getElem_mem h3)).2.1.2⟩
  rw [hof] at hX ⊢
  simp only at hX ⊢
  obtain ⟨k, hk⟩ : ∃ k, pl.length = k := ⟨_, rfl⟩
  rw [hk] at hX hpl ⊢
  obtain ⟨w5, hw5⟩ : ∃ v, w4.alloc (.cells #[.int .i64 pe, .slice X k cX] 30) = v := ⟨_, rfl⟩
  obtain ⟨hb5, hx5⟩ := box_new hw5
  obtain ⟨bp, hbp⟩ : ∃ b, w4.heap.size = b := ⟨_, rfl⟩
  rw [hbp] at hx5
  have hb35 : Below w3.heap.size w3 w5 := hb4.trans (hb5.mono hb4.size)
  have HQ := Lib.hid (And.intro (HP.out.1.below hb35 (Nat.le_refl _)) (And.intro hb35 (And.intro hx5 (hX.below hb5 (Nat.le_refl _)))))
  have hnX : w3.heap.size ≤ bp := by rw [← hbp]; exact hb4.size
  obtain ⟨a, ha⟩ : ∃ a, f % 40 = a := ⟨_, rfl⟩
  have hal : a < 40 := by have := Nat.mod_lt f (show 0 < 40 by omega); omega
  have f1 : (f : Int) % 40 = (a : Int) := by omega
  have t1 : (f : Int).tmod 40 = (a : Int) := by rw [Int.tmod_eq_emod_of_nonneg (by omega)]; exact f1
  have q1 : IntKind.i64.wrap (a : Int) = (a : Int) := IntWalk.i64_in _ (by omega)
  have hal' := Lib.hid hal
  have HW := Lib.hid (And.intro hw5 hbp)
  clear hof hk hw5 hbp hb4 hX hb5 hx5 hb35 ha hal
  go_wp2_with fail
  rw [HW.out.1]
  (try rw [HW.out.2])
  refine (move_is _ HQ.out.1 (by have := HN.out.2.1; omega) (a : Int) 50).mono ?_
  rintro e w6 ⟨A6, n6, qs, G, m, mc, rfl, hpo, hq, _, _, _, hb6⟩
  have hmv : moveP L (a : Int) 50 = (L.map (mv1 (a : Int) 50), grp (a : Int) L, 0) := by
    have hl := hal'.out
    refine moveP_go (HN.out.1.all (by omega)) (by unfold MayNot; omega) (fun p hp hb => ?_)
    obtain ⟨g1, _, _, g4⟩ := HN.out.1.each p hp
    rcases hb.2 with h | h
    · have := (g1.1 50 h).2
      omega
    · omega
  rw [HP.out.2.1, hmv] at hq ⊢
  simp only at hq ⊢
  have hn6 := hpo.n_eq hq
  rw [List.length_map] at hn6
  have hnn := HN.out.2.2.2
  obtain rfl : n6 = n2 := by omega
  have hx6 := (hb6.block _ (lt_of_block HQ.out.2.2.1)).trans HQ.out.2.2.1
  have hb36 : Below w3.heap.size w3 w6 := HQ.out.2.1.trans (hb6.mono HQ.out.2.1.size)
  have HS := Lib.hid (And.intro (hpo.pw) (And.intro hb36 (And.intro hx6 (And.intro (show ∃ vs, OwnV w6 w3.heap.size 3 X k cX vs from ⟨_, HQ.out.2.2.2.below hb6 (Nat.le_refl _)⟩) HQ.out.2.1.size))))
  obtain ⟨⟨c0, c1⟩, _⟩ := two30 hx6
  have WLE := Lib.hid HQ.out.2.1.size
  clear HQ HW hpo hq hmv hn6 hnn hx6 hb36 hb6 f1 t1 q1 hal'
  go_wp2
  clear c0 c1
  go_loopw [16, 67] (fun _ s67 wr => ∃ j : Nat, j ≤ k ∧ s67 = .int .i64 j ∧ Hid (PW wr w5.heap.size A6 n6 n6 qs ∧ Below w3.heap.size w3 wr ∧ wr.heap[bp]? = some (.cells #[.int .i64 pe, .slice X k cX] 30 (0, 0)) ∧ (∃ vs, OwnV wr w3.heap.size 3 X k cX vs))) (fun _ s67 _ => k - (Go.RowKit.intOf s67).toNat)
  case atStart => exact ⟨0, by omega, rfl, (⟨HS.out.1, HS.out.2.1, HS.out.2.2.1, HS.out.2.2.2.1⟩ : PW w6 w5.heap.size A6 n6 n6 qs ∧ _ ∧ _ ∧ _)⟩
  case round =>
    obtain ⟨j, hj, rfl, HR⟩ := hrel
    by_cases hlt : j < k
    · obtain ⟨x, v, rfl, hBx, hcx, hfx, htx⟩ := own_cell HR.out.2.2.2 hlt
      obtain ⟨⟨c0, c1⟩, _⟩ := two30 HR.out.2.2.1
      have hi1 : (0 : Int) ≤ (j : Int) := by omega
      have hi2 : (j : Int) < (k : Int) := by omega
      have hw1 : IntKind.i64.wrap ((j : Int) + 1) = (j : Int) + 1 := IntWalk.i64_in _ (by omega)
      have hxb : x ≠ bp := by
        obtain ⟨cur, htx⟩ := htx
        exact ne_of_type htx HR.out.2.2.1 (by decide)
      have HT := Lib.hid (And.intro hlt (And.intro hBx htx))
      clear hlt hBx htx
      go_wp2
      go_roundw
      case rel =>
        refine ⟨j + 1, by have := HT.out.1; omega, by go_num, (⟨HR.out.1.set HT.out.2.2, HR.out.2.1.setCell HT.out.2.1 _, ?_, own_set_any HR.out.2.2.2⟩ : PW _ w5.heap.size A6 n6 n6 qs ∧ _ ∧ _ ∧ _)⟩
        exact (Below.heap_setCell _ _ _ _ (by simpa using fun e => hxb e.symm)).trans HR.out.2.2.1
      case measure => have := HT.out.1; simp [Go.RowKit.intOf]; omega
    · obtain rfl : j = k := by omega
      have HV := Lib.hid (And.intro HR.out.1 HR.out.2.1)
      clear HR hlt HS
      have hlq : qs.length = n6 := by
        have := HV.out.1.row.len
        rw [pcs_len] at this
        omega
      have HL := Lib.hid hlq
      clear hlq
      go_wp2
      go_loopw [17, 18, 77, 86] (fun _ _ s77 _ wr2 => ∃ g : Nat, g ≤ n6 ∧ s77 = .int .i64 g ∧ Hid (PW wr2 w5.heap.size A6 n6 n6 qs ∧ Below w3.heap.size w3 wr2)) (fun _ _ s77 _ _ => n6 - (Go.RowKit.intOf s77).toNat)
      case atStart => exact ⟨0, by omega, rfl, HV⟩
      case round =>
        clear HV
        obtain ⟨g, hg, rfl, HR⟩ := hrel
        have hn40 := HN.out.2.1
        by_cases hlt : g < n6
        · obtain ⟨q, hq⟩ : ∃ q, qs[g]? = some q := ⟨_, List.getElem?_eq_getElem (by rw [HL.out]; exact hlt)⟩
          obtain ⟨ad, rfl, d1⟩ := HR.out.1.get hq
          have hi1 : (0 : Int) ≤ (g : Int) := by omega
          have hi2 : (g : Int) < (n6 : Int) := by omega
          have hw1 : IntKind.i64.wrap ((g : Int) + 1) = (g : Int) + 1 := IntWalk.i64_in _ (by omega)
          have hqs := (HR.out.1.each q (mem_at hq)).2
          have HT := Lib.hid (And.intro hlt hq)
          clear hlt hq
          go_wp2
          clear d1
          go_loopw [18, 86] (fun _ s86 wr3 => ∃ j2 : Nat, j2 ≤ q.n ∧ s86 = .int .i64 j2 ∧ Hid (PW wr3 w5.heap.size (some ad) n6 n6 qs ∧ Below w3.heap.size w3 wr3)) (fun _ s86 _ => q.n - (Go.RowKit.intOf s86).toNat)
          case atStart => exact ⟨0, by omega, rfl, HR⟩
          case round =>
            clear HR
            obtain ⟨j2, hj2, rfl, HR⟩ := hrel
            by_cases hlt2 : j2 < q.n
            · obtain ⟨ad', e', d1⟩ := HR.out.1.get HT.out.2
              injection e' with e'
              subst e'
              obtain ⟨x, v, hqA, hBx, hcx, hfx, htx⟩ := own_cell (HR.out.1.each q (mem_at HT.out.2)).1 hlt2
              rw [hqA] at d1
              have hj1 : (0 : Int) ≤ (j2 : Int) := by omega
              have hj2' : (j2 : Int) < (q.n : Int) := by omega
              have hw2 : IntKind.i64.wrap ((j2 : Int) + 1) = (j2 : Int) + 1 := IntWalk.i64_in _ (by omega)
              have HU := Lib.hid (And.intro hlt2 (And.intro hBx htx))
              clear hlt2 hBx htx hqA
              go_wp2
              go_roundw
              case rel => exact ⟨j2 + 1, by have := HU.out.1; omega, by go_num, (⟨HR.out.1.set HU.out.2.2, HR.out.2.setCell (Nat.le_trans WLE.out HU.out.2.1) _⟩ : PW _ w5.heap.size (some ad) n6 n6 qs ∧ _)⟩
              case measure => have := HU.out.1; simp [Go.RowKit.intOf]; omega
            · obtain rfl : j2 = q.n := by omega
              go_wp2
              go_roundw
              case rel => exact ⟨g + 1, by have := HT.out.1; omega, by go_num, HR⟩
              case measure => have := HT.out.1; simp [Go.RowKit.intOf]; omega
        · obtain rfl : g = n6 := by omega
          clear hlt
          go_wp2_with fail
          refine (samePl_is _ (HP.out.1.below HR.out.2 (Nat.le_refl _)) (HP.out.2.2.2.2.1.below HR.out.2 (Nat.le_refl _)) (by omega) (q := true) (by rw [HP.out.2.1, HP.out.2.2.2.2.2]; simp)).mono ?_
          rintro e w8 ⟨rfl, d8, hw8⟩
          have hb8 : Hid (Below w.heap.size w w8) := by
            rw [hw8]
            exact below_drewN (HP.out.2.2.1.trans (HR.out.2.mono HP.out.2.2.1.size)) d8
          clear hw8
          go_wp2_with fail
          refine (awake_is _).mono ?_
          rintro e w9 ⟨rfl, hb9⟩
          go_wp2
          go_ret
          exact ⟨rfl, hb8.out.trans (hb9.mono hb8.out.size)⟩
end
end Go.Proofs.Ytbilbfjmfaignaa
