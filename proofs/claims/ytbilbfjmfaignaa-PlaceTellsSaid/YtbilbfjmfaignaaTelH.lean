/- PlaceTells' walk. -/
import Derived.Test.YtbilbfjmfaignaaTelE
import Derived.Test.YtbilbfjmfaignaaTelF
import Derived.Test.YtbilbfjmfaignaaBytB
import Derived.Test.YtbilbfjmfaignaaAwk
namespace Go.Proofs.Ytbilbfjmfaignaa
open Go.RowKit Go.Coop
set_option maxRecDepth 100000
theorem arr22 {w : World} {b : Nat} {a0 a1 a2 : Value} (h : w.heap[b]? = some (.cells #[a0, a1, a2] 22 (0, 0))) : w.cell? ⟨b, 0, none⟩ = some a0 ∧ w.cell? ⟨b, 1, none⟩ = some a1 ∧ w.cell? ⟨b, 2, none⟩ = some a2 :=
  ⟨cell_of_row _ b 0 _ 22 (0, 0) h, cell_of_row _ b 1 _ 22 (0, 0) h, cell_of_row _ b 2 _ 22 (0, 0) h⟩
theorem PA.below {w w' : World} {A : Option Addr} {n : Nat} {ps : List Pc} {B : Nat} (h : PA w A n ps) (hb : Below B w w') (hB : w.heap.size ≤ B) : PA w' A n ps :=
  ⟨h.len, fun i p hi => by
    obtain ⟨⟨h1, h0⟩, ad, h2, h3, h4⟩ := h.at_ i p hi
    exact ⟨⟨h1.below hb hB, h0⟩, ad, h2, Nat.lt_of_lt_of_le h3 hb.size, fun j v hj => (hb.cell (by rw [addr_add_block]; omega)).trans (h4 j v hj)⟩⟩
theorem PA.pl {w : World} {A : Option Addr} {n : Nat} {ps : List Pc} (h : PA w A n ps) (hs : smallB ps 20 30 = true) : PL w A n ps ∧ n ≤ 20 ∧ ∀ p ∈ ps, p.l.length ≤ 30 := by
  have hs' := of_decide_eq_true hs
  have hl := h.len
  refine ⟨⟨h.len, fun i p hi => ?_⟩, by omega, fun p hp => ?_⟩
  · obtain ⟨⟨h1, _⟩, h2⟩ := h.at_ i p hi
    have := hs'.2 p (List.mem_of_getElem? hi)
    exact ⟨⟨h1, by omega⟩, h2⟩
  · obtain ⟨i, hi⟩ := List.getElem?_of_mem hp
    obtain ⟨⟨h1, _⟩, _⟩ := h.at_ i p hi
    have h3 := hs'.2 p hp
    have h4 := h1.len
    rw [List.length_map] at h4
    omega
theorem enc_small {L : List Pl} (h1 : L.length ≤ 20) (h2 : ∀ p ∈ L, p.l.length ≤ 30) : (encL L).length ≤ 1000000 := by
  have h3 := encT_len (L := L) (fun p hp => by have := h2 p hp; omega)
  have h4 := dig_length L.length
  unfold encL
  rw [List.length_append]
  omega
theorem PL.one {w : World} {g : Nat} {p : Pc} (h : w.heap[g]? = some (.cells #[.int .i64 p.e, .slice p.A p.n p.c] 30 (0, 0))) (hp : p.Ok w) : PL w (some ⟨g, 0, none⟩) 1 [p] :=
  ⟨rfl, fun i q hi => by
    match i, hi with
    | 0, hi =>
      simp at hi
      subst hi
      refine ⟨hp, _, rfl, lt_of_block h, fun j v hj => ?_⟩
      rw [addr_at, Nat.zero_mul, Nat.zero_add, Nat.zero_add, cell_of_row _ g _ _ 30 (0, 0) h]
      simpa [Pc.cells] using hj
    | i + 1, hi => simp at hi⟩
section
variable (w : World)
set_option maxHeartbeats 16000000 in
theorem tells_law {A : Option Addr} {n ca : Nat} {ps : List Pc} (hP : PA w A n ps) (hn : n ≤ maxLen) {X : Option Addr} {xn xc : Nat} {bs : List UInt8} (hX : Rd w X xn bs) (hxc : xn ≤ xc) (hxm : xc ≤ 9223372036854775807) (x0 x1 x2 fr to : Int) (hfr : fr ≤ 9223372036854775807) :
    Calls Try.prog 4 #[.slice A n ca, .slice X xn xc, .agg #[.int .i64 x0, .int .i64 x1, .int .i64 x2], .int .i64 fr, .int .i64 to] w (Told w true) := by
  obtain ⟨w1, hw1⟩ : ∃ v, w.alloc (.cells #[.int .i64 x0, .int .i64 x1, .int .i64 x2] 22) = v := ⟨_, rfl⟩
  obtain ⟨hb1, hx1⟩ := box_new hw1
  obtain ⟨b0, hb⟩ : ∃ b, w.heap.size = b := ⟨_, rfl⟩
  rw [hb] at hx1
  obtain ⟨k0, k1, k2⟩ := arr22 hx1
  have HE := Lib.hid (And.intro hb1 (And.intro (hP.below hb1 (Nat.le_refl _)) (And.intro (hX.below hb1 (Nat.le_refl _)) (And.intro hx1 hn))))
  clear hb1 hx1 hP hX hn
  by_cases hS : smallB ps 20 30 = false
  · have HS := Lib.hid hS
    clear hS
    go_enter Try.func4, Try.ntmps4
    go_wp2_with fail
    (try rw [hb]); (try rw [hw1])
    refine (small_is w1 HE.out.2.1 HE.out.2.2.2.2 20 30 (by omega) HS.out).mono ?_
    rintro e w2 ⟨rfl, rfl⟩
    go_wp2_with fail
    refine (awake_is _).mono ?_
    rintro e w3 ⟨rfl, hb3⟩
    go_wp2
    go_ret
    exact ⟨rfl, HE.out.1.trans (hb3.mono HE.out.1.size)⟩
  have HS : Hid (smallB ps 20 30 = true) := by show _ = _; cases h : smallB ps 20 30 with | true => rfl | false => exact absurd h hS
  clear hS
  by_cases g1 : 1000 < (xn : Int)
  · have g1' : ¬ (xn : Int) ≤ 1000 := by omega
    go_enter Try.func4, Try.ntmps4
    go_wp2_with fail
    (try rw [hb]); (try rw [hw1])
    refine (small_is w1 HE.out.2.1 HE.out.2.2.2.2 20 30 (by omega) HS.out).mono ?_
    rintro e w2 ⟨rfl, rfl⟩
    go_wp2_with fail
    refine (awake_is _).mono ?_
    rintro e w3 ⟨rfl, hb3⟩
    go_wp2
    go_ret
    exact ⟨rfl, HE.out.1.trans (hb3.mono HE.out.1.size)⟩
  have g1' : (xn : Int) ≤ 1000 := by omega
  by_cases g2 : 30 < x1
  · have g2' : ¬ x1 ≤ 30 := by omega
    go_enter Try.func4, Try.ntmps4
    go_wp2_with fail
    (try rw [hb]); (try rw [hw1])
    refine (small_is w1 HE.out.2.1 HE.out.2.2.2.2 20 30 (by omega) HS.out).mono ?_
    rintro e w2 ⟨rfl, rfl⟩
    go_wp2_with fail
    refine (awake_is _).mono ?_
    rintro e w3 ⟨rfl, hb3⟩
    go_wp2
    go_ret
    exact ⟨rfl, HE.out.1.trans (hb3.mono HE.out.1.size)⟩
  have g2' : x1 ≤ 30 := by omega
  by_cases g3 : 60 < x2
  · have g3' : ¬ x2 ≤ 60 := by omega
    go_enter Try.func4, Try.ntmps4
    go_wp2_with fail
    (try rw [hb]); (try rw [hw1])
    refine (small_is w1 HE.out.2.1 HE.out.2.2.2.2 20 30 (by omega) HS.out).mono ?_
    rintro e w2 ⟨rfl, rfl⟩
    go_wp2_with fail
    refine (awake_is _).mono ?_
    rintro e w3 ⟨rfl, hb3⟩
    go_wp2
    go_ret
    exact ⟨rfl, HE.out.1.trans (hb3.mono HE.out.1.size)⟩
  have g3' : x2 ≤ 60 := by omega
  obtain ⟨hPL, hn20, hl30⟩ := HE.out.2.1.pl HS.out
  have H1 := Lib.hid (And.intro HE.out.1 (And.intro hPL (And.intro HE.out.2.2.1 HE.out.2.2.2.1)))
  have HL := Lib.hid hl30
  clear hPL hl30
  go_enter Try.func4, Try.ntmps4
  go_wp2_with fail
  (try rw [hb]); (try rw [hw1])
  refine (small_is w1 HE.out.2.1 HE.out.2.2.2.2 20 30 (by omega) HS.out).mono ?_
  rintro e w1 ⟨rfl, rfl⟩
  go_wp2
  clear g1 g1' g2 g2' g3 g3' HE k0 k1 k2 hw1
  go_loopw [11, 12] (fun s11 s12 wr => ∃ (i N : Nat) (A1 : Option Addr) (c1 : Nat), i ≤ n ∧ s12 = .int .i64 i ∧ s11 = .slice A1 N c1 ∧ Hid (∃ qs, N = i ∧ PR wr w1.heap.size A1 N c1 [] qs ∧ qs.map Pc.pl = (ps.map Pc.pl).take i ∧ Below w1.heap.size w1 wr)) (fun _ s12 _ => n - (Go.RowKit.intOf s12).toNat)
  case atStart => exact ⟨0, 0, none, 0, by omega, rfl, rfl, Lib.hid ⟨[], rfl, PR.nil _ _ _, rfl, Below.refl _ _⟩⟩
  case round =>
    obtain ⟨i, N, A1, c1, hi, rfl, rfl, HR⟩ := hrel
    obtain ⟨qs, hNi, hPR, hMap, hBe⟩ := HR.out
    subst hNi
    have HQ := Lib.hid (And.intro hPR (And.intro hMap hBe))
    clear hPR hMap hBe HR
    by_cases hlt : N < n
    · obtain ⟨p, hp⟩ : ∃ p, ps[N]? = some p := ⟨_, List.getElem?_eq_getElem (by rw [H1.out.2.1.len]; exact hlt)⟩
      have hok := ((H1.out.2.1.below HQ.out.2.2 (Nat.le_refl _)).get' hp).choose_spec.1
      obtain ⟨ad, _, rfl, hadl, hload, d0, d1⟩ := H1.out.2.1.get' hp
      have hpp : (ps.map Pc.pl)[N]? = some p.pl := by rw [List.getElem?_map, hp]; rfl
      obtain ⟨pe, PAd, pn, pc, pl⟩ := p
      simp only at d0 d1
      have hi1 : (0 : Int) ≤ (N : Int) := by omega
      have hi2 : (N : Int) < (n : Int) := by omega
      have hw1 : IntKind.i64.wrap ((N : Int) + 1) = (N : Int) + 1 := IntWalk.i64_in _ (by omega)
      have HX := Lib.hid (And.intro hlt (And.intro hok hpp))
      clear hlt hok hpp hadl hload hp
      go_wp2
      have hdr : Below wr.heap.size wr wr.drew := (Below.refl _ _).drew
      have hrdr : RdV wr.drew PAd pn (pl.map IV) := HX.out.2.1.rd.below hdr (Nat.le_refl _)
      have hsm : pn ≤ 1000000 := HX.out.2.1.small
      have hPdr : PR wr.drew w1.heap.size A1 N c1 [] qs := HQ.out.1.grown (But.of_below hdr) (by simp) (by simp)
      have HDR := Lib.hid (And.intro hrdr (And.intro hsm (And.intro hPdr (HQ.out.2.2.trans (hdr.mono HQ.out.2.2.size)))))
      clear hdr hrdr hsm hPdr
      refine wp_region_held_drew (S := fun u => Below w1.heap.size w1 u) (by kernel_rfl) (HQ.out.2.2.trans (((Below.refl wr.heap.size wr).drew).mono HQ.out.2.2.size)) (fun hHeld => ?_)
      refine wpAnyH_take (i := 0) (oi := ⟨some 61, _, _, _, _, _⟩) (v := ?_) rfl (by kernel_rfl) (by kernel_rfl) (by kernel_rfl) (fun _ _ _ h => h) (Or.inl ⟨by rfl, ?_⟩) (by assumption) ?_
      rotate_left
      · intro w hSw
        (try dsimp only at hSw)
        go_simp
        all_goals (with_reducible rfl)
      try simp only [Act.put, List.setIfInBounds_toArray, List.set_cons_zero, List.set_cons_succ]
      refine wpAnyH_take (i := 1) (oi := ⟨some 62, _, _, _, _, _⟩) (v := ?_) rfl (by kernel_rfl) (by kernel_rfl) (by kernel_rfl) (fun _ _ _ h => h) (Or.inl ⟨by rfl, ?_⟩) (by assumption) ?_
      rotate_left
      · intro w hSw
        (try dsimp only at hSw)
        go_simp
        all_goals (with_reducible rfl)
      try simp only [Act.put, List.setIfInBounds_toArray, List.set_cons_zero, List.set_cons_succ]
      refine wpAnyH_take (i := 2) (oi := ⟨some 63, _, _, _, _, _⟩) (v := ?_) rfl (by kernel_rfl) (by kernel_rfl) (by kernel_rfl) (fun _ _ _ h => h) (Or.inl ⟨by rfl, ?_⟩) (by assumption) ?_
      rotate_left
      · intro w hSw
        (try dsimp only at hSw)
        go_simp
        all_goals (with_reducible rfl)
      try simp only [Act.put, List.setIfInBounds_toArray, List.set_cons_zero, List.set_cons_succ]
      refine wpAnyH_take (i := 3) (oi := ⟨some 64, _, _, _, _, _⟩) (v := ?_) rfl (by kernel_rfl) (by kernel_rfl) (by kernel_rfl) (fun _ _ _ h => h) (Or.inl ⟨by rfl, ?_⟩) (by assumption) ?_
      rotate_left
      · intro w hSw
        (try dsimp only at hSw)
        go_simp
        all_goals (with_reducible rfl)
      try simp only [Act.put, List.setIfInBounds_toArray, List.set_cons_zero, List.set_cons_succ]
      refine wpAnyH_take (i := 4) (oi := ⟨some 65, _, _, _, _, _⟩) (v := ?_) rfl (by kernel_rfl) (by kernel_rfl) (by kernel_rfl) (fun _ _ _ h => h) (Or.inl ⟨by rfl, ?_⟩) (by assumption) ?_
      rotate_left
      · intro w hSw
        (try dsimp only at hSw)
        go_simp
        all_goals (with_reducible rfl)
      try simp only [Act.put, List.setIfInBounds_toArray, List.set_cons_zero, List.set_cons_succ]
      refine wpAnyH_take (i := 5) (oi := ⟨some 66, _, _, _, _, _⟩) (v := ?_) rfl (by kernel_rfl) (by kernel_rfl) (by kernel_rfl) (fun _ _ _ h => h) (Or.inl ⟨by rfl, ?_⟩) (by assumption) ?_
      rotate_left
      · intro w hSw
        have hl0 := (hSw.cell (block_lt_of_cell d0)).trans d0
        have hl1 := (hSw.cell (block_lt_of_cell d1)).trans d1
        go_simp
        all_goals (with_reducible rfl)
      try simp only [Act.put, List.setIfInBounds_toArray, List.set_cons_zero, List.set_cons_succ]
      refine wpAnyH_take (i := 6) (oi := ⟨some 67, _, _, _, _, _⟩) (v := ?_) rfl (by kernel_rfl) (by kernel_rfl) (by kernel_rfl) (fun _ _ _ h => h) (Or.inl ⟨by rfl, ?_⟩) (by assumption) ?_
      rotate_left
      · intro w hSw
        (try dsimp only at hSw)
        go_simp
        all_goals (with_reducible rfl)
      try simp only [Act.put, List.setIfInBounds_toArray, List.set_cons_zero, List.set_cons_succ]
      refine wpAnyH_take (i := 7) (oi := ⟨some 68, _, _, _, _, _⟩) (v := ?_) rfl (by kernel_rfl) (by kernel_rfl) (by kernel_rfl) (fun _ _ _ h => h) (Or.inl ⟨by rfl, ?_⟩) (by assumption) ?_
      rotate_left
      · intro w hSw
        (try dsimp only at hSw)
        go_simp
        all_goals (with_reducible rfl)
      try simp only [Act.put, List.setIfInBounds_toArray, List.set_cons_zero, List.set_cons_succ]
      refine wpAnyH_take (i := 8) (oi := ⟨some 69, _, _, _, _, _⟩) (v := ?_) rfl (by kernel_rfl) (by kernel_rfl) (by kernel_rfl) (fun _ _ _ h => h) (Or.inl ⟨by rfl, ?_⟩) (by assumption) ?_
      rotate_left
      · intro w hSw
        (try dsimp only at hSw)
        go_simp
        all_goals (with_reducible rfl)
      try simp only [Act.put, List.setIfInBounds_toArray, List.set_cons_zero, List.set_cons_succ]
      refine wpAnyH_take (i := 9) (oi := ⟨some 70, _, _, _, _, _⟩) (v := ?_) rfl (by kernel_rfl) (by kernel_rfl) (by kernel_rfl) (fun _ _ _ h => h) (Or.inl ⟨by rfl, ?_⟩) (by assumption) ?_
      rotate_left
      · intro w hSw
        (try dsimp only at hSw)
        go_simp
        all_goals (with_reducible rfl)
      try simp only [Act.put, List.setIfInBounds_toArray, List.set_cons_zero, List.set_cons_succ]
      refine wpAnyH_take (i := 10) (oi := ⟨some 71, _, _, _, _, _⟩) (v := ?_) rfl (by kernel_rfl) (by kernel_rfl) (by kernel_rfl) (fun _ _ _ h => h) (Or.inl ⟨by rfl, ?_⟩) (by assumption) ?_
      rotate_left
      · intro w hSw
        have hl0 := (hSw.cell (block_lt_of_cell d0)).trans d0
        have hl1 := (hSw.cell (block_lt_of_cell d1)).trans d1
        go_simp
        all_goals (with_reducible rfl)
      try simp only [Act.put, List.setIfInBounds_toArray, List.set_cons_zero, List.set_cons_succ]
      refine wpAnyH_ready (rs := [11]) (by kernel_rfl) (by simp) (AllReadyH.cons (o := ⟨some 72, _, _, _, _, _⟩) rfl (fun K hK => ?_) AllReadyH.nil)
      go_simp
      refine (copyInts_is wr.drew HDR.out.1 HDR.out.2.1).mono ?_
      rintro e wc ⟨X', cX, rfl, ho, hbc⟩
      refine hK.out _ _ (hHeld.trans (hbc.mono hHeld.size)) (fun hHeld => ?_)
      clear hK K
      try simp only [Act.put, List.setIfInBounds_toArray, List.set_cons_zero, List.set_cons_succ]
      have hXl : (pl.map IV).length = pn := by have := ho.len; exact this
      obtain ⟨wq, hwq⟩ : ∃ v, wc.alloc (.cells #[.int .i64 pe, .slice X' pn cX] 30) = v := ⟨_, rfl⟩
      obtain ⟨hbq, hxq⟩ := box_new hwq
      have hPc : PR wc w1.heap.size A1 N c1 [] qs := HDR.out.2.2.1.grown (But.of_below hbc) (by simp) (by simp)
      have hBc := HDR.out.2.2.2.trans (hbc.mono HDR.out.2.2.2.size)
      have hrq : RdV wq (some ⟨wc.heap.size, 0, none⟩) (1 * 2) (Pc.cells ⟨pe, X', pn, cX, pl⟩) := by rw [← hwq]; exact RdV.new wc (Pc.cells ⟨pe, X', pn, cX, pl⟩) 30 (0, 0)
      have hne : ∀ j, X'.map (·.block) = some j → A1.map (·.block) ≠ some j := fun j hj e => by
        have h1 := (ho.block j hj).1
        have h2 := (HDR.out.2.2.1.row.block j e).2
        omega
      have hPq : PR wq w1.heap.size A1 N c1 [] qs := by rw [← hwq]; exact hPc.alloc _
      have HC := Lib.hid (And.intro hPc (And.intro hBc (And.intro hrq (And.intro hne (And.intro ho.rd (And.intro hPq hbq))))))
      clear hPc hBc hrq hne ho hPq hbq hxq hbc
      refine wpAnyH_take (i := 12) (oi := ⟨some 73, _, _, _, _, _⟩) (v := ?_) rfl (by kernel_rfl) (by kernel_rfl) (by kernel_rfl) (fun _ _ _ h => h) (Or.inl ⟨by rfl, ?_⟩) (by assumption) ?_
      rotate_left
      · intro w hSw
        (try dsimp only at hSw)
        go_simp
        all_goals (with_reducible rfl)
      try simp only [Act.put, List.setIfInBounds_toArray, List.set_cons_zero, List.set_cons_succ]
      refine wpAnyH_ready (rs := [13]) (by kernel_rfl) (by simp) (AllReadyH.cons (o := ⟨some 74, _, _, _, _, _⟩) rfl (fun K hK => ?_) AllReadyH.nil)
      go_simp
      (try rw [hwq])
      refine hK.out _ _ (hHeld.trans (HC.out.2.2.2.2.2.2.mono hHeld.size)) (fun hHeld => ?_)
      clear hK K
      try simp only [Act.put, List.setIfInBounds_toArray, List.set_cons_zero, List.set_cons_succ]
      refine wpAnyH_ready (rs := [14]) (by kernel_rfl) (by simp) (AllReadyH.cons (o := ⟨some 75, _, _, _, _, _⟩) rfl (fun K hK => ?_) AllReadyH.nil)
      refine step_appK _ rfl (.tmp 61) (.tmp 74) 24 rfl w1.heap.size 30 2 (.agg #[.int .i64 0, .slice none 0 0]) 32 Try.underlying24 info30 rfl (by omega) rfl HC.out.2.2.2.2.2.1.row rfl (m := 1) HC.out.2.2.1 (by omega) (by intro u hu; simp [Pc.cells] at hu; rcases hu with rfl | rfl <;> rfl) (by omega) (by omega) (Nat.le_trans HC.out.2.1.size HC.out.2.2.2.2.2.2.size) (N + 1) rfl ?_
      intro A' c' w7 ho hg hat
      have hb7 : But (A1.map (·.block)).toList wq w7 := (But.refl _ _).grown hg (by simp)
      have hB7 : Below w1.heap.size w1 w7 := by
        have hBq := HC.out.2.1.trans (HC.out.2.2.2.2.2.2.mono HC.out.2.1.size)
        refine hBq.trans ⟨hb7.os, hb7.tape, hb7.output, hb7.size, fun k hk => ?_⟩
        exact hb7.block k (by have := hBq.size; omega) (fun hm => by have := (HC.out.1.row.block k (by simpa using hm)).1; omega)
      have hP7 : PR w7 w1.heap.size A' (N + 1) c' [] (qs ++ [⟨pe, X', pn, cX, pl⟩]) := HC.out.2.2.2.2.2.1.app hg hat ho ⟨HC.out.2.2.2.2.1.below HC.out.2.2.2.2.2.2 (Nat.le_refl _), HDR.out.2.1⟩ (fun _ j hj => HC.out.2.2.2.1 j hj) (by simp)
      have H7 := Lib.hid (And.intro hP7 hB7)
      clear hb7 hB7 hP7 ho hg hat
      refine hK.out _ _ H7.out.2 (fun hHeld => ?_)
      clear hK K
      try simp only [Act.put, List.setIfInBounds_toArray, List.set_cons_zero, List.set_cons_succ]
      refine wpAnyH_take (i := 15) (oi := ⟨some 11, _, _, _, _, _⟩) (v := ?_) rfl (by kernel_rfl) (by kernel_rfl) (by kernel_rfl) (fun _ _ _ h => h) (Or.inl ⟨by rfl, ?_⟩) (by assumption) ?_
      rotate_left
      · intro w hSw
        (try dsimp only at hSw)
        go_simp
        all_goals (with_reducible rfl)
      try simp only [Act.put, List.setIfInBounds_toArray, List.set_cons_zero, List.set_cons_succ]
      refine wpAnyH_done (by kernel_rfl) ?_ _
      go_wp2
      go_roundw
      case rel =>
        refine ⟨N + 1, N + 1, A', c', by have := HX.out.1; omega, by go_num, rfl, Lib.hid ⟨qs ++ [⟨pe, X', pn, cX, pl⟩], rfl, H7.out.1, ?_, H7.out.2⟩⟩
        rw [take_snoc HX.out.2.2, List.map_append, HQ.out.2.1]
        rfl
      case measure => have := HX.out.1; simp [Go.RowKit.intOf]; omega
    · obtain rfl : N = n := by omega
      clear hlt
      obtain ⟨L, hLp⟩ : ∃ L, ps.map Pc.pl = L := ⟨_, rfl⟩
      have hLq : qs.map Pc.pl = L := by rw [HQ.out.2.1, hLp, List.take_of_length_le (by rw [← hLp, List.length_map, H1.out.2.1.len]; exact Nat.le_refl _)]
      have hsz : (encL L).length ≤ 1000000 := enc_small (by rw [← hLp, List.length_map, H1.out.2.1.len]; exact hn20) (fun p hp => by rw [← hLp] at hp; obtain ⟨x, hx, rfl⟩ := List.mem_map.1 hp; exact HL.out x hx)
      have HM := Lib.hid (And.intro hLp (And.intro hLq hsz))
      clear hLp hLq hsz
      have G0 := Lib.hid (And.intro (H1.out.1.trans (HQ.out.2.2.mono H1.out.1.size)) (And.intro (H1.out.2.1.below HQ.out.2.2 (Nat.le_refl _)) (And.intro (H1.out.2.2.1.below HQ.out.2.2 (Nat.le_refl _)) (And.intro ((HQ.out.2.2.block _ (lt_of_block H1.out.2.2.2)).trans H1.out.2.2.2) HQ.out.1.pl))))
      clear HQ
      obtain ⟨⟨FL, fe⟩, hF⟩ : ∃ r, firstP x0 x1 x2 = r := ⟨_, rfl⟩
      obtain ⟨⟨ML, MG, me⟩, hMv⟩ : ∃ r, moveP L fr to = r := ⟨_, rfl⟩
      obtain ⟨⟨BL, be⟩, hBy⟩ : ∃ r, bytesP L = r := ⟨_, rfl⟩
      obtain ⟨⟨RL, re⟩, hRd⟩ : ∃ r, readP bs = r := ⟨_, rfl⟩
      obtain ⟨⟨⟨oe, ol⟩, ob⟩, hOf⟩ : ∃ r, ofP L fr = r := ⟨_, rfl⟩
      have HF := Lib.hid (And.intro hF (And.intro hMv (And.intro hBy (And.intro hRd hOf))))
      clear hF hMv hBy hRd hOf
      obtain ⟨bl, hbl⟩ : ∃ q, BL.length = q := ⟨_, rfl⟩
      have hN20 : N ≤ 20 := hn20
      obtain ⟨k0, k1, k2⟩ := arr22 G0.out.2.2.2.1
      go_wp2_with fail
      refine (show Calls Try.prog 10 #[.int .i64 x0, .int .i64 x1, .int .i64 x2] wr (Gave wr (FL, fe)) from by rw [← HF.out.1]; exact first_is wr x0 x1 x2).mono ?_
      rintro e wa1 ⟨Ap, np, pp, rfl, hpo, hq, hnp, hb⟩
      simp only at hq ⊢
      clear k0 k1 k2
      have G1 := Lib.hid (And.intro (G0.out.1.trans (hb.mono G0.out.1.size)) (And.intro (G0.out.2.1.below hb (Nat.le_refl _)) (And.intro (G0.out.2.2.1.below hb (Nat.le_refl _)) (And.intro ((hb.block _ (lt_of_block G0.out.2.2.2.1)).trans G0.out.2.2.2.1) (And.intro (G0.out.2.2.2.2.below hb (Nat.le_refl _)) hpo.pl)))))
      clear G0
      have E1 := Lib.hid hq
      clear hpo hq hb
      obtain ⟨k0, k1, k2⟩ := arr22 G1.out.2.2.2.1
      go_wp2_with fail
      refine (show Calls Try.prog 21 #[.int .i64 x0, .int .i64 x1, .int .i64 x2] wa1 (RGave wa1 (FL, fe)) from by rw [← HF.out.1]; exact rfirst_is wa1 x0 x1 x2).mono ?_
      rintro e wa2 ⟨Aq, nq, cq, pq, rfl, hpl, hq, hnq, hb⟩
      simp only at hq ⊢
      clear k0 k1 k2
      have G2 := Lib.hid (And.intro (G1.out.1.trans (hb.mono G1.out.1.size)) (And.intro (G1.out.2.1.below hb (Nat.le_refl _)) (And.intro (G1.out.2.2.1.below hb (Nat.le_refl _)) (And.intro ((hb.block _ (lt_of_block G1.out.2.2.2.1)).trans G1.out.2.2.2.1) (And.intro (G1.out.2.2.2.2.1.below hb (Nat.le_refl _)) (And.intro (G1.out.2.2.2.2.2.below hb (Nat.le_refl _)) hpl))))))
      clear G1
      have E2 := Lib.hid hq
      clear hpl hq hb
      go_wp2_with fail
      refine (show Calls Try.prog 12 #[.slice A1 N c1, .int .i64 fr, .int .i64 to] wa2 (Moved wa2 (ML, MG, me)) from by rw [← HF.out.2.1, ← HM.out.2.1]; exact move_is wa2 G2.out.2.2.2.2.1 (by omega) fr to).mono ?_
      rintro e wa3 ⟨Am, nm, pm, Gm, gm, gmc, rfl, hpo, hq, hnm, hG, hgm, hb⟩
      simp only at hq hG ⊢
      have G3 := Lib.hid (And.intro (G2.out.1.trans (hb.mono G2.out.1.size)) (And.intro (G2.out.2.1.below hb (Nat.le_refl _)) (And.intro (G2.out.2.2.1.below hb (Nat.le_refl _)) (And.intro ((hb.block _ (lt_of_block G2.out.2.2.2.1)).trans G2.out.2.2.2.1) (And.intro (G2.out.2.2.2.2.1.below hb (Nat.le_refl _)) (And.intro (G2.out.2.2.2.2.2.1.below hb (Nat.le_refl _)) (And.intro (G2.out.2.2.2.2.2.2.below hb (Nat.le_refl _)) (And.intro hpo.pl hG))))))))
      clear G2
      have E3 := Lib.hid hq
      clear hpo hq hG hb
      go_wp2_with fail
      refine (show Calls Try.prog 22 #[.slice A N ca, .int .i64 fr, .int .i64 to] wa3 (RMoved wa3 (ML, MG, me)) from by rw [← HF.out.2.1, ← HM.out.1]; exact rmove_is wa3 G3.out.2.1 (by omega) fr to).mono ?_
      rintro e wa4 ⟨An, nn, cn, pn, Gn, gn, gnc, rfl, hpl, hq, hnn, hG, hgn, hb⟩
      simp only at hq hG ⊢
      have G4 := Lib.hid (And.intro (G3.out.1.trans (hb.mono G3.out.1.size)) (And.intro (G3.out.2.1.below hb (Nat.le_refl _)) (And.intro (G3.out.2.2.1.below hb (Nat.le_refl _)) (And.intro ((hb.block _ (lt_of_block G3.out.2.2.2.1)).trans G3.out.2.2.2.1) (And.intro (G3.out.2.2.2.2.1.below hb (Nat.le_refl _)) (And.intro (G3.out.2.2.2.2.2.1.below hb (Nat.le_refl _)) (And.intro (G3.out.2.2.2.2.2.2.1.below hb (Nat.le_refl _)) (And.intro (G3.out.2.2.2.2.2.2.2.1.below hb (Nat.le_refl _)) (And.intro (G3.out.2.2.2.2.2.2.2.2.below hb (Nat.le_refl _)) (And.intro hpl hG))))))))))
      clear G3
      have E4 := Lib.hid hq
      clear hpl hq hG hb
      go_wp2_with fail
      refine (show Calls Try.prog 13 #[.slice A1 N c1] wa4 (Wrote wa4 (BL, be)) from by rw [← HF.out.2.2.1, ← HM.out.2.1]; exact bytes_is wa4 G4.out.2.2.2.2.1 (by omega)).mono ?_
      rintro e wa5 ⟨Ac, cc, rfl, ho, hlen, hb⟩
      simp only at ho hlen ⊢
      rw [hbl] at ho hlen ⊢
      have G5 := Lib.hid (And.intro (G4.out.1.trans (hb.mono G4.out.1.size)) (And.intro (G4.out.2.1.below hb (Nat.le_refl _)) (And.intro (G4.out.2.2.1.below hb (Nat.le_refl _)) (And.intro ((hb.block _ (lt_of_block G4.out.2.2.2.1)).trans G4.out.2.2.2.1) (And.intro (G4.out.2.2.2.2.1.below hb (Nat.le_refl _)) (And.intro (G4.out.2.2.2.2.2.1.below hb (Nat.le_refl _)) (And.intro (G4.out.2.2.2.2.2.2.1.below hb (Nat.le_refl _)) (And.intro (G4.out.2.2.2.2.2.2.2.1.below hb (Nat.le_refl _)) (And.intro (G4.out.2.2.2.2.2.2.2.2.1.below hb (Nat.le_refl _)) (And.intro (G4.out.2.2.2.2.2.2.2.2.2.1.below hb (Nat.le_refl _)) (And.intro (G4.out.2.2.2.2.2.2.2.2.2.2.below hb (Nat.le_refl _)) ho.rd)))))))))))
      clear G4
      clear ho hb
      go_wp2_with fail
      refine (show Calls Try.prog 23 #[.slice A N ca] wa5 (RWrote wa5 (BL, be)) from by rw [← HF.out.2.2.1, ← HM.out.1]; exact rbytes_is wa5 G5.out.2.1 (by omega) (by rw [HM.out.1]; exact HM.out.2.2)).mono ?_
      rintro e wa6 ⟨Ad, cd, rfl, hrd, hb⟩
      simp only at hrd ⊢
      rw [hbl] at hrd ⊢
      have G6 := Lib.hid (And.intro (G5.out.1.trans (hb.mono G5.out.1.size)) (And.intro (G5.out.2.1.below hb (Nat.le_refl _)) (And.intro (G5.out.2.2.1.below hb (Nat.le_refl _)) (And.intro ((hb.block _ (lt_of_block G5.out.2.2.2.1)).trans G5.out.2.2.2.1) (And.intro (G5.out.2.2.2.2.1.below hb (Nat.le_refl _)) (And.intro (G5.out.2.2.2.2.2.1.below hb (Nat.le_refl _)) (And.intro (G5.out.2.2.2.2.2.2.1.below hb (Nat.le_refl _)) (And.intro (G5.out.2.2.2.2.2.2.2.1.below hb (Nat.le_refl _)) (And.intro (G5.out.2.2.2.2.2.2.2.2.1.below hb (Nat.le_refl _)) (And.intro (G5.out.2.2.2.2.2.2.2.2.2.1.below hb (Nat.le_refl _)) (And.intro (G5.out.2.2.2.2.2.2.2.2.2.2.1.below hb (Nat.le_refl _)) (And.intro (G5.out.2.2.2.2.2.2.2.2.2.2.2.below hb (Nat.le_refl _)) hrd))))))))))))
      clear G5
      clear hrd hb
      go_wp2_with fail
      refine (show Calls Try.prog 14 #[.slice X xn xc] wa6 (Gave wa6 (RL, re)) from by rw [← HF.out.2.2.2.1]; exact read_is wa6 G6.out.2.2.1 (by omega) hxc).mono ?_
      rintro e wa7 ⟨Ar, nr, pr, rfl, hpo, hq, hnr, hb⟩
      simp only at hq ⊢
      have G7 := Lib.hid (And.intro (G6.out.1.trans (hb.mono G6.out.1.size)) (And.intro (G6.out.2.1.below hb (Nat.le_refl _)) (And.intro (G6.out.2.2.1.below hb (Nat.le_refl _)) (And.intro ((hb.block _ (lt_of_block G6.out.2.2.2.1)).trans G6.out.2.2.2.1) (And.intro (G6.out.2.2.2.2.1.below hb (Nat.le_refl _)) (And.intro (G6.out.2.2.2.2.2.1.below hb (Nat.le_refl _)) (And.intro (G6.out.2.2.2.2.2.2.1.below hb (Nat.le_refl _)) (And.intro (G6.out.2.2.2.2.2.2.2.1.below hb (Nat.le_refl _)) (And.intro (G6.out.2.2.2.2.2.2.2.2.1.below hb (Nat.le_refl _)) (And.intro (G6.out.2.2.2.2.2.2.2.2.2.1.below hb (Nat.le_refl _)) (And.intro (G6.out.2.2.2.2.2.2.2.2.2.2.1.below hb (Nat.le_refl _)) (And.intro (G6.out.2.2.2.2.2.2.2.2.2.2.2.1.below hb (Nat.le_refl _)) (And.intro (G6.out.2.2.2.2.2.2.2.2.2.2.2.2.below hb (Nat.le_refl _)) hpo.pl)))))))))))))
      clear G6
      have E7 := Lib.hid hq
      clear hpo hq hb
      go_wp2_with fail
      refine (show Calls Try.prog 24 #[.slice X xn xc] wa7 (RGave wa7 (RL, re)) from by rw [← HF.out.2.2.2.1]; exact rread_is wa7 xc G7.out.2.2.1 (by omega)).mono ?_
      rintro e wa8 ⟨At, nt, ct, pt, rfl, hpl, hq, hnt, hb⟩
      simp only at hq ⊢
      have G8 := Lib.hid (And.intro (G7.out.1.trans (hb.mono G7.out.1.size)) (And.intro (G7.out.2.1.below hb (Nat.le_refl _)) (And.intro (G7.out.2.2.1.below hb (Nat.le_refl _)) (And.intro ((hb.block _ (lt_of_block G7.out.2.2.2.1)).trans G7.out.2.2.2.1) (And.intro (G7.out.2.2.2.2.1.below hb (Nat.le_refl _)) (And.intro (G7.out.2.2.2.2.2.1.below hb (Nat.le_refl _)) (And.intro (G7.out.2.2.2.2.2.2.1.below hb (Nat.le_refl _)) (And.intro (G7.out.2.2.2.2.2.2.2.1.below hb (Nat.le_refl _)) (And.intro (G7.out.2.2.2.2.2.2.2.2.1.below hb (Nat.le_refl _)) (And.intro (G7.out.2.2.2.2.2.2.2.2.2.1.below hb (Nat.le_refl _)) (And.intro (G7.out.2.2.2.2.2.2.2.2.2.2.1.below hb (Nat.le_refl _)) (And.intro (G7.out.2.2.2.2.2.2.2.2.2.2.2.1.below hb (Nat.le_refl _)) (And.intro (G7.out.2.2.2.2.2.2.2.2.2.2.2.2.1.below hb (Nat.le_refl _)) (And.intro (G7.out.2.2.2.2.2.2.2.2.2.2.2.2.2.below hb (Nat.le_refl _)) hpl))))))))))))))
      clear G7
      have E8 := Lib.hid hq
      clear hpl hq hb
      go_wp2_with fail
      refine (samePl_is wa8 G8.out.2.2.2.2.2.1 G8.out.2.2.2.2.2.2.1 (by omega) (q := true) (by rw [E1.out, E2.out]; simp)).mono ?_
      rintro e wb1 ⟨rfl, d, hw⟩
      have hb : Below wa8.heap.size wa8 wb1 := by rw [hw]; exact below_drewN (Below.refl _ _) _
      have G9 := Lib.hid (And.intro (G8.out.1.trans (hb.mono G8.out.1.size)) (And.intro (G8.out.2.1.below hb (Nat.le_refl _)) (And.intro (G8.out.2.2.1.below hb (Nat.le_refl _)) (And.intro ((hb.block _ (lt_of_block G8.out.2.2.2.1)).trans G8.out.2.2.2.1) (And.intro (G8.out.2.2.2.2.1.below hb (Nat.le_refl _)) (And.intro (G8.out.2.2.2.2.2.1.below hb (Nat.le_refl _)) (And.intro (G8.out.2.2.2.2.2.2.1.below hb (Nat.le_refl _)) (And.intro (G8.out.2.2.2.2.2.2.2.1.below hb (Nat.le_refl _)) (And.intro (G8.out.2.2.2.2.2.2.2.2.1.below hb (Nat.le_refl _)) (And.intro (G8.out.2.2.2.2.2.2.2.2.2.1.below hb (Nat.le_refl _)) (And.intro (G8.out.2.2.2.2.2.2.2.2.2.2.1.below hb (Nat.le_refl _)) (And.intro (G8.out.2.2.2.2.2.2.2.2.2.2.2.1.below hb (Nat.le_refl _)) (And.intro (G8.out.2.2.2.2.2.2.2.2.2.2.2.2.1.below hb (Nat.le_refl _)) (And.intro (G8.out.2.2.2.2.2.2.2.2.2.2.2.2.2.1.below hb (Nat.le_refl _)) (G8.out.2.2.2.2.2.2.2.2.2.2.2.2.2.2.below hb (Nat.le_refl _))))))))))))))))
      clear G8
      clear hw hb
      go_wp2_with fail
      refine (samePl_is wb1 G9.out.2.2.2.2.2.2.2.1 G9.out.2.2.2.2.2.2.2.2.2.1 (by omega) (q := true) (by rw [E3.out, E4.out]; simp)).mono ?_
      rintro e wb2 ⟨rfl, d, hw⟩
      have hb : Below wb1.heap.size wb1 wb2 := by rw [hw]; exact below_drewN (Below.refl _ _) _
      have G10 := Lib.hid (And.intro (G9.out.1.trans (hb.mono G9.out.1.size)) (And.intro (G9.out.2.1.below hb (Nat.le_refl _)) (And.intro (G9.out.2.2.1.below hb (Nat.le_refl _)) (And.intro ((hb.block _ (lt_of_block G9.out.2.2.2.1)).trans G9.out.2.2.2.1) (And.intro (G9.out.2.2.2.2.1.below hb (Nat.le_refl _)) (And.intro (G9.out.2.2.2.2.2.1.below hb (Nat.le_refl _)) (And.intro (G9.out.2.2.2.2.2.2.1.below hb (Nat.le_refl _)) (And.intro (G9.out.2.2.2.2.2.2.2.1.below hb (Nat.le_refl _)) (And.intro (G9.out.2.2.2.2.2.2.2.2.1.below hb (Nat.le_refl _)) (And.intro (G9.out.2.2.2.2.2.2.2.2.2.1.below hb (Nat.le_refl _)) (And.intro (G9.out.2.2.2.2.2.2.2.2.2.2.1.below hb (Nat.le_refl _)) (And.intro (G9.out.2.2.2.2.2.2.2.2.2.2.2.1.below hb (Nat.le_refl _)) (And.intro (G9.out.2.2.2.2.2.2.2.2.2.2.2.2.1.below hb (Nat.le_refl _)) (And.intro (G9.out.2.2.2.2.2.2.2.2.2.2.2.2.2.1.below hb (Nat.le_refl _)) (G9.out.2.2.2.2.2.2.2.2.2.2.2.2.2.2.below hb (Nat.le_refl _))))))))))))))))
      clear G9
      clear hw hb
      go_wp2_with fail
      refine (sameInts_is wb2 G10.out.2.2.2.2.2.2.2.2.1 G10.out.2.2.2.2.2.2.2.2.2.2.1 (by omega) (q := true) (by simp)).mono ?_
      rintro e wb3 ⟨rfl, d, hw⟩
      have hb : Below wb2.heap.size wb2 wb3 := by rw [hw]; exact below_drewN (Below.refl _ _) _
      have G11 := Lib.hid (And.intro (G10.out.1.trans (hb.mono G10.out.1.size)) (And.intro (G10.out.2.1.below hb (Nat.le_refl _)) (And.intro (G10.out.2.2.1.below hb (Nat.le_refl _)) (And.intro ((hb.block _ (lt_of_block G10.out.2.2.2.1)).trans G10.out.2.2.2.1) (And.intro (G10.out.2.2.2.2.1.below hb (Nat.le_refl _)) (And.intro (G10.out.2.2.2.2.2.1.below hb (Nat.le_refl _)) (And.intro (G10.out.2.2.2.2.2.2.1.below hb (Nat.le_refl _)) (And.intro (G10.out.2.2.2.2.2.2.2.1.below hb (Nat.le_refl _)) (And.intro (G10.out.2.2.2.2.2.2.2.2.1.below hb (Nat.le_refl _)) (And.intro (G10.out.2.2.2.2.2.2.2.2.2.1.below hb (Nat.le_refl _)) (And.intro (G10.out.2.2.2.2.2.2.2.2.2.2.1.below hb (Nat.le_refl _)) (And.intro (G10.out.2.2.2.2.2.2.2.2.2.2.2.1.below hb (Nat.le_refl _)) (And.intro (G10.out.2.2.2.2.2.2.2.2.2.2.2.2.1.below hb (Nat.le_refl _)) (And.intro (G10.out.2.2.2.2.2.2.2.2.2.2.2.2.2.1.below hb (Nat.le_refl _)) (G10.out.2.2.2.2.2.2.2.2.2.2.2.2.2.2.below hb (Nat.le_refl _))))))))))))))))
      clear G10
      clear hw hb
      go_wp2_with fail
      refine (sameBytes_is wb3 G11.out.2.2.2.2.2.2.2.2.2.2.2.1 G11.out.2.2.2.2.2.2.2.2.2.2.2.2.1).mono ?_
      rintro e wb4 ⟨rfl, rfl⟩
      go_wp2_with fail
      refine (samePl_is wb3 G11.out.2.2.2.2.2.2.2.2.2.2.2.2.2.1 G11.out.2.2.2.2.2.2.2.2.2.2.2.2.2.2 (by omega) (q := true) (by rw [E7.out, E8.out]; simp)).mono ?_
      rintro e wb5 ⟨rfl, d, hw⟩
      have hb : Below wb3.heap.size wb3 wb5 := by rw [hw]; exact below_drewN (Below.refl _ _) _
      have G12 := Lib.hid (And.intro (G11.out.1.trans (hb.mono G11.out.1.size)) (And.intro (G11.out.2.1.below hb (Nat.le_refl _)) (And.intro (G11.out.2.2.1.below hb (Nat.le_refl _)) (And.intro ((hb.block _ (lt_of_block G11.out.2.2.2.1)).trans G11.out.2.2.2.1) (And.intro (G11.out.2.2.2.2.1.below hb (Nat.le_refl _)) (And.intro (G11.out.2.2.2.2.2.1.below hb (Nat.le_refl _)) (And.intro (G11.out.2.2.2.2.2.2.1.below hb (Nat.le_refl _)) (And.intro (G11.out.2.2.2.2.2.2.2.1.below hb (Nat.le_refl _)) (And.intro (G11.out.2.2.2.2.2.2.2.2.1.below hb (Nat.le_refl _)) (And.intro (G11.out.2.2.2.2.2.2.2.2.2.1.below hb (Nat.le_refl _)) (And.intro (G11.out.2.2.2.2.2.2.2.2.2.2.1.below hb (Nat.le_refl _)) (And.intro (G11.out.2.2.2.2.2.2.2.2.2.2.2.1.below hb (Nat.le_refl _)) (And.intro (G11.out.2.2.2.2.2.2.2.2.2.2.2.2.1.below hb (Nat.le_refl _)) (And.intro (G11.out.2.2.2.2.2.2.2.2.2.2.2.2.2.1.below hb (Nat.le_refl _)) (G11.out.2.2.2.2.2.2.2.2.2.2.2.2.2.2.below hb (Nat.le_refl _))))))))))))))))
      clear G11
      clear hw hb
      go_wp2_with fail
      refine (samePl_is wb5 G12.out.2.2.2.2.1 G12.out.2.1 (by omega) (q := true) (by rw [HM.out.2.1, HM.out.1]; simp)).mono ?_
      rintro e wb6 ⟨rfl, d, hw⟩
      have hb : Below wb5.heap.size wb5 wb6 := by rw [hw]; exact below_drewN (Below.refl _ _) _
      have G13 := Lib.hid (And.intro (G12.out.1.trans (hb.mono G12.out.1.size)) (And.intro (G12.out.2.1.below hb (Nat.le_refl _)) (And.intro (G12.out.2.2.1.below hb (Nat.le_refl _)) (And.intro ((hb.block _ (lt_of_block G12.out.2.2.2.1)).trans G12.out.2.2.2.1) (And.intro (G12.out.2.2.2.2.1.below hb (Nat.le_refl _)) (And.intro (G12.out.2.2.2.2.2.1.below hb (Nat.le_refl _)) (And.intro (G12.out.2.2.2.2.2.2.1.below hb (Nat.le_refl _)) (And.intro (G12.out.2.2.2.2.2.2.2.1.below hb (Nat.le_refl _)) (And.intro (G12.out.2.2.2.2.2.2.2.2.1.below hb (Nat.le_refl _)) (And.intro (G12.out.2.2.2.2.2.2.2.2.2.1.below hb (Nat.le_refl _)) (And.intro (G12.out.2.2.2.2.2.2.2.2.2.2.1.below hb (Nat.le_refl _)) (And.intro (G12.out.2.2.2.2.2.2.2.2.2.2.2.1.below hb (Nat.le_refl _)) (And.intro (G12.out.2.2.2.2.2.2.2.2.2.2.2.2.1.below hb (Nat.le_refl _)) (And.intro (G12.out.2.2.2.2.2.2.2.2.2.2.2.2.2.1.below hb (Nat.le_refl _)) (G12.out.2.2.2.2.2.2.2.2.2.2.2.2.2.2.below hb (Nat.le_refl _))))))))))))))))
      clear G12
      clear hw hb
      obtain ⟨on, hon⟩ : ∃ q, ol.length = q := ⟨_, rfl⟩
      go_wp2_with fail
      refine (show Calls Try.prog 15 #[.slice A N ca, .int .i64 fr] wb6 (OfQ wb6 (⟨oe, ol⟩, ob)) from by rw [← HF.out.2.2.2.2, ← HM.out.1]; exact of_is wb6 G13.out.2.1 (by omega) fr hfr).mono ?_
      rintro e wc1 ⟨Xv, cv, rfl, hov, hb⟩
      simp only at hov ⊢
      rw [hon] at hov ⊢
      have G14 := Lib.hid (And.intro (G13.out.1.trans (hb.mono G13.out.1.size)) (And.intro (G13.out.2.1.below hb (Nat.le_refl _)) (And.intro (G13.out.2.2.1.below hb (Nat.le_refl _)) (And.intro ((hb.block _ (lt_of_block G13.out.2.2.2.1)).trans G13.out.2.2.2.1) (And.intro (G13.out.2.2.2.2.1.below hb (Nat.le_refl _)) (And.intro (G13.out.2.2.2.2.2.1.below hb (Nat.le_refl _)) (And.intro (G13.out.2.2.2.2.2.2.1.below hb (Nat.le_refl _)) (And.intro (G13.out.2.2.2.2.2.2.2.1.below hb (Nat.le_refl _)) (And.intro (G13.out.2.2.2.2.2.2.2.2.1.below hb (Nat.le_refl _)) (And.intro (G13.out.2.2.2.2.2.2.2.2.2.1.below hb (Nat.le_refl _)) (And.intro (G13.out.2.2.2.2.2.2.2.2.2.2.1.below hb (Nat.le_refl _)) (And.intro (G13.out.2.2.2.2.2.2.2.2.2.2.2.1.below hb (Nat.le_refl _)) (And.intro (G13.out.2.2.2.2.2.2.2.2.2.2.2.2.1.below hb (Nat.le_refl _)) (And.intro (G13.out.2.2.2.2.2.2.2.2.2.2.2.2.2.1.below hb (Nat.le_refl _)) (And.intro (G13.out.2.2.2.2.2.2.2.2.2.2.2.2.2.2.below hb (Nat.le_refl _)) hov.rd)))))))))))))))
      clear G13
      clear hov hb
      obtain ⟨wa1, hwa1⟩ : ∃ v, wc1.alloc (.cells #[.int .i64 0, .slice none 0 0] 30) = v := ⟨_, rfl⟩
      obtain ⟨hba, hxa⟩ := box_new hwa1
      obtain ⟨bx1, hbx1⟩ : ∃ q, wc1.heap.size = q := ⟨_, rfl⟩
      rw [hbx1] at hxa
      obtain ⟨⟨m0, m1⟩, fm0, fm1⟩ := two30 hxa
      obtain ⟨we1, hwe1⟩ : ∃ v, (wa1.setCell ⟨bx1, 0, none⟩ (.int .i64 oe)).setCell ⟨bx1, 1, none⟩ (.slice Xv on cv) = v := ⟨_, rfl⟩
      have hxd : we1.heap[bx1]? = some (.cells #[.int .i64 oe, .slice Xv on cv] 30 (0, 0)) := by
        rw [← hwe1]
        exact row2 hxa
      have hb : Below wc1.heap.size wc1 we1 := by
        rw [← hwe1]
        exact (hba.setCell (by simp; omega) _).setCell (by simp; omega) _
      have G15 := Lib.hid (And.intro (G14.out.1.trans (hb.mono G14.out.1.size)) (And.intro (G14.out.2.1.below hb (Nat.le_refl _)) (And.intro (G14.out.2.2.1.below hb (Nat.le_refl _)) (And.intro ((hb.block _ (lt_of_block G14.out.2.2.2.1)).trans G14.out.2.2.2.1) (And.intro (G14.out.2.2.2.2.1.below hb (Nat.le_refl _)) (And.intro (G14.out.2.2.2.2.2.1.below hb (Nat.le_refl _)) (And.intro (G14.out.2.2.2.2.2.2.1.below hb (Nat.le_refl _)) (And.intro (G14.out.2.2.2.2.2.2.2.1.below hb (Nat.le_refl _)) (And.intro (G14.out.2.2.2.2.2.2.2.2.1.below hb (Nat.le_refl _)) (And.intro (G14.out.2.2.2.2.2.2.2.2.2.1.below hb (Nat.le_refl _)) (And.intro (G14.out.2.2.2.2.2.2.2.2.2.2.1.below hb (Nat.le_refl _)) (And.intro (G14.out.2.2.2.2.2.2.2.2.2.2.2.1.below hb (Nat.le_refl _)) (And.intro (G14.out.2.2.2.2.2.2.2.2.2.2.2.2.1.below hb (Nat.le_refl _)) (And.intro (G14.out.2.2.2.2.2.2.2.2.2.2.2.2.2.1.below hb (Nat.le_refl _)) (And.intro (G14.out.2.2.2.2.2.2.2.2.2.2.2.2.2.2.1.below hb (Nat.le_refl _)) (And.intro (G14.out.2.2.2.2.2.2.2.2.2.2.2.2.2.2.2.below hb (Nat.le_refl _)) hxd))))))))))))))))
      clear G14
      clear hxa hba hxd hb
      go_wp2_with fail
      (try rw [hbx1]); (try rw [hwa1]); (try rw [hwe1])
      clear m0 m1 fm0 fm1 hwa1 hwe1
      refine (show Calls Try.prog 28 #[.slice A N ca, .int .i64 fr] we1 (ROfQ we1 (⟨oe, ol⟩, ob)) from by rw [← HF.out.2.2.2.2, ← HM.out.1]; exact rof_is we1 G15.out.2.1 (by omega) fr hfr).mono ?_
      rintro e wc2 ⟨Xw, mw, cw, rfl, hrw, hmw, hb⟩
      simp only at hrw ⊢
      have G16 := Lib.hid (And.intro (G15.out.1.trans (hb.mono G15.out.1.size)) (And.intro (G15.out.2.1.below hb (Nat.le_refl _)) (And.intro (G15.out.2.2.1.below hb (Nat.le_refl _)) (And.intro ((hb.block _ (lt_of_block G15.out.2.2.2.1)).trans G15.out.2.2.2.1) (And.intro (G15.out.2.2.2.2.1.below hb (Nat.le_refl _)) (And.intro (G15.out.2.2.2.2.2.1.below hb (Nat.le_refl _)) (And.intro (G15.out.2.2.2.2.2.2.1.below hb (Nat.le_refl _)) (And.intro (G15.out.2.2.2.2.2.2.2.1.below hb (Nat.le_refl _)) (And.intro (G15.out.2.2.2.2.2.2.2.2.1.below hb (Nat.le_refl _)) (And.intro (G15.out.2.2.2.2.2.2.2.2.2.1.below hb (Nat.le_refl _)) (And.intro (G15.out.2.2.2.2.2.2.2.2.2.2.1.below hb (Nat.le_refl _)) (And.intro (G15.out.2.2.2.2.2.2.2.2.2.2.2.1.below hb (Nat.le_refl _)) (And.intro (G15.out.2.2.2.2.2.2.2.2.2.2.2.2.1.below hb (Nat.le_refl _)) (And.intro (G15.out.2.2.2.2.2.2.2.2.2.2.2.2.2.1.below hb (Nat.le_refl _)) (And.intro (G15.out.2.2.2.2.2.2.2.2.2.2.2.2.2.2.1.below hb (Nat.le_refl _)) (And.intro (G15.out.2.2.2.2.2.2.2.2.2.2.2.2.2.2.2.1.below hb (Nat.le_refl _)) (And.intro ((hb.block _ (lt_of_block G15.out.2.2.2.2.2.2.2.2.2.2.2.2.2.2.2.2)).trans G15.out.2.2.2.2.2.2.2.2.2.2.2.2.2.2.2.2) hrw)))))))))))))))))
      clear G15
      clear hrw hb
      obtain ⟨wa2, hwa2⟩ : ∃ v, wc2.alloc (.cells #[.int .i64 0, .slice none 0 0] 30) = v := ⟨_, rfl⟩
      obtain ⟨hba, hxa⟩ := box_new hwa2
      obtain ⟨bx2, hbx2⟩ : ∃ q, wc2.heap.size = q := ⟨_, rfl⟩
      rw [hbx2] at hxa
      obtain ⟨⟨m0, m1⟩, fm0, fm1⟩ := two30 hxa
      obtain ⟨we2, hwe2⟩ : ∃ v, (wa2.setCell ⟨bx2, 0, none⟩ (.int .i64 oe)).setCell ⟨bx2, 1, none⟩ (.slice Xw mw cw) = v := ⟨_, rfl⟩
      have hxd : we2.heap[bx2]? = some (.cells #[.int .i64 oe, .slice Xw mw cw] 30 (0, 0)) := by
        rw [← hwe2]
        exact row2 hxa
      have hb : Below wc2.heap.size wc2 we2 := by
        rw [← hwe2]
        exact (hba.setCell (by simp; omega) _).setCell (by simp; omega) _
      have G17 := Lib.hid (And.intro (G16.out.1.trans (hb.mono G16.out.1.size)) (And.intro (G16.out.2.1.below hb (Nat.le_refl _)) (And.intro (G16.out.2.2.1.below hb (Nat.le_refl _)) (And.intro ((hb.block _ (lt_of_block G16.out.2.2.2.1)).trans G16.out.2.2.2.1) (And.intro (G16.out.2.2.2.2.1.below hb (Nat.le_refl _)) (And.intro (G16.out.2.2.2.2.2.1.below hb (Nat.le_refl _)) (And.intro (G16.out.2.2.2.2.2.2.1.below hb (Nat.le_refl _)) (And.intro (G16.out.2.2.2.2.2.2.2.1.below hb (Nat.le_refl _)) (And.intro (G16.out.2.2.2.2.2.2.2.2.1.below hb (Nat.le_refl _)) (And.intro (G16.out.2.2.2.2.2.2.2.2.2.1.below hb (Nat.le_refl _)) (And.intro (G16.out.2.2.2.2.2.2.2.2.2.2.1.below hb (Nat.le_refl _)) (And.intro (G16.out.2.2.2.2.2.2.2.2.2.2.2.1.below hb (Nat.le_refl _)) (And.intro (G16.out.2.2.2.2.2.2.2.2.2.2.2.2.1.below hb (Nat.le_refl _)) (And.intro (G16.out.2.2.2.2.2.2.2.2.2.2.2.2.2.1.below hb (Nat.le_refl _)) (And.intro (G16.out.2.2.2.2.2.2.2.2.2.2.2.2.2.2.1.below hb (Nat.le_refl _)) (And.intro (G16.out.2.2.2.2.2.2.2.2.2.2.2.2.2.2.2.1.below hb (Nat.le_refl _)) (And.intro ((hb.block _ (lt_of_block G16.out.2.2.2.2.2.2.2.2.2.2.2.2.2.2.2.2.1)).trans G16.out.2.2.2.2.2.2.2.2.2.2.2.2.2.2.2.2.1) (And.intro (G16.out.2.2.2.2.2.2.2.2.2.2.2.2.2.2.2.2.2.below hb (Nat.le_refl _)) hxd))))))))))))))))))
      clear G16
      clear hxa hba hxd hb
      go_wp2
      (try rw [hbx2]); (try rw [hwa2]); (try rw [hwe2])
      clear m0 m1 fm0 fm1 hwa2 hwe2
      go_loopw [35] (fun s35 wl => ∃ j : Nat, j ≤ N ∧ s35 = .int .i64 j ∧ Hid (Below we2.heap.size we2 wl)) (fun s35 _ => N - (Go.RowKit.intOf s35).toNat)
      case atStart => exact ⟨0, by omega, rfl, Lib.hid (Below.refl _ _)⟩
      case round =>
        obtain ⟨j, hj, rfl, HB⟩ := hrel
        by_cases hlt : j < N
        · obtain ⟨p, hp⟩ : ∃ p, ps[j]? = some p := ⟨_, List.getElem?_eq_getElem (by rw [G17.out.2.1.len]; exact hlt)⟩
          obtain ⟨ad, hok, rfl, hadl, hload, d0, d1⟩ := (G17.out.2.1.below HB.out (Nat.le_refl _)).get' hp
          obtain ⟨pe, PAd, pn, pc, pl⟩ := p
          simp only at d0 d1
          have hi1 : (0 : Int) ≤ (j : Int) := by omega
          have hi2 : (j : Int) < (N : Int) := by omega
          have hw1 : IntKind.i64.wrap ((j : Int) + 1) = (j : Int) + 1 := IntWalk.i64_in _ (by omega)
          obtain ⟨qr, hqr⟩ : ∃ q, rightB to ⟨pe, pl⟩ = q := ⟨_, rfl⟩
          obtain ⟨qi, hqi⟩ : ∃ q, idxP fr pl = q := ⟨_, rfl⟩
          have HX := Lib.hid (And.intro hok.rd (And.intro hok.small (And.intro hqr (And.intro hqi hlt))))
          clear hok hqr hqi hlt hadl hload hp
          go_wp2
          refine wp_region_held_drew (S := fun u => Below wr.heap.size wr u) (by kernel_rfl) ((Below.refl _ _).drew) (fun hHeld => ?_)
          refine wpAnyH_take (i := 0) (oi := ⟨some 204, _, _, _, _, _⟩) (v := ?_) rfl (by kernel_rfl) (by kernel_rfl) (by kernel_rfl) (fun _ _ _ h => h) (Or.inl ⟨by rfl, ?_⟩) (by assumption) ?_
          rotate_left
          · intro w hSw
            (try dsimp only at hSw)
            go_simp
            all_goals (with_reducible rfl)
          try simp only [Act.put, List.setIfInBounds_toArray, List.set_cons_zero, List.set_cons_succ]
          refine wpAnyH_take (i := 1) (oi := ⟨some 205, _, _, _, _, _⟩) (v := ?_) rfl (by kernel_rfl) (by kernel_rfl) (by kernel_rfl) (fun _ _ _ h => h) (Or.inl ⟨by rfl, ?_⟩) (by assumption) ?_
          rotate_left
          · intro w hSw
            (try dsimp only at hSw)
            go_simp
            all_goals (with_reducible rfl)
          try simp only [Act.put, List.setIfInBounds_toArray, List.set_cons_zero, List.set_cons_succ]
          refine wpAnyH_take (i := 2) (oi := ⟨some 206, _, _, _, _, _⟩) (v := ?_) rfl (by kernel_rfl) (by kernel_rfl) (by kernel_rfl) (fun _ _ _ h => h) (Or.inl ⟨by rfl, ?_⟩) (by assumption) ?_
          rotate_left
          · intro w hSw
            (try dsimp only at hSw)
            go_simp
            all_goals (with_reducible rfl)
          try simp only [Act.put, List.setIfInBounds_toArray, List.set_cons_zero, List.set_cons_succ]
          refine wpAnyH_take (i := 3) (oi := ⟨some 207, _, _, _, _, _⟩) (v := ?_) rfl (by kernel_rfl) (by kernel_rfl) (by kernel_rfl) (fun _ _ _ h => h) (Or.inl ⟨by rfl, ?_⟩) (by assumption) ?_
          rotate_left
          · intro w hSw
            have hl0 := (hSw.cell (block_lt_of_cell d0)).trans d0
            have hl1 := (hSw.cell (block_lt_of_cell d1)).trans d1
            go_simp
            all_goals (with_reducible rfl)
          try simp only [Act.put, List.setIfInBounds_toArray, List.set_cons_zero, List.set_cons_succ]
          refine wpAnyH_take (i := 4) (oi := ⟨some 208, _, _, _, _, _⟩) (v := ?_) rfl (by kernel_rfl) (by kernel_rfl) (by kernel_rfl) (fun _ _ _ h => h) (Or.inl ⟨by rfl, ?_⟩) (by assumption) ?_
          rotate_left
          · intro w hSw
            (try dsimp only at hSw)
            go_simp
            all_goals (with_reducible rfl)
          try simp only [Act.put, List.setIfInBounds_toArray, List.set_cons_zero, List.set_cons_succ]
          refine wpAnyH_take (i := 6) (oi := ⟨some 210, _, _, _, _, _⟩) (v := ?_) rfl (by kernel_rfl) (by kernel_rfl) (by kernel_rfl) (fun _ _ _ h => h) (Or.inl ⟨by rfl, ?_⟩) (by assumption) ?_
          rotate_left
          · intro w hSw
            (try dsimp only at hSw)
            go_simp
            all_goals (with_reducible rfl)
          try simp only [Act.put, List.setIfInBounds_toArray, List.set_cons_zero, List.set_cons_succ]
          refine wpAnyH_take (i := 7) (oi := ⟨some 211, _, _, _, _, _⟩) (v := ?_) rfl (by kernel_rfl) (by kernel_rfl) (by kernel_rfl) (fun _ _ _ h => h) (Or.inl ⟨by rfl, ?_⟩) (by assumption) ?_
          rotate_left
          · intro w hSw
            (try dsimp only at hSw)
            go_simp
            all_goals (with_reducible rfl)
          try simp only [Act.put, List.setIfInBounds_toArray, List.set_cons_zero, List.set_cons_succ]
          refine wpAnyH_take (i := 8) (oi := ⟨some 212, _, _, _, _, _⟩) (v := ?_) rfl (by kernel_rfl) (by kernel_rfl) (by kernel_rfl) (fun _ _ _ h => h) (Or.inl ⟨by rfl, ?_⟩) (by assumption) ?_
          rotate_left
          · intro w hSw
            (try dsimp only at hSw)
            go_simp
            all_goals (with_reducible rfl)
          try simp only [Act.put, List.setIfInBounds_toArray, List.set_cons_zero, List.set_cons_succ]
          refine wpAnyH_take (i := 9) (oi := ⟨some 213, _, _, _, _, _⟩) (v := ?_) rfl (by kernel_rfl) (by kernel_rfl) (by kernel_rfl) (fun _ _ _ h => h) (Or.inl ⟨by rfl, ?_⟩) (by assumption) ?_
          rotate_left
          · intro w hSw
            have hl0 := (hSw.cell (block_lt_of_cell d0)).trans d0
            have hl1 := (hSw.cell (block_lt_of_cell d1)).trans d1
            go_simp
            all_goals (with_reducible rfl)
          try simp only [Act.put, List.setIfInBounds_toArray, List.set_cons_zero, List.set_cons_succ]
          refine wpAnyH_take (i := 10) (oi := ⟨some 214, _, _, _, _, _⟩) (v := ?_) rfl (by kernel_rfl) (by kernel_rfl) (by kernel_rfl) (fun _ _ _ h => h) (Or.inl ⟨by rfl, ?_⟩) (by assumption) ?_
          rotate_left
          · intro w hSw
            (try dsimp only at hSw)
            go_simp
            all_goals (with_reducible rfl)
          try simp only [Act.put, List.setIfInBounds_toArray, List.set_cons_zero, List.set_cons_succ]
          refine wpAnyH_ready (rs := [5]) (by kernel_rfl) (by simp) (AllReadyH.cons (o := ⟨some 209, _, _, _, _, _⟩) rfl (fun K hK => ?_) AllReadyH.nil)
          go_simp
          refine (right_is _ to pe (HX.out.1.below hHeld (Nat.le_refl _)) HX.out.2.1 HX.out.2.2.1).mono ?_
          rintro e u8 ⟨rfl, hb8⟩
          refine hK.out _ _ (hHeld.trans (hb8.mono hHeld.size)) (fun hHeld => ?_)
          clear hK K
          try simp only [Act.put, List.setIfInBounds_toArray, List.set_cons_zero, List.set_cons_succ]
          refine wpAnyH_ready (rs := [11]) (by kernel_rfl) (by simp) (AllReadyH.cons (o := ⟨some 215, _, _, _, _, _⟩) rfl (fun K hK => ?_) AllReadyH.nil)
          go_simp
          refine (rright_is _ to pe (HX.out.1.below hHeld (Nat.le_refl _)) HX.out.2.1 HX.out.2.2.1).mono ?_
          rintro e u8 ⟨rfl, hb8⟩
          refine hK.out _ _ (hHeld.trans (hb8.mono hHeld.size)) (fun hHeld => ?_)
          clear hK K
          try simp only [Act.put, List.setIfInBounds_toArray, List.set_cons_zero, List.set_cons_succ]
          refine wpAnyH_take (i := 12) (oi := ⟨some 216, _, _, _, _, _⟩) (v := ?_) rfl (by kernel_rfl) (by kernel_rfl) (by kernel_rfl) (fun _ _ _ h => h) (Or.inl ⟨by rfl, ?_⟩) (by assumption) ?_
          rotate_left
          · intro w hSw
            (try dsimp only at hSw)
            go_simp
            all_goals (with_reducible rfl)
          try simp only [Act.put, List.setIfInBounds_toArray, List.set_cons_zero, List.set_cons_succ]
          refine wpAnyH_take (i := 13) (oi := ⟨some 217, _, _, _, _, _⟩) (v := ?_) rfl (by kernel_rfl) (by kernel_rfl) (by kernel_rfl) (fun _ _ _ h => h) (Or.inl ⟨by rfl, ?_⟩) (by assumption) ?_
          rotate_left
          · intro w hSw
            (try dsimp only at hSw)
            go_simp
            all_goals (with_reducible rfl)
          try simp only [Act.put, List.setIfInBounds_toArray, List.set_cons_zero, List.set_cons_succ]
          refine wpAnyH_take (i := 14) (oi := ⟨some 218, _, _, _, _, _⟩) (v := ?_) rfl (by kernel_rfl) (by kernel_rfl) (by kernel_rfl) (fun _ _ _ h => h) (Or.inl ⟨by rfl, ?_⟩) (by assumption) ?_
          rotate_left
          · intro w hSw
            (try dsimp only at hSw)
            go_simp
            all_goals (with_reducible rfl)
          try simp only [Act.put, List.setIfInBounds_toArray, List.set_cons_zero, List.set_cons_succ]
          refine wpAnyH_take (i := 15) (oi := ⟨some 219, _, _, _, _, _⟩) (v := ?_) rfl (by kernel_rfl) (by kernel_rfl) (by kernel_rfl) (fun _ _ _ h => h) (Or.inl ⟨by rfl, ?_⟩) (by assumption) ?_
          rotate_left
          · intro w hSw
            (try dsimp only at hSw)
            go_simp
            all_goals (with_reducible rfl)
          try simp only [Act.put, List.setIfInBounds_toArray, List.set_cons_zero, List.set_cons_succ]
          refine wpAnyH_take (i := 16) (oi := ⟨some 220, _, _, _, _, _⟩) (v := ?_) rfl (by kernel_rfl) (by kernel_rfl) (by kernel_rfl) (fun _ _ _ h => h) (Or.inl ⟨by rfl, ?_⟩) (by assumption) ?_
          rotate_left
          · intro w hSw
            (try dsimp only at hSw)
            go_simp
            all_goals (with_reducible rfl)
          try simp only [Act.put, List.setIfInBounds_toArray, List.set_cons_zero, List.set_cons_succ]
          refine wpAnyH_take (i := 17) (oi := ⟨some 221, _, _, _, _, _⟩) (v := ?_) rfl (by kernel_rfl) (by kernel_rfl) (by kernel_rfl) (fun _ _ _ h => h) (Or.inl ⟨by rfl, ?_⟩) (by assumption) ?_
          rotate_left
          · intro w hSw
            have hl0 := (hSw.cell (block_lt_of_cell d0)).trans d0
            have hl1 := (hSw.cell (block_lt_of_cell d1)).trans d1
            go_simp
            all_goals (with_reducible rfl)
          try simp only [Act.put, List.setIfInBounds_toArray, List.set_cons_zero, List.set_cons_succ]
          refine wpAnyH_take (i := 18) (oi := ⟨some 222, _, _, _, _, _⟩) (v := ?_) rfl (by kernel_rfl) (by kernel_rfl) (by kernel_rfl) (fun _ _ _ h => h) (Or.inl ⟨by rfl, ?_⟩) (by assumption) ?_
          rotate_left
          · intro w hSw
            (try dsimp only at hSw)
            go_simp
            all_goals (with_reducible rfl)
          try simp only [Act.put, List.setIfInBounds_toArray, List.set_cons_zero, List.set_cons_succ]
          refine wpAnyH_take (i := 20) (oi := ⟨some 224, _, _, _, _, _⟩) (v := ?_) rfl (by kernel_rfl) (by kernel_rfl) (by kernel_rfl) (fun _ _ _ h => h) (Or.inl ⟨by rfl, ?_⟩) (by assumption) ?_
          rotate_left
          · intro w hSw
            (try dsimp only at hSw)
            go_simp
            all_goals (with_reducible rfl)
          try simp only [Act.put, List.setIfInBounds_toArray, List.set_cons_zero, List.set_cons_succ]
          refine wpAnyH_take (i := 21) (oi := ⟨some 225, _, _, _, _, _⟩) (v := ?_) rfl (by kernel_rfl) (by kernel_rfl) (by kernel_rfl) (fun _ _ _ h => h) (Or.inl ⟨by rfl, ?_⟩) (by assumption) ?_
          rotate_left
          · intro w hSw
            (try dsimp only at hSw)
            go_simp
            all_goals (with_reducible rfl)
          try simp only [Act.put, List.setIfInBounds_toArray, List.set_cons_zero, List.set_cons_succ]
          refine wpAnyH_take (i := 22) (oi := ⟨some 226, _, _, _, _, _⟩) (v := ?_) rfl (by kernel_rfl) (by kernel_rfl) (by kernel_rfl) (fun _ _ _ h => h) (Or.inl ⟨by rfl, ?_⟩) (by assumption) ?_
          rotate_left
          · intro w hSw
            (try dsimp only at hSw)
            go_simp
            all_goals (with_reducible rfl)
          try simp only [Act.put, List.setIfInBounds_toArray, List.set_cons_zero, List.set_cons_succ]
          refine wpAnyH_take (i := 23) (oi := ⟨some 227, _, _, _, _, _⟩) (v := ?_) rfl (by kernel_rfl) (by kernel_rfl) (by kernel_rfl) (fun _ _ _ h => h) (Or.inl ⟨by rfl, ?_⟩) (by assumption) ?_
          rotate_left
          · intro w hSw
            have hl0 := (hSw.cell (block_lt_of_cell d0)).trans d0
            have hl1 := (hSw.cell (block_lt_of_cell d1)).trans d1
            go_simp
            all_goals (with_reducible rfl)
          try simp only [Act.put, List.setIfInBounds_toArray, List.set_cons_zero, List.set_cons_succ]
          refine wpAnyH_take (i := 24) (oi := ⟨some 228, _, _, _, _, _⟩) (v := ?_) rfl (by kernel_rfl) (by kernel_rfl) (by kernel_rfl) (fun _ _ _ h => h) (Or.inl ⟨by rfl, ?_⟩) (by assumption) ?_
          rotate_left
          · intro w hSw
            (try dsimp only at hSw)
            go_simp
            all_goals (with_reducible rfl)
          try simp only [Act.put, List.setIfInBounds_toArray, List.set_cons_zero, List.set_cons_succ]
          refine wpAnyH_ready (rs := [19]) (by kernel_rfl) (by simp) (AllReadyH.cons (o := ⟨some 223, _, _, _, _, _⟩) rfl (fun K hK => ?_) AllReadyH.nil)
          go_simp
          refine (index_is _ pe (HX.out.1.below hHeld (Nat.le_refl _)) HX.out.2.1 fr HX.out.2.2.2.1).mono ?_
          rintro e u8 ⟨rfl, hb8⟩
          refine hK.out _ _ (hHeld.trans (hb8.mono hHeld.size)) (fun hHeld => ?_)
          clear hK K
          try simp only [Act.put, List.setIfInBounds_toArray, List.set_cons_zero, List.set_cons_succ]
          refine wpAnyH_ready (rs := [25]) (by kernel_rfl) (by simp) (AllReadyH.cons (o := ⟨some 229, _, _, _, _, _⟩) rfl (fun K hK => ?_) AllReadyH.nil)
          go_simp
          refine (rindex_is _ pe (HX.out.1.below hHeld (Nat.le_refl _)) HX.out.2.1 fr HX.out.2.2.2.1).mono ?_
          rintro e u8 ⟨rfl, hb8⟩
          refine hK.out _ _ (hHeld.trans (hb8.mono hHeld.size)) (fun hHeld => ?_)
          clear hK K
          try simp only [Act.put, List.setIfInBounds_toArray, List.set_cons_zero, List.set_cons_succ]
          refine wpAnyH_take (i := 26) (oi := ⟨some 230, _, _, _, _, _⟩) (v := ?_) rfl (by kernel_rfl) (by kernel_rfl) (by kernel_rfl) (fun _ _ _ h => h) (Or.inl ⟨by rfl, ?_⟩) (by assumption) ?_
          rotate_left
          · intro w hSw
            (try dsimp only at hSw)
            go_simp
            all_goals (with_reducible rfl)
          try simp only [Act.put, List.setIfInBounds_toArray, List.set_cons_zero, List.set_cons_succ]
          refine wpAnyH_take (i := 27) (oi := ⟨some 231, _, _, _, _, _⟩) (v := ?_) rfl (by kernel_rfl) (by kernel_rfl) (by kernel_rfl) (fun _ _ _ h => h) (Or.inl ⟨by rfl, ?_⟩) (by assumption) ?_
          rotate_left
          · intro w hSw
            (try dsimp only at hSw)
            go_simp
            all_goals (with_reducible rfl)
          try simp only [Act.put, List.setIfInBounds_toArray, List.set_cons_zero, List.set_cons_succ]
          refine wpAnyH_done (by kernel_rfl) ?_ _
          go_wp2
          go_roundw
          case rel => exact ⟨j + 1, by have := HX.out.2.2.2.2; omega, by go_num, Lib.hid (HB.out.trans (hHeld.mono HB.out.size))⟩
          case measure => have := HX.out.2.2.2.2; simp [Go.RowKit.intOf]; omega
        · obtain rfl : j = N := by omega
          clear hlt
          have hbv := (HB.out.block _ (lt_of_block G17.out.2.2.2.2.2.2.2.2.2.2.2.2.2.2.2.2.1)).trans G17.out.2.2.2.2.2.2.2.2.2.2.2.2.2.2.2.2.1
          have hbw := (HB.out.block _ (lt_of_block G17.out.2.2.2.2.2.2.2.2.2.2.2.2.2.2.2.2.2.2)).trans G17.out.2.2.2.2.2.2.2.2.2.2.2.2.2.2.2.2.2.2
          have hv := G17.out.2.2.2.2.2.2.2.2.2.2.2.2.2.2.2.1.below HB.out (Nat.le_refl _)
          have hw := G17.out.2.2.2.2.2.2.2.2.2.2.2.2.2.2.2.2.2.1.below HB.out (Nat.le_refl _)
          have hBB := G17.out.1.trans (HB.out.mono G17.out.1.size)
          obtain ⟨⟨m0, m1⟩, _⟩ := two30 hbv
          obtain ⟨⟨n0, n1⟩, _⟩ := two30 hbw
          obtain ⟨u1, hu1⟩ : ∃ v, wr.alloc (.cells #[.int .i64 oe, .slice Xv on cv] 30) = v := ⟨_, rfl⟩
          obtain ⟨bu1, xu1⟩ := box_new hu1
          obtain ⟨⟨o0, o1⟩, _⟩ := two30 ((bu1.block _ (lt_of_block hbw)).trans hbw)
          obtain ⟨u2, hu2⟩ : ∃ v, u1.alloc (.cells #[.int .i64 oe, .slice Xw mw cw] 30) = v := ⟨_, rfl⟩
          obtain ⟨bu2, xu2⟩ := box_new hu2
          have hB12 := bu1.trans (bu2.mono bu1.size)
          have hon2 : on ≤ 1000000 := by have h1 := hv.len; have h2 := hw.len; rw [List.length_map] at h1 h2; omega
          have HU := Lib.hid (And.intro ((bu2.block _ (lt_of_block xu1)).trans xu1) (And.intro xu2 (And.intro (hv.below hB12 (Nat.le_refl _)) (And.intro (hw.below hB12 (Nat.le_refl _)) (hBB.trans (hB12.mono hBB.size))))))
          clear hbv hbw hv hw hBB xu1 xu2 bu1 bu2 hB12
          go_wp2_with fail
          (try rw [hu1]); (try rw [hu2])
          refine (samePl_is u2 (PL.one (p := ⟨oe, Xv, on, cv, ol⟩) HU.out.1 ⟨HU.out.2.2.1, hon2⟩) (PL.one (p := ⟨oe, Xw, mw, cw, ol⟩) HU.out.2.1 ⟨HU.out.2.2.2.1, hmw⟩) (by omega) (q := true) (by simp [Pc.pl])).mono ?_
          rintro e u3 ⟨rfl, d, hw⟩
          have hb : Below u2.heap.size u2 u3 := by rw [hw]; exact below_drewN (Below.refl _ _) _
          have HV := Lib.hid (HU.out.2.2.2.2.trans (hb.mono HU.out.2.2.2.2.size))
          clear hw hb HU m0 m1 n0 n1 o0 o1 hu1 hu2
          go_wp2_with fail
          refine (awake_is _).mono ?_
          rintro e u4 ⟨rfl, hb4⟩
          go_wp2
          go_ret
          exact ⟨rfl, HV.out.trans (hb4.mono HV.out.size)⟩
end
end Go.Proofs.Ytbilbfjmfaignaa
