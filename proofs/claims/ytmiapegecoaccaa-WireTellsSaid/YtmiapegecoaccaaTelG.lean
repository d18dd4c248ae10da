/- The reference's GetTell. -/
import Derived.Test.YtmiapegecoaccaaTelF
namespace Go.Proofs.Ytmiapegecoaccaa
open Go.RowKit Go.Coop
set_option maxRecDepth 100000
theorem rn_at {b : List UInt8} : ∀ {k x : Nat} {p : List Nat × Nat}, rn b k x = some p → x ≤ b.length → p.2 ≤ b.length
  | 0, x, p, h, hx => by
    simp only [rn, Option.some.injEq] at h
    subst h
    exact hx
  | k + 1, x, p, h, hx => by
    unfold rn at h
    split at h
    · rw [Option.map_eq_some_iff] at h
      obtain ⟨q, hq, rfl⟩ := h
      have h2 := rn_at (k := k) (p := q) hq (getU_ok b _).at_
      exact h2
    · cases h
theorem four_of {l : List Nat} (h : l.length = 4) : ∃ a b c d, l = [a, b, c, d] := by
  match l, h with
  | [a, b, c, d], _ => exact ⟨a, b, c, d, rfl⟩
theorem NumAt.four {u : World} {g : Nat} {a b c d : Nat} (h : NumAt u g [a, b, c, d]) : u.cell? ⟨g, 0, none⟩ = some (.int .i64 (a : Int)) ∧ u.cell? ⟨g, 1, none⟩ = some (.int .i64 (b : Int)) ∧ u.cell? ⟨g, 2, none⟩ = some (.int .i64 (c : Int)) ∧ u.cell? ⟨g, 3, none⟩ = some (.int .i64 (d : Int)) :=
  ⟨h.2 0 a rfl, h.2 1 b rfl, h.2 2 c rfl, h.2 3 d rfl⟩
theorem NumAt.but {u u' : World} {g : Nat} {l : List Nat} {gs : List Nat} (h : NumAt u g l) (hb : But gs u u') (hg : g ∉ gs) : NumAt u' g l :=
  ⟨Nat.lt_of_lt_of_le h.1 hb.size, fun k x hk => (World.cell?_of_block (by exact hb.block g h.1 hg)).trans (h.2 k x hk)⟩
def SN (w : World) (g : Nat) (l : List Nat) (u : World) : Prop := Below w.heap.size w u ∧ NumAt u g l
theorem SN.step {w u u' : World} {g : Nat} {l : List Nat} (h : SN w g l u) (hb : Below u.heap.size u u') : SN w g l u' := ⟨h.1.trans (hb.mono h.1.size), h.2.below hb (Nat.le_refl _)⟩
theorem SN.drew {w u : World} {g : Nat} {l : List Nat} (h : SN w g l u) : SN w g l u.drew := ⟨h.1.drew, h.2⟩
/-- a tell whose lists are read, and an error -/
def RGotT (w : World) (r : TelP × Int) (e : Ending) (w' : World) : Prop := ∃ I m mc A n c, e = .returned (.tuple #[telV r.1 I m mc A n c, .int .i64 r.2]) ∧ IL w' I m r.1.infos ∧ m ≤ 50 ∧ Rd w' A n r.1.bytes ∧ n ≤ 1000000 ∧ Below w.heap.size w w'
theorem rgotT_no {w w' : World} (x : Int) (h : Below w.heap.size w w') : RGotT w (zeroT, x) (.returned (.tuple #[.agg #[.int .i64 0, .int .i64 0, .int .u8 0, .int .i64 0, .slice none 0 0, .slice none 0 0, .int .i64 0], .int .i64 x])) w' := ⟨none, 0, 0, none, 0, 0, rfl, IL.nil _ _, by omega, Rd.nil _ _, by omega, h⟩
theorem IL.but {gs : List Nat} {w w' : World} {A : Option Addr} {n : Nat} {L : List InfP} (h : IL w A n L) (hb : But gs w w') (hA : ∀ j, A.map (·.block) = some j → j ∉ gs) : IL w' A n L :=
  ⟨h.len, fun i p hi => by
    obtain ⟨ad, h2, h3, h4⟩ := h.at_ i p hi
    subst h2
    have hn := hA ad.block rfl
    exact ⟨ad, rfl, Nat.lt_of_lt_of_le h3 hb.size, fun j v hj => (World.cell?_of_block (by rw [addr_add_block]; exact hb.block _ h3 hn)).trans (h4 j v hj)⟩⟩
/-- what the loop has -/
def TL (w4 : World) (q _gr : Nat) (a b c d e : Nat) (body : List UInt8) (k5 x : Nat) (I : Option Addr) (i mc x' : Nat) (L : List InfP) (u : World) : Prop :=
  Below w4.heap.size w4 u ∧ Row u q #[.int .i64 (a : Int), .int .i64 (b : Int), .int .u8 (c : Int), .int .i64 (d : Int), .slice I i mc, .slice none 0 0, .int .i64 (e : Int)] 34 ∧ OwnK u w4.heap.size 30 4 I i mc (ics L) ∧ rI body k5 x = (rI body (k5 - i) x').map (fun p => (L ++ p.1, p.2)) ∧ L.length = i
section
variable (w : World)
set_option maxHeartbeats 8000000 in
theorem rgetT_is {ad : Addr} {t : Nat → Nat} (hT : TabAt w ad t) (had : ad.block < w.heap.size) {X : Option Addr} {xn xc : Nat} {bs : List UInt8} (hr : Rd w X xn bs) (hxn : xn ≤ 1000000) (hxc : xn ≤ xc) :
    Calls Try.prog 26 #[.pointer (some ad), .slice X xn xc] w (RGotT w (getT t bs)) := by
  obtain ⟨gr, hgr⟩ : ∃ g, w.heap.size = g := ⟨_, rfl⟩
  obtain ⟨w1, hw1⟩ : ∃ x, w.alloc (.cells #[.int .i64 0, .int .i64 0, .int .u8 0, .int .i64 0, .slice none 0 0, .slice none 0 0, .int .i64 0] 34) = x := ⟨_, rfl⟩
  obtain ⟨hb1, hx1⟩ := box_new hw1
  rw [hgr] at hx1
  have HB := Lib.hid (And.intro hb1 hx1)
  have HR := Lib.hid (And.intro (hr.below hb1 (Nat.le_refl _)) (And.intro (hT.below had hb1) (And.intro hr.len (show ad.block < w1.heap.size from Nat.lt_of_lt_of_le had hb1.size))))
  have hz34 := (zero_of_info zero34).1
  clear hb1 hx1 hr hT had
  go_enter Try.func26, Try.ntmps26
  go_wp2_with fail
  (try rw [hgr])
  (try rw [hw1])
  refine (runseal_any ad t X xn xc bs w1 HR.out.2.1 HR.out.2.2.2 HR.out.1 (by omega) hxc).mono ?_
  rintro e w2 ⟨A2, n2, c2, rfl, hr2, hc2, hb2⟩
  obtain ⟨⟨body, E⟩, hu⟩ : ∃ r, unsealed (crc t (bs.take (xn - 4))) bs = r := ⟨_, rfl⟩
  have hul := unsealed_len (crc t (bs.take (xn - 4))) bs
  rw [hu] at hr2 hul ⊢
  simp only at hr2 ⊢
  have hn2 : n2 ≤ 1000000 := by rw [← hr2.len]; have := HR.out.2.2.1; simp only at hul ⊢; omega
  have hfn : getT t bs = if E = 0 then orZ zeroT (parseT body) else (zeroT, (E : Int)) := by
    unfold getT unsl
    rw [HR.out.2.2.1, hu]
  have hbl := hr2.len
  (try simp only at hbl)
  replace HB := Lib.hid (((((Bk.start w).step HB.out.1).row HB.out.2).step hb2).add hr2)
  have HW2 := Lib.hid (show gr < w2.heap.size from lt_of_block (HB.out.2.rows _ (.head _)))
  clear hb2 hr2 hu hul hw1
  by_cases hE0 : E = 0
  · skip
    subst hE0
    rw [if_pos rfl] at hfn
    by_cases h0 : n2 = 0
    · have hs : (n2 : Int) < 1 := by omega
      have hb0 : body = [] := List.eq_nil_of_length_eq_zero (by omega)
      have hrn : rn body 6 n2 = none := by rw [hb0, h0]; decide +kernel
      have hpn : parseT body = none := by
        rw [← refT_eq, refT_of, hbl, show min 1 n2 = n2 by omega, hrn]
        rfl
      clear h0 hb0
      go_wp2_with fail
      refine (rnums_6 w2 (n := n2) (HB.out.2.reads _ (.head _)) hn2 n2 (Nat.le_refl _)).mono ?_
      rintro e w3 ⟨hb3, hn3⟩
      rw [hrn] at hn3
      replace HB := Lib.hid (HB.out.step hb3)
      clear hrn hb3 hs
      rcases hn3 with ⟨-, rfl⟩ | ⟨p, A3, c3, hp, _⟩
      · rw [hpn] at hfn
        have HFN := Lib.hid (show getT t bs = (zeroT, 110) from hfn)
        clear hfn hpn
        obtain ⟨g0, g1, g2, g3', g4, g5, g6'⟩ := arr7 (HB.out.2.rows _ (.head _))
        obtain ⟨r0, r1, r2, r3, r4, r5, r6⟩ := fro7 (HB.out.2.rows _ (.head _))
        go_wp2
        have hE := row7 (v0 := .int .i64 0) (v1 := .int .i64 0) (v2 := .int .u8 0) (v3 := .int .i64 0) (v4 := .slice none 0 0) (v5 := .slice none 0 0) (v6 := .int .i64 0) (HB.out.2.rows _ (.head _))
        refine bodyPost_ret (v := .tuple #[.agg #[.int .i64 0, .int .i64 0, .int .u8 0, .int .i64 0, .slice none 0 0, .slice none 0 0, .int .i64 0], .int .i64 110]) ?_ rfl ?_
        · rw [results_cell_tmp rfl]
          simp [asAddr, Result.andThen, load34 hE]
        · rw [HFN.out]
          exact rgotT_no _ (HB.out.1.trans (but7.below HB.out.1.size (fun i hi => by have := List.mem_singleton.1 hi; omega)))
      · cases hp
    have hs : (1 : Int) ≤ (n2 : Int) := by omega
    have hm1 : min 1 n2 = 1 := by omega
    have hn21 : 1 ≤ n2 := by omega
    clear h0
    go_wp2_with fail
    refine (rnums_61 w2 (n := n2) (HB.out.2.reads _ (.head _)) hn2 (by omega)).mono ?_
    rintro e w3 ⟨hb3, hn3⟩
    obtain ⟨rr, hrn⟩ : ∃ rr, rn body 6 1 = rr := ⟨_, rfl⟩
    rw [hrn] at hn3
    have hra : parseT body = refTof body rr := by
      rw [← refT_eq, refT_of, hbl, hm1, hrn]
    replace HB := Lib.hid (HB.out.step hb3)
    have hl6 : ∀ p, rr = some p → p.1.length = 6 ∧ p.2 ≤ n2 := fun p hp => ⟨rn_len (hrn.trans hp), hbl ▸ rn_at (hrn.trans hp) (by omega)⟩
    have HS3 := Lib.hid hb3.size
    clear hrn hb3 hs hm1 hn21
    rcases hn3 with ⟨rfl, rfl⟩ | ⟨⟨l, x⟩, A3, c3, rfl, rfl, ho3, hx3⟩
    · skip
      simp only [refTof] at hra
      rw [hra] at hfn
      have HFN := Lib.hid (show getT t bs = (zeroT, 110) from hfn)
      clear hfn hra
      obtain ⟨g0, g1, g2, g3', g4, g5, g6'⟩ := arr7 (HB.out.2.rows _ (.head _))
      obtain ⟨r0, r1, r2, r3, r4, r5, r6⟩ := fro7 (HB.out.2.rows _ (.head _))
      go_wp2
      have hE := row7 (v0 := .int .i64 0) (v1 := .int .i64 0) (v2 := .int .u8 0) (v3 := .int .i64 0) (v4 := .slice none 0 0) (v5 := .slice none 0 0) (v6 := .int .i64 0) (HB.out.2.rows _ (.head _))
      refine bodyPost_ret (v := .tuple #[.agg #[.int .i64 0, .int .i64 0, .int .u8 0, .int .i64 0, .slice none 0 0, .slice none 0 0, .int .i64 0], .int .i64 110]) ?_ rfl ?_
      · rw [results_cell_tmp rfl]
        simp [asAddr, Result.andThen, load34 hE]
      · rw [HFN.out]
        exact rgotT_no _ (HB.out.1.trans (but7.below HB.out.1.size (fun i hi => by have := List.mem_singleton.1 hi; omega)))
    · skip
      simp only [refTof] at hra ho3
      obtain ⟨hl6, hxn2⟩ := hl6 _ rfl
      obtain ⟨a, b, cc, d, e, f, rfl⟩ := six_of hl6
      simp only [List.length_cons, List.length_nil, Nat.reduceAdd] at ho3 ⊢
      obtain ⟨g3, rfl, hg3, hnum⟩ := num_of ho3 (by omega)
      have HN := Lib.hid hnum
      clear ho3 hnum hl6 hg3 hx3
      simp only [List.getD_cons_zero, List.getD_cons_succ] at hra hxn2
      obtain ⟨m0, m1, m2, m3, m4, m5⟩ := HN.out.six
      have hx0 : decide ((x : Int) < 0) = false := by simp
      by_cases h9 : 9 < cc
      · skip
        rw [if_pos (Or.inl h9)] at hra
        have h9' : decide ((9 : Int) < (cc : Int)) = true := by simp; omega
        rw [hra] at hfn
        have HFN := Lib.hid (show getT t bs = (zeroT, 110) from hfn)
        clear hfn hra h9
        obtain ⟨g0, g1, g2, g3', g4, g5, g6'⟩ := arr7 (HB.out.2.rows _ (.head _))
        obtain ⟨r0, r1, r2, r3, r4, r5, r6⟩ := fro7 (HB.out.2.rows _ (.head _))
        go_wp2
        have hE := row7 (v0 := .int .i64 0) (v1 := .int .i64 0) (v2 := .int .u8 0) (v3 := .int .i64 0) (v4 := .slice none 0 0) (v5 := .slice none 0 0) (v6 := .int .i64 0) (HB.out.2.rows _ (.head _))
        refine bodyPost_ret (v := .tuple #[.agg #[.int .i64 0, .int .i64 0, .int .u8 0, .int .i64 0, .slice none 0 0, .slice none 0 0, .int .i64 0], .int .i64 110]) ?_ rfl ?_
        · rw [results_cell_tmp rfl]
          simp [asAddr, Result.andThen, load34 hE]
        · rw [HFN.out]
          exact rgotT_no _ (HB.out.1.trans (but7.below HB.out.1.size (fun i hi => by have := List.mem_singleton.1 hi; omega)))
      by_cases h50 : 50 < f
      · skip
        rw [if_pos (Or.inr h50)] at hra
        have h9' : decide ((9 : Int) < (cc : Int)) = false := by simp; omega
        have h50' : decide ((50 : Int) < (f : Int)) = true := by simp; omega
        rw [hra] at hfn
        have HFN := Lib.hid (show getT t bs = (zeroT, 110) from hfn)
        clear hfn hra h9 h50
        obtain ⟨g0, g1, g2, g3', g4, g5, g6'⟩ := arr7 (HB.out.2.rows _ (.head _))
        obtain ⟨r0, r1, r2, r3, r4, r5, r6⟩ := fro7 (HB.out.2.rows _ (.head _))
        go_wp2
        have hE := row7 (v0 := .int .i64 0) (v1 := .int .i64 0) (v2 := .int .u8 0) (v3 := .int .i64 0) (v4 := .slice none 0 0) (v5 := .slice none 0 0) (v6 := .int .i64 0) (HB.out.2.rows _ (.head _))
        refine bodyPost_ret (v := .tuple #[.agg #[.int .i64 0, .int .i64 0, .int .u8 0, .int .i64 0, .slice none 0 0, .slice none 0 0, .int .i64 0], .int .i64 110]) ?_ rfl ?_
        · rw [results_cell_tmp rfl]
          simp [asAddr, Result.andThen, load34 hE]
        · rw [HFN.out]
          exact rgotT_no _ (HB.out.1.trans (but7.below HB.out.1.size (fun i hi => by have := List.mem_singleton.1 hi; omega)))
      rw [if_neg (by omega)] at hra
      have h9' : decide ((9 : Int) < (cc : Int)) = false := by simp; omega
      have h50' : decide ((50 : Int) < (f : Int)) = false := by simp; omega
      have hw8 : IntKind.u8.wrap (cc : Int) = (cc : Int) := by rw [IntKind.wrap_u8]; omega
      have HRA := Lib.hid (And.intro hra hfn)
      have hf50 : f ≤ 50 := by omega
      clear hra hfn h9 h50
      go_wp2_with fail
      refine wp_region_held_drew (S := Bn w [(gr, #[.int .i64 0, .int .i64 0, .int .u8 0, .int .i64 0, .slice none 0 0, .slice none 0 0, .int .i64 0], 34)] [(A2, n2, body)] [] g3 [a, b, cc, d, e, f]) (by kernel_rfl) (Bn.drew ⟨HB.out, HN.out⟩) (fun hHeld => ?_)
      have H4 := Lib.hid (show Bn w [(gr, #[.int .i64 0, .int .i64 0, .int .u8 0, .int .i64 0, .slice none 0 0, .slice none 0 0, .int .i64 0], 34)] [(A2, n2, body)] [] g3 [a, b, cc, d, e, f] w3 from ⟨HB.out, HN.out⟩)
      clear HB HN m0 m1 m2 m3 m4 m5
      refine wpAnyH_take (i := 0) (oi := ⟨some 49, _, _, _, _, _⟩) (v := ?_) rfl (by kernel_rfl) (by kernel_rfl) (by kernel_rfl) (fun _ _ _ h => h) (Or.inl ⟨by rfl, ?_⟩) (by assumption) ?_
      rotate_left
      · intro w hSw
        (try dsimp only at hSw)
        go_simp
        all_goals (with_reducible rfl)
      try simp only [Act.put, List.setIfInBounds_toArray, List.set_cons_zero, List.set_cons_succ]
      refine wpAnyH_take (i := 1) (oi := ⟨some 50, _, _, _, _, _⟩) (v := ?_) rfl (by kernel_rfl) (by kernel_rfl) (by kernel_rfl) (fun _ _ _ h => h) (Or.inl ⟨by rfl, ?_⟩) (by assumption) ?_
      rotate_left
      · intro w hSw
        (try dsimp only at hSw)
        go_simp
        all_goals (with_reducible rfl)
      try simp only [Act.put, List.setIfInBounds_toArray, List.set_cons_zero, List.set_cons_succ]
      refine wpAnyH_take (i := 2) (oi := ⟨some 51, _, _, _, _, _⟩) (v := ?_) rfl (by kernel_rfl) (by kernel_rfl) (by kernel_rfl) (fun _ _ _ h => h) (Or.inl ⟨by rfl, ?_⟩) (by assumption) ?_
      rotate_left
      · intro w hSw
        obtain ⟨l0, l1, l2, l3, l4, l5⟩ := hSw.2.six
        go_simp
        all_goals (with_reducible rfl)
      try simp only [Act.put, List.setIfInBounds_toArray, List.set_cons_zero, List.set_cons_succ]
      refine wpAnyH_take (i := 3) (oi := ⟨some 52, _, _, _, _, _⟩) (v := ?_) rfl (by kernel_rfl) (by kernel_rfl) (by kernel_rfl) (fun _ _ _ h => h) (Or.inl ⟨by rfl, ?_⟩) (by assumption) ?_
      rotate_left
      · intro w hSw
        (try dsimp only at hSw)
        go_simp
        all_goals (with_reducible rfl)
      try simp only [Act.put, List.setIfInBounds_toArray, List.set_cons_zero, List.set_cons_succ]
      refine wpAnyH_take (i := 4) (oi := ⟨some 53, _, _, _, _, _⟩) (v := ?_) rfl (by kernel_rfl) (by kernel_rfl) (by kernel_rfl) (fun _ _ _ h => h) (Or.inl ⟨by rfl, ?_⟩) (by assumption) ?_
      rotate_left
      · intro w hSw
        (try dsimp only at hSw)
        go_simp
        all_goals (with_reducible rfl)
      try simp only [Act.put, List.setIfInBounds_toArray, List.set_cons_zero, List.set_cons_succ]
      refine wpAnyH_take (i := 5) (oi := ⟨some 54, _, _, _, _, _⟩) (v := ?_) rfl (by kernel_rfl) (by kernel_rfl) (by kernel_rfl) (fun _ _ _ h => h) (Or.inl ⟨by rfl, ?_⟩) (by assumption) ?_
      rotate_left
      · intro w hSw
        obtain ⟨l0, l1, l2, l3, l4, l5⟩ := hSw.2.six
        go_simp
        all_goals (with_reducible rfl)
      try simp only [Act.put, List.setIfInBounds_toArray, List.set_cons_zero, List.set_cons_succ]
      refine wpAnyH_take (i := 6) (oi := ⟨some 55, _, _, _, _, _⟩) (v := ?_) rfl (by kernel_rfl) (by kernel_rfl) (by kernel_rfl) (fun _ _ _ h => h) (Or.inl ⟨by rfl, ?_⟩) (by assumption) ?_
      rotate_left
      · intro w hSw
        (try dsimp only at hSw)
        go_simp
        all_goals (with_reducible rfl)
      try simp only [Act.put, List.setIfInBounds_toArray, List.set_cons_zero, List.set_cons_succ]
      refine wpAnyH_take (i := 7) (oi := ⟨some 56, _, _, _, _, _⟩) (v := ?_) rfl (by kernel_rfl) (by kernel_rfl) (by kernel_rfl) (fun _ _ _ h => h) (Or.inl ⟨by rfl, ?_⟩) (by assumption) ?_
      rotate_left
      · intro w hSw
        (try dsimp only at hSw)
        go_simp
        all_goals (with_reducible rfl)
      try simp only [Act.put, List.setIfInBounds_toArray, List.set_cons_zero, List.set_cons_succ]
      refine wpAnyH_take (i := 8) (oi := ⟨some 57, _, _, _, _, _⟩) (v := ?_) rfl (by kernel_rfl) (by kernel_rfl) (by kernel_rfl) (fun _ _ _ h => h) (Or.inl ⟨by rfl, ?_⟩) (by assumption) ?_
      rotate_left
      · intro w hSw
        obtain ⟨l0, l1, l2, l3, l4, l5⟩ := hSw.2.six
        go_simp
        all_goals (with_reducible rfl)
      try simp only [Act.put, List.setIfInBounds_toArray, List.set_cons_zero, List.set_cons_succ]
      refine wpAnyH_take (i := 10) (oi := ⟨some 59, _, _, _, _, _⟩) (v := ?_) rfl (by kernel_rfl) (by kernel_rfl) (by kernel_rfl) (fun _ _ _ h => h) (Or.inl ⟨by rfl, ?_⟩) (by assumption) ?_
      rotate_left
      · intro w hSw
        (try dsimp only at hSw)
        go_simp
        all_goals (with_reducible rfl)
      try simp only [Act.put, List.setIfInBounds_toArray, List.set_cons_zero, List.set_cons_succ]
      refine wpAnyH_take (i := 11) (oi := ⟨some 60, _, _, _, _, _⟩) (v := ?_) rfl (by kernel_rfl) (by kernel_rfl) (by kernel_rfl) (fun _ _ _ h => h) (Or.inl ⟨by rfl, ?_⟩) (by assumption) ?_
      rotate_left
      · intro w hSw
        (try dsimp only at hSw)
        go_simp
        all_goals (with_reducible rfl)
      try simp only [Act.put, List.setIfInBounds_toArray, List.set_cons_zero, List.set_cons_succ]
      refine wpAnyH_take (i := 12) (oi := ⟨some 61, _, _, _, _, _⟩) (v := ?_) rfl (by kernel_rfl) (by kernel_rfl) (by kernel_rfl) (fun _ _ _ h => h) (Or.inl ⟨by rfl, ?_⟩) (by assumption) ?_
      rotate_left
      · intro w hSw
        obtain ⟨l0, l1, l2, l3, l4, l5⟩ := hSw.2.six
        go_simp
        all_goals (with_reducible rfl)
      try simp only [Act.put, List.setIfInBounds_toArray, List.set_cons_zero, List.set_cons_succ]
      refine wpAnyH_take (i := 13) (oi := ⟨some 62, _, _, _, _, _⟩) (v := ?_) rfl (by kernel_rfl) (by kernel_rfl) (by kernel_rfl) (fun _ _ _ h => h) (Or.inl ⟨by rfl, ?_⟩) (by assumption) ?_
      rotate_left
      · intro w hSw
        (try dsimp only at hSw)
        go_simp
        all_goals (with_reducible rfl)
      try simp only [Act.put, List.setIfInBounds_toArray, List.set_cons_zero, List.set_cons_succ]
      refine wpAnyH_take (i := 14) (oi := ⟨some 63, _, _, _, _, _⟩) (v := ?_) rfl (by kernel_rfl) (by kernel_rfl) (by kernel_rfl) (fun _ _ _ h => h) (Or.inl ⟨by rfl, ?_⟩) (by assumption) ?_
      rotate_left
      · intro w hSw
        (try dsimp only at hSw)
        go_simp
        all_goals (with_reducible rfl)
      try simp only [Act.put, List.setIfInBounds_toArray, List.set_cons_zero, List.set_cons_succ]
      refine wpAnyH_take (i := 15) (oi := ⟨some 64, _, _, _, _, _⟩) (v := ?_) rfl (by kernel_rfl) (by kernel_rfl) (by kernel_rfl) (fun _ _ _ h => h) (Or.inl ⟨by rfl, ?_⟩) (by assumption) ?_
      rotate_left
      · intro w hSw
        obtain ⟨l0, l1, l2, l3, l4, l5⟩ := hSw.2.six
        go_simp
        all_goals (with_reducible rfl)
      try simp only [Act.put, List.setIfInBounds_toArray, List.set_cons_zero, List.set_cons_succ]
      refine wpAnyH_take (i := 9) (oi := ⟨some 58, _, _, _, _, _⟩) (v := ?_) rfl (by kernel_rfl) (by kernel_rfl) (by kernel_rfl) (fun _ _ _ h => h) (Or.inl ⟨by rfl, ?_⟩) (by assumption) ?_
      rotate_left
      · intro w hSw
        (try dsimp only at hSw)
        go_simp
        all_goals (with_reducible rfl)
      try simp only [Act.put, List.setIfInBounds_toArray, List.set_cons_zero, List.set_cons_succ]
      refine wpAnyH_take (i := 16) (oi := ⟨some 65, _, _, _, _, _⟩) (v := ?_) rfl (by kernel_rfl) (by kernel_rfl) (by kernel_rfl) (fun _ _ _ h => h) (Or.inl ⟨by rfl, ?_⟩) (by assumption) ?_
      rotate_left
      · intro w hSw
        (try dsimp only at hSw)
        go_simp
        all_goals (with_reducible rfl)
      try simp only [Act.put, List.setIfInBounds_toArray, List.set_cons_zero, List.set_cons_succ]
      refine wpAnyH_ready (rs := [17]) (by as_aux_lemma => kernel_rfl) (by simp) (AllReadyH.cons (o := ⟨some 10, _, _, _, _, _⟩) rfl (fun K hK => ?_) AllReadyH.nil)
      go_simp
      refine hK.out _ _ (Bn.drew (H4.out.step ((Below.refl _ _).alloc (Nat.le_refl _) (.cells #[.int .i64 0, .int .i64 0, .int .u8 0, .int .i64 0, .slice none 0 0, .slice none 0 0, .int .i64 0] 34)))) (fun hHeld => ?_)
      clear hK K
      try simp only [Act.put, List.setIfInBounds_toArray, List.set_cons_zero, List.set_cons_succ]
      refine wpAnyH_ready (rs := [18]) (by as_aux_lemma => kernel_rfl) (by simp) (AllReadyH.cons (o := ⟨none, _, _, _, _, _⟩) rfl (fun K hK => ?_) AllReadyH.nil)
      go_simp
      refine hK.out _ _ (Bn.drew (H4.out.step ((Below.refl _ _).alloc (Nat.le_refl _) (.cells #[.int .i64 (a : Int), .int .i64 (b : Int), .int .u8 (cc : Int), .int .i64 (d : Int), .slice none 0 0, .slice none 0 0, .int .i64 (e : Int)] 34)))) (fun hHeld => ?_)
      clear hK K
      try simp only [Act.put, List.setIfInBounds_toArray, List.set_cons_zero, List.set_cons_succ]
      refine wpAnyH_done (by kernel_rfl) ?_ _
      obtain ⟨q, hq⟩ : ∃ q, w3.heap.size = q := ⟨_, rfl⟩
      obtain ⟨w5, hw5⟩ : ∃ v, (w3.alloc (.cells #[.int .i64 (a : Int), .int .i64 (b : Int), .int .u8 (cc : Int), .int .i64 (d : Int), .slice none 0 0, .slice none 0 0, .int .i64 (e : Int)] 34)).drew = v := ⟨_, rfl⟩
      have hrow : Row w5 q #[.int .i64 (a : Int), .int .i64 (b : Int), .int .u8 (cc : Int), .int .i64 (d : Int), .slice none 0 0, .slice none 0 0, .int .i64 (e : Int)] 34 := by rw [← hw5, ← hq]; exact heap_alloc_new _ _
      have hb35 : Below w3.heap.size w3 w5 := by rw [← hw5]; exact ((Below.refl _ _).alloc (Nat.le_refl _) _).drew
      rw [hw5]
      rw [hq]
      have HL0 := Lib.hid (show TL w3 q gr a b cc d e body f x none 0 0 x [] w5 from ⟨hb35, hrow, OwnK.nil _ _ _ _, by simp, rfl⟩)
      have HQ := Lib.hid (And.intro hq HS3.out)
      have hqg : gr < q := by have := HW2.out; have := HS3.out; omega
      clear hHeld hrow hw5 hq hb35 hw8 h9' h50' hx0
      obtain ⟨m0, m1, m2, m3, m4, m5⟩ := (H4.out.2.below HL0.out.1 (Nat.le_refl _)).six
      go_wp2
      clear m0 m1 m2 m3 m4 m5
      go_loopw [9, 11, 12, 13] (fun s9 s11 _ _ wr => ∃ (i x' : Nat) (I : Option Addr) (mc : Nat) (L : List InfP), i ≤ f ∧ s11 = .int .i64 i ∧ s9 = .int .i64 (x' : Int) ∧ x' ≤ n2 ∧ Hid (TL w3 q gr a b cc d e body f x I i mc x' L wr)) (fun _ s11 _ _ _ => f - (Go.RowKit.intOf s11).toNat)
      case atStart => exact ⟨0, x, none, 0, [], by omega, rfl, rfl, hxn2, HL0.out⟩
      case round =>
        clear HL0
        obtain ⟨i, x', I, mc, L, hi, rfl, rfl, hx', HL⟩ := hrel
        obtain ⟨m0, m1, m2, m3, m4, m5⟩ := (H4.out.2.below HL.out.1 (Nat.le_refl _)).six
        have HB := Lib.hid (H4.out.1.step HL.out.1)
        by_cases hlt : i < f
        · skip
          have hi1 : (0 : Int) ≤ (i : Int) := by omega
          have hi2 : (i : Int) < (f : Int) := by omega
          have hwk : IntKind.i64.wrap ((i : Int) + 1) = (i : Int) + 1 := IntWalk.i64_in _ (by omega)
          have HT := Lib.hid hlt
          have hs : rI body (f - i) x' = match rn body 4 x' with
              | none => none
              | some (l, y) => if 9 < l.getD 3 0 then none else (rI body (f - (i + 1)) y).map (fun p => (infV l :: p.1, p.2)) := by
            rw [show f - i = (f - (i + 1)) + 1 by omega]
            rfl
          have HSS := Lib.hid hs
          clear hlt hs
          go_wp2_with fail
          refine (rnums_4 wr (n := n2) (HB.out.2.reads _ (.head _)) hn2 x' hx').mono ?_
          rintro e1 w6 ⟨hb6, hn6⟩
          obtain ⟨rr, hrn⟩ : ∃ rr, rn body 4 x' = rr := ⟨_, rfl⟩
          rw [hrn] at hn6
          have hs := HSS.out
          rw [hrn] at hs
          have hl4 : ∀ p, rr = some p → p.1.length = 4 ∧ p.2 ≤ n2 := fun p hp => ⟨rn_len (hrn.trans hp), hbl ▸ rn_at (hrn.trans hp) (by omega)⟩
          replace HB := Lib.hid (HB.out.step hb6)
          have HB6 := Lib.hid hb6
          clear hrn hb6 HSS m0 m1 m2 m3 m4 m5
          rcases hn6 with ⟨rfl, rfl⟩ | ⟨⟨l, y⟩, A6, c6, rfl, rfl, ho6, hx6⟩
          · skip
            simp only at hs
            have hri : rI body f x = none := by rw [HL.out.2.2.2.1, hs]; rfl
            obtain ⟨hra, hfn⟩ := HRA.out
            rw [hri] at hra
            simp only [refTend] at hra
            rw [hra] at hfn
            have HFN := Lib.hid (show getT t bs = (zeroT, 110) from hfn)
            clear hfn hra hri hs HRA
            obtain ⟨g0, g1, g2, g3', g4, g5, g6'⟩ := arr7 (HB.out.2.rows _ (.head _))
            obtain ⟨r0, r1, r2, r3, r4, r5, r6⟩ := fro7 (HB.out.2.rows _ (.head _))
            go_wp2
            have hE := row7 (v0 := .int .i64 0) (v1 := .int .i64 0) (v2 := .int .u8 0) (v3 := .int .i64 0) (v4 := .slice none 0 0) (v5 := .slice none 0 0) (v6 := .int .i64 0) (HB.out.2.rows _ (.head _))
            refine bodyPost_ret (v := .tuple #[.agg #[.int .i64 0, .int .i64 0, .int .u8 0, .int .i64 0, .slice none 0 0, .slice none 0 0, .int .i64 0], .int .i64 110]) ?_ rfl ?_
            · rw [results_cell_tmp rfl]
              simp [asAddr, Result.andThen, load34 hE]
            · rw [HFN.out]
              exact rgotT_no _ (HB.out.1.trans (but7.below HB.out.1.size (fun i hi => by have := List.mem_singleton.1 hi; omega)))
          · skip
            obtain ⟨hl4, hyn⟩ := hl4 _ rfl
            obtain ⟨a1, b1, z1, d1, rfl⟩ := four_of hl4
            simp only [List.length_cons, List.length_nil, Nat.reduceAdd] at ho6 hyn ⊢
            obtain ⟨g6, rfl, hg6, hnum⟩ := num_of ho6 (by omega)
            have HN := Lib.hid hnum
            have HG6 := Lib.hid hg6
            clear ho6 hnum hl4 hx6 hg6
            simp only [List.getD_cons_zero, List.getD_cons_succ] at hs
            obtain ⟨m0, m1, m2, m3⟩ := HN.out.four
            have hy0 : decide ((y : Int) < 0) = false := by simp
            by_cases h9 : 9 < d1
            · skip
              rw [if_pos h9] at hs
              have h9' : decide ((9 : Int) < (d1 : Int)) = true := by simp; omega
              clear h9
              have hri : rI body f x = none := by rw [HL.out.2.2.2.1, hs]; rfl
              obtain ⟨hra, hfn⟩ := HRA.out
              rw [hri] at hra
              simp only [refTend] at hra
              rw [hra] at hfn
              have HFN := Lib.hid (show getT t bs = (zeroT, 110) from hfn)
              clear hfn hra hri hs HRA
              obtain ⟨g0, g1, g2, g3', g4, g5, g6'⟩ := arr7 (HB.out.2.rows _ (.head _))
              obtain ⟨r0, r1, r2, r3, r4, r5, r6⟩ := fro7 (HB.out.2.rows _ (.head _))
              go_wp2
              have hE := row7 (v0 := .int .i64 0) (v1 := .int .i64 0) (v2 := .int .u8 0) (v3 := .int .i64 0) (v4 := .slice none 0 0) (v5 := .slice none 0 0) (v6 := .int .i64 0) (HB.out.2.rows _ (.head _))
              refine bodyPost_ret (v := .tuple #[.agg #[.int .i64 0, .int .i64 0, .int .u8 0, .int .i64 0, .slice none 0 0, .slice none 0 0, .int .i64 0], .int .i64 110]) ?_ rfl ?_
              · rw [results_cell_tmp rfl]
                simp [asAddr, Result.andThen, load34 hE]
              · rw [HFN.out]
                exact rgotT_no _ (HB.out.1.trans (but7.below HB.out.1.size (fun i hi => by have := List.mem_singleton.1 hi; omega)))
            rw [if_neg h9] at hs
            have h9' : decide ((9 : Int) < (d1 : Int)) = false := by simp; omega
            have hw8 : IntKind.u8.wrap (d1 : Int) = (d1 : Int) := by rw [IntKind.wrap_u8]; omega
            have HSS := Lib.hid hs
            have hlr : wr.heap.size ≤ w6.heap.size := HB6.out.size
            have HM := Lib.hid (show SN w3 g6 [a1, b1, z1, d1] w6 ∧ Row w6 q #[.int .i64 (a : Int), .int .i64 (b : Int), .int .u8 (cc : Int), .int .i64 (d : Int), .slice I i mc, .slice none 0 0, .int .i64 (e : Int)] 34 ∧ OwnK w6 w3.heap.size 30 4 I i mc (ics L) from ⟨⟨HL.out.1.trans (HB6.out.mono HL.out.1.size), HN.out⟩, Row.below HL.out.2.1 HB6.out (Nat.le_refl _), HL.out.2.2.1.below HB6.out (Nat.le_refl _)⟩)
            have HIl := Lib.hid (fun j (hj : I.map (·.block) = some j) => (HL.out.2.2.1.block j hj).2)
            have hql : q < wr.heap.size := lt_of_block HL.out.2.1
            clear hs h9
            go_wp2_with fail
            clear m0 m1 m2 m3 HN
            have d4 : w6.cell? ⟨q, 4, none⟩ = some (.slice I i mc) := (arr7 HM.out.2.1).c4
            refine wp_region_held_drew (S := SN w3 g6 [a1, b1, z1, d1]) (by kernel_rfl) ⟨HM.out.1.1.drew, HM.out.1.2⟩ (fun hHeld => ?_)
            refine wpAnyH_take (i := 0) (oi := ⟨some 88, _, _, _, _, _⟩) (v := ?_) rfl (by kernel_rfl) (by kernel_rfl) (by kernel_rfl) (fun _ _ _ h => h) (Or.inl ⟨by rfl, ?_⟩) (by assumption) ?_
            rotate_left
            · intro w hSw
              (try dsimp only at hSw)
              go_simp
              all_goals (with_reducible rfl)
            try simp only [Act.put, List.setIfInBounds_toArray, List.set_cons_zero, List.set_cons_succ]
            refine wpAnyH_take (i := 2) (oi := ⟨some 90, _, _, _, _, _⟩) (v := ?_) rfl (by kernel_rfl) (by kernel_rfl) (by kernel_rfl) (fun _ _ _ h => h) (Or.inl ⟨by rfl, ?_⟩) (by assumption) ?_
            rotate_left
            · intro w hSw
              (try dsimp only at hSw)
              go_simp
              all_goals (with_reducible rfl)
            try simp only [Act.put, List.setIfInBounds_toArray, List.set_cons_zero, List.set_cons_succ]
            refine wpAnyH_take (i := 3) (oi := ⟨some 91, _, _, _, _, _⟩) (v := ?_) rfl (by kernel_rfl) (by kernel_rfl) (by kernel_rfl) (fun _ _ _ h => h) (Or.inl ⟨by rfl, ?_⟩) (by assumption) ?_
            rotate_left
            · intro w hSw
              (try dsimp only at hSw)
              go_simp
              all_goals (with_reducible rfl)
            try simp only [Act.put, List.setIfInBounds_toArray, List.set_cons_zero, List.set_cons_succ]
            refine wpAnyH_take (i := 4) (oi := ⟨some 92, _, _, _, _, _⟩) (v := ?_) rfl (by kernel_rfl) (by kernel_rfl) (by kernel_rfl) (fun _ _ _ h => h) (Or.inl ⟨by rfl, ?_⟩) (by assumption) ?_
            rotate_left
            · intro w hSw
              obtain ⟨l0, l1, l2, l3⟩ := hSw.2.four
              go_simp
              all_goals (with_reducible rfl)
            try simp only [Act.put, List.setIfInBounds_toArray, List.set_cons_zero, List.set_cons_succ]
            refine wpAnyH_take (i := 5) (oi := ⟨some 93, _, _, _, _, _⟩) (v := ?_) rfl (by kernel_rfl) (by kernel_rfl) (by kernel_rfl) (fun _ _ _ h => h) (Or.inl ⟨by rfl, ?_⟩) (by assumption) ?_
            rotate_left
            · intro w hSw
              (try dsimp only at hSw)
              go_simp
              all_goals (with_reducible rfl)
            try simp only [Act.put, List.setIfInBounds_toArray, List.set_cons_zero, List.set_cons_succ]
            refine wpAnyH_take (i := 6) (oi := ⟨some 94, _, _, _, _, _⟩) (v := ?_) rfl (by kernel_rfl) (by kernel_rfl) (by kernel_rfl) (fun _ _ _ h => h) (Or.inl ⟨by rfl, ?_⟩) (by assumption) ?_
            rotate_left
            · intro w hSw
              (try dsimp only at hSw)
              go_simp
              all_goals (with_reducible rfl)
            try simp only [Act.put, List.setIfInBounds_toArray, List.set_cons_zero, List.set_cons_succ]
            refine wpAnyH_take (i := 7) (oi := ⟨some 95, _, _, _, _, _⟩) (v := ?_) rfl (by kernel_rfl) (by kernel_rfl) (by kernel_rfl) (fun _ _ _ h => h) (Or.inl ⟨by rfl, ?_⟩) (by assumption) ?_
            rotate_left
            · intro w hSw
              obtain ⟨l0, l1, l2, l3⟩ := hSw.2.four
              go_simp
              all_goals (with_reducible rfl)
            try simp only [Act.put, List.setIfInBounds_toArray, List.set_cons_zero, List.set_cons_succ]
            refine wpAnyH_take (i := 8) (oi := ⟨some 96, _, _, _, _, _⟩) (v := ?_) rfl (by kernel_rfl) (by kernel_rfl) (by kernel_rfl) (fun _ _ _ h => h) (Or.inl ⟨by rfl, ?_⟩) (by assumption) ?_
            rotate_left
            · intro w hSw
              (try dsimp only at hSw)
              go_simp
              all_goals (with_reducible rfl)
            try simp only [Act.put, List.setIfInBounds_toArray, List.set_cons_zero, List.set_cons_succ]
            refine wpAnyH_take (i := 9) (oi := ⟨some 97, _, _, _, _, _⟩) (v := ?_) rfl (by kernel_rfl) (by kernel_rfl) (by kernel_rfl) (fun _ _ _ h => h) (Or.inl ⟨by rfl, ?_⟩) (by assumption) ?_
            rotate_left
            · intro w hSw
              (try dsimp only at hSw)
              go_simp
              all_goals (with_reducible rfl)
            try simp only [Act.put, List.setIfInBounds_toArray, List.set_cons_zero, List.set_cons_succ]
            refine wpAnyH_take (i := 10) (oi := ⟨some 98, _, _, _, _, _⟩) (v := ?_) rfl (by kernel_rfl) (by kernel_rfl) (by kernel_rfl) (fun _ _ _ h => h) (Or.inl ⟨by rfl, ?_⟩) (by assumption) ?_
            rotate_left
            · intro w hSw
              obtain ⟨l0, l1, l2, l3⟩ := hSw.2.four
              go_simp
              all_goals (with_reducible rfl)
            try simp only [Act.put, List.setIfInBounds_toArray, List.set_cons_zero, List.set_cons_succ]
            refine wpAnyH_take (i := 11) (oi := ⟨some 99, _, _, _, _, _⟩) (v := ?_) rfl (by kernel_rfl) (by kernel_rfl) (by kernel_rfl) (fun _ _ _ h => h) (Or.inl ⟨by rfl, ?_⟩) (by assumption) ?_
            rotate_left
            · intro w hSw
              (try dsimp only at hSw)
              go_simp
              all_goals (with_reducible rfl)
            try simp only [Act.put, List.setIfInBounds_toArray, List.set_cons_zero, List.set_cons_succ]
            refine wpAnyH_take (i := 12) (oi := ⟨some 100, _, _, _, _, _⟩) (v := ?_) rfl (by kernel_rfl) (by kernel_rfl) (by kernel_rfl) (fun _ _ _ h => h) (Or.inl ⟨by rfl, ?_⟩) (by assumption) ?_
            rotate_left
            · intro w hSw
              (try dsimp only at hSw)
              go_simp
              all_goals (with_reducible rfl)
            try simp only [Act.put, List.setIfInBounds_toArray, List.set_cons_zero, List.set_cons_succ]
            refine wpAnyH_take (i := 13) (oi := ⟨some 101, _, _, _, _, _⟩) (v := ?_) rfl (by kernel_rfl) (by kernel_rfl) (by kernel_rfl) (fun _ _ _ h => h) (Or.inl ⟨by rfl, ?_⟩) (by assumption) ?_
            rotate_left
            · intro w hSw
              obtain ⟨l0, l1, l2, l3⟩ := hSw.2.four
              go_simp
              all_goals (with_reducible rfl)
            try simp only [Act.put, List.setIfInBounds_toArray, List.set_cons_zero, List.set_cons_succ]
            refine wpAnyH_take (i := 14) (oi := ⟨some 102, _, _, _, _, _⟩) (v := ?_) rfl (by kernel_rfl) (by kernel_rfl) (by kernel_rfl) (fun _ _ _ h => h) (Or.inl ⟨by rfl, ?_⟩) (by assumption) ?_
            rotate_left
            · intro w hSw
              (try dsimp only at hSw)
              go_simp
              all_goals (with_reducible rfl)
            try simp only [Act.put, List.setIfInBounds_toArray, List.set_cons_zero, List.set_cons_succ]
            refine wpAnyH_take (i := 15) (oi := ⟨some 103, _, _, _, _, _⟩) (v := ?_) rfl (by kernel_rfl) (by kernel_rfl) (by kernel_rfl) (fun _ _ _ h => h) (Or.inl ⟨by rfl, ?_⟩) (by assumption) ?_
            rotate_left
            · intro w hSw
              (try dsimp only at hSw)
              go_simp
              all_goals (with_reducible rfl)
            try simp only [Act.put, List.setIfInBounds_toArray, List.set_cons_zero, List.set_cons_succ]
            refine wpAnyH_ready (rs := [1, 16]) (by as_aux_lemma => kernel_rfl) (by simp) (AllReadyH.cons (o := ⟨some 89, _, _, _, _, _⟩) rfl (fun K hK => ?_) (AllReadyH.cons (o := ⟨some 104, _, _, _, _, _⟩) rfl (fun K hK => ?_) AllReadyH.nil))
            · skip
              go_simp
              refine hK.out _ _ hHeld (fun hHeld => ?_)
              clear hK K
              try simp only [Act.put, List.setIfInBounds_toArray, List.set_cons_zero, List.set_cons_succ]
              refine wpAnyH_ready (rs := [16]) (by as_aux_lemma => kernel_rfl) (by simp) (AllReadyH.cons (o := ⟨some 104, _, _, _, _, _⟩) rfl (fun K hK => ?_) AllReadyH.nil)
              go_simp
              refine hK.out _ _ (SN.drew (SN.step HM.out.1 ((Below.refl _ _).alloc (Nat.le_refl _) (.cells #[.int .i64 (a1 : Int), .int .i64 (b1 : Int), .int .i64 (z1 : Int), .int .u8 (d1 : Int)] 30)))) (fun hHeld => ?_)
              clear hK K
              try simp only [Act.put, List.setIfInBounds_toArray, List.set_cons_zero, List.set_cons_succ]
              obtain ⟨z7, hz7⟩ : ∃ z, w6.heap.size = z := ⟨_, rfl⟩
              obtain ⟨w7, hw7⟩ : ∃ v, (w6.alloc (.cells #[.int .i64 (a1 : Int), .int .i64 (b1 : Int), .int .i64 (z1 : Int), .int .u8 (d1 : Int)] 30)).drew = v := ⟨_, rfl⟩
              have hb7 : Below w6.heap.size w6 w7 := by rw [← hw7]; exact ((Below.refl _ _).alloc (Nat.le_refl _) _).drew
              have hrd7 : RdV w7 (some ⟨z7, 0, none⟩) (1 * 4) (icells (infV [a1, b1, z1, d1])) := by rw [← hw7, ← hz7]; exact (RdV.new w6 (icells (infV [a1, b1, z1, d1])) 30 (0, 0)).drew
              have hown7 := HM.out.2.2.below hb7 (Nat.le_refl _)
              have hs7 : w3.heap.size ≤ w7.heap.size := Nat.le_trans HM.out.1.1.size hb7.size
              rw [hw7] at hHeld ⊢
              rw [hz7]
              refine wpAnyH_ready (rs := [17]) (by as_aux_lemma => kernel_rfl) (by simp) (AllReadyH.cons (o := ⟨some 105, _, _, _, _, _⟩) rfl (fun K hK => ?_) AllReadyH.nil)
              refine step_appK _ rfl (.tmp 89) (.tmp 104) 32 rfl w3.heap.size 30 4 _ 32 Try.underlying32 info30 rfl (by omega) rfl hown7 rfl (m := 1) hrd7 (by omega) (by intro u hu; simp [icells] at hu; rcases hu with rfl | rfl | rfl | rfl <;> rfl) (by omega) (by omega) hs7 (i + 1) (by omega) ?_
              intro I8 mc8 w8 ho8 hg8 hat8
              have hq7 : w7.heap[q]? = _ := (hb7.block q (lt_of_block HM.out.2.1)).trans HM.out.2.1
              have hIn : ∀ j, j ∈ I.toList.map (·.block) → I.map (·.block) = some j := fun j hj => by cases I <;> simp at hj ⊢; omega
              have hgo : But (I.toList.map (·.block)) w7 w8 := (But.refl _ _).grown hg8 (fun j hj => by cases I <;> simp at hj ⊢; omega)
              have hq8 : w8.heap[q]? = _ := (hg8.block q (lt_of_block hq7) (fun e => by
                obtain ⟨cu, hc⟩ := hown7.typ e.symm
                exact ne_of_type hq7 hc (by decide) rfl)).trans hq7
              have hb38 : Below w3.heap.size w3 w8 := (HM.out.1.1.trans (hb7.mono HM.out.1.1.size)).grown hg8 hs7 (fun j hj => (hown7.block j hj).1)
              have hS8 : SN w3 g6 [a1, b1, z1, d1] w8 := ⟨hb38, (hHeld.2).but hgo (fun h => by have h1 := HIl.out _ (hIn _ h); have h2 := HG6.out; omega)⟩
              have f4 := frozen_of_row w8 q 4 _ 34 hq8
              have e4 := (arr7 hq8).c4
              have hbs : But [q] w8 (w8.setCell ⟨q, 4, none⟩ (.slice I8 (i + 1) mc8)) := (But.refl _ _).setCell (by simp) _
              have hS9 : SN w3 g6 [a1, b1, z1, d1] (w8.setCell ⟨q, 4, none⟩ (.slice I8 (i + 1) mc8)) := ⟨hb38.trans (hbs.below hb38.size (fun j hj => by have := List.mem_singleton.1 hj; have := HQ.out.1; omega)), hS8.2.but hbs (fun h => by have := List.mem_singleton.1 h; have := HG6.out; omega)⟩
              have HW9 := Lib.hid (show TL w3 q gr a b cc d e body f x I8 (i + 1) mc8 y (L ++ [infV [a1, b1, z1, d1]]) (w8.setCell ⟨q, 4, none⟩ (.slice I8 (i + 1) mc8)) from by
                refine ⟨hS9.1, set7 hq8 _ rfl, ?_, ?_, by rw [List.length_append, HL.out.2.2.2.2]; rfl⟩
                · rw [ics_append]
                  refine (show OwnK w8 w3.heap.size 30 4 I8 (i + 1) mc8 (ics L ++ ics [infV [a1, b1, z1, d1]]) from by simpa [ics] using ho8).but hbs (fun j hj => ?_)
                  obtain ⟨cu, hc⟩ := ho8.typ hj
                  have := ne_of_type hc hq8 (by decide)
                  simpa using this
                · rw [HL.out.2.2.2.1, HSS.out]
                  cases rI body (f - (i + 1)) y <;> simp)
              clear ho8 hg8 hat8 hq7 hq8 hgo hIn hb38 hbs hown7 hrd7 hs7 hb7 hw7
              refine hK.out _ _ hS8 (fun hHeld => ?_)
              clear hK K hS8
              try simp only [Act.put, List.setIfInBounds_toArray, List.set_cons_zero, List.set_cons_succ]
              refine wpAnyH_take (i := 18) (oi := ⟨some 106, _, _, _, _, _⟩) (v := ?_) rfl (by kernel_rfl) (by kernel_rfl) (by kernel_rfl) (fun _ _ _ h => h) (Or.inl ⟨by rfl, ?_⟩) (by assumption) ?_
              rotate_left
              · intro w hSw
                (try dsimp only at hSw)
                go_simp
                all_goals (with_reducible rfl)
              try simp only [Act.put, List.setIfInBounds_toArray, List.set_cons_zero, List.set_cons_succ]
              refine wpAnyH_ready (rs := [19]) (by as_aux_lemma => kernel_rfl) (by simp) (AllReadyH.cons (o := ⟨none, _, _, _, _, _⟩) rfl (fun K hK => ?_) AllReadyH.nil)
              go_simp
              refine hK.out _ _ hS9 (fun hHeld => ?_)
              clear hK K hS9
              try simp only [Act.put, List.setIfInBounds_toArray, List.set_cons_zero, List.set_cons_succ]
              refine wpAnyH_done (by kernel_rfl) ?_ _
              clear hHeld d4
              obtain ⟨w9, hw9⟩ : ∃ v, w8.setCell ⟨q, 4, none⟩ (.slice I8 (i + 1) mc8) = v := ⟨_, rfl⟩
              rw [hw9] at HW9 ⊢
              clear hw9 f4 e4
              go_wp2
              go_roundw
              case rel => exact ⟨i + 1, y, I8, mc8, _, by have := HT.out; omega, by go_num, rfl, hyn, HW9.out⟩
              case measure => have := HT.out; simp [Go.RowKit.intOf]; omega
            · skip
              go_simp
              refine hK.out _ _ (SN.drew (SN.step HM.out.1 ((Below.refl _ _).alloc (Nat.le_refl _) (.cells #[.int .i64 (a1 : Int), .int .i64 (b1 : Int), .int .i64 (z1 : Int), .int .u8 (d1 : Int)] 30)))) (fun hHeld => ?_)
              clear hK K
              try simp only [Act.put, List.setIfInBounds_toArray, List.set_cons_zero, List.set_cons_succ]
              have d4b : (w6.alloc (.cells #[.int .i64 (a1 : Int), .int .i64 (b1 : Int), .int .i64 (z1 : Int), .int .u8 (d1 : Int)] 30)).cell? ⟨q, 4, none⟩ = some (.slice I i mc) := ((((Below.refl _ _).alloc (Nat.le_refl _) (.cells #[.int .i64 (a1 : Int), .int .i64 (b1 : Int), .int .i64 (z1 : Int), .int .u8 (d1 : Int)] 30)) : Below w6.heap.size w6 (w6.alloc (.cells #[.int .i64 (a1 : Int), .int .i64 (b1 : Int), .int .i64 (z1 : Int), .int .u8 (d1 : Int)] 30))).cell (show q < w6.heap.size by omega)).trans d4
              refine wpAnyH_ready (rs := [1]) (by as_aux_lemma => kernel_rfl) (by simp) (AllReadyH.cons (o := ⟨some 89, _, _, _, _, _⟩) rfl (fun K hK => ?_) AllReadyH.nil)
              go_simp
              refine hK.out _ _ hHeld (fun hHeld => ?_)
              clear hK K
              try simp only [Act.put, List.setIfInBounds_toArray, List.set_cons_zero, List.set_cons_succ]
              clear d4b
              obtain ⟨z7, hz7⟩ : ∃ z, w6.heap.size = z := ⟨_, rfl⟩
              obtain ⟨w7, hw7⟩ : ∃ v, (w6.alloc (.cells #[.int .i64 (a1 : Int), .int .i64 (b1 : Int), .int .i64 (z1 : Int), .int .u8 (d1 : Int)] 30)).drew = v := ⟨_, rfl⟩
              have hb7 : Below w6.heap.size w6 w7 := by rw [← hw7]; exact ((Below.refl _ _).alloc (Nat.le_refl _) _).drew
              have hrd7 : RdV w7 (some ⟨z7, 0, none⟩) (1 * 4) (icells (infV [a1, b1, z1, d1])) := by rw [← hw7, ← hz7]; exact (RdV.new w6 (icells (infV [a1, b1, z1, d1])) 30 (0, 0)).drew
              have hown7 := HM.out.2.2.below hb7 (Nat.le_refl _)
              have hs7 : w3.heap.size ≤ w7.heap.size := Nat.le_trans HM.out.1.1.size hb7.size
              rw [hw7] at hHeld ⊢
              rw [hz7]
              refine wpAnyH_ready (rs := [17]) (by as_aux_lemma => kernel_rfl) (by simp) (AllReadyH.cons (o := ⟨some 105, _, _, _, _, _⟩) rfl (fun K hK => ?_) AllReadyH.nil)
              refine step_appK _ rfl (.tmp 89) (.tmp 104) 32 rfl w3.heap.size 30 4 _ 32 Try.underlying32 info30 rfl (by omega) rfl hown7 rfl (m := 1) hrd7 (by omega) (by intro u hu; simp [icells] at hu; rcases hu with rfl | rfl | rfl | rfl <;> rfl) (by omega) (by omega) hs7 (i + 1) (by omega) ?_
              intro I8 mc8 w8 ho8 hg8 hat8
              have hq7 : w7.heap[q]? = _ := (hb7.block q (lt_of_block HM.out.2.1)).trans HM.out.2.1
              have hIn : ∀ j, j ∈ I.toList.map (·.block) → I.map (·.block) = some j := fun j hj => by cases I <;> simp at hj ⊢; omega
              have hgo : But (I.toList.map (·.block)) w7 w8 := (But.refl _ _).grown hg8 (fun j hj => by cases I <;> simp at hj ⊢; omega)
              have hq8 : w8.heap[q]? = _ := (hg8.block q (lt_of_block hq7) (fun e => by
                obtain ⟨cu, hc⟩ := hown7.typ e.symm
                exact ne_of_type hq7 hc (by decide) rfl)).trans hq7
              have hb38 : Below w3.heap.size w3 w8 := (HM.out.1.1.trans (hb7.mono HM.out.1.1.size)).grown hg8 hs7 (fun j hj => (hown7.block j hj).1)
              have hS8 : SN w3 g6 [a1, b1, z1, d1] w8 := ⟨hb38, (hHeld.2).but hgo (fun h => by have h1 := HIl.out _ (hIn _ h); have h2 := HG6.out; omega)⟩
              have f4 := frozen_of_row w8 q 4 _ 34 hq8
              have e4 := (arr7 hq8).c4
              have hbs : But [q] w8 (w8.setCell ⟨q, 4, none⟩ (.slice I8 (i + 1) mc8)) := (But.refl _ _).setCell (by simp) _
              have hS9 : SN w3 g6 [a1, b1, z1, d1] (w8.setCell ⟨q, 4, none⟩ (.slice I8 (i + 1) mc8)) := ⟨hb38.trans (hbs.below hb38.size (fun j hj => by have := List.mem_singleton.1 hj; have := HQ.out.1; omega)), hS8.2.but hbs (fun h => by have := List.mem_singleton.1 h; have := HG6.out; omega)⟩
              have HW9 := Lib.hid (show TL w3 q gr a b cc d e body f x I8 (i + 1) mc8 y (L ++ [infV [a1, b1, z1, d1]]) (w8.setCell ⟨q, 4, none⟩ (.slice I8 (i + 1) mc8)) from by
                refine ⟨hS9.1, set7 hq8 _ rfl, ?_, ?_, by rw [List.length_append, HL.out.2.2.2.2]; rfl⟩
                · rw [ics_append]
                  refine (show OwnK w8 w3.heap.size 30 4 I8 (i + 1) mc8 (ics L ++ ics [infV [a1, b1, z1, d1]]) from by simpa [ics] using ho8).but hbs (fun j hj => ?_)
                  obtain ⟨cu, hc⟩ := ho8.typ hj
                  have := ne_of_type hc hq8 (by decide)
                  simpa using this
                · rw [HL.out.2.2.2.1, HSS.out]
                  cases rI body (f - (i + 1)) y <;> simp)
              clear ho8 hg8 hat8 hq7 hq8 hgo hIn hb38 hbs hown7 hrd7 hs7 hb7 hw7
              refine hK.out _ _ hS8 (fun hHeld => ?_)
              clear hK K hS8
              try simp only [Act.put, List.setIfInBounds_toArray, List.set_cons_zero, List.set_cons_succ]
              refine wpAnyH_take (i := 18) (oi := ⟨some 106, _, _, _, _, _⟩) (v := ?_) rfl (by kernel_rfl) (by kernel_rfl) (by kernel_rfl) (fun _ _ _ h => h) (Or.inl ⟨by rfl, ?_⟩) (by assumption) ?_
              rotate_left
              · intro w hSw
                (try dsimp only at hSw)
                go_simp
                all_goals (with_reducible rfl)
              try simp only [Act.put, List.setIfInBounds_toArray, List.set_cons_zero, List.set_cons_succ]
              refine wpAnyH_ready (rs := [19]) (by as_aux_lemma => kernel_rfl) (by simp) (AllReadyH.cons (o := ⟨none, _, _, _, _, _⟩) rfl (fun K hK => ?_) AllReadyH.nil)
              go_simp
              refine hK.out _ _ hS9 (fun hHeld => ?_)
              clear hK K hS9
              try simp only [Act.put, List.setIfInBounds_toArray, List.set_cons_zero, List.set_cons_succ]
              refine wpAnyH_done (by kernel_rfl) ?_ _
              clear hHeld d4
              obtain ⟨w9, hw9⟩ : ∃ v, w8.setCell ⟨q, 4, none⟩ (.slice I8 (i + 1) mc8) = v := ⟨_, rfl⟩
              rw [hw9] at HW9 ⊢
              clear hw9 f4 e4
              go_wp2
              go_roundw
              case rel => exact ⟨i + 1, y, I8, mc8, _, by have := HT.out; omega, by go_num, rfl, hyn, HW9.out⟩
              case measure => have := HT.out; simp [Go.RowKit.intOf]; omega
        · skip
          obtain rfl : i = f := by omega
          have hri : rI body i x = some (L, x') := by
            rw [HL.out.2.2.2.1, Nat.sub_self]
            simp [rI]
          obtain ⟨hra, hfn⟩ := HRA.out
          rw [hri] at hra
          simp only [refTend] at hra
          have HX := Lib.hid (And.intro HL.out.2.1 (And.intro HL.out.2.2.1 HL.out.2.2.2.2))
          have HRA2 := Lib.hid (And.intro hra hfn)
          have hql : q < wr.heap.size := lt_of_block HL.out.2.1
          have HIb := Lib.hid (fun j (hj : I.map (·.block) = some j) => show j ≠ q ∧ j ≠ gr from ⟨by
            obtain ⟨cu, hc⟩ := HL.out.2.2.1.typ hj
            exact ne_of_type hc HL.out.2.1 (by decide), by have := (HL.out.2.2.1.block j hj).1; have := HQ.out.1; omega⟩)
          have HOld := Lib.hid (show Rd w3 A2 n2 body ∧ Below w3.heap.size w3 wr from ⟨H4.out.1.2.reads _ (.head _), HL.out.1⟩)
          clear hra hfn HRA hri HL hlt
          go_wp2_with fail
          refine (rgetBlob_any A2 n2 c2 body (x' : Int) 65536 wr (HB.out.2.reads _ (.head _)) hc2 (by omega) (by omega)).mono ?_
          rintro e1 w6 ⟨A4, q4, c4, rfl, hr4, hj4, hb4⟩
          obtain ⟨hra, hfn⟩ := HRA2.out
          clear HRA2 m0 m1 m2 m3 m4 m5
          obtain ⟨⟨bl, y, E4⟩, hblob⟩ : ∃ r, blobR body x' = r := ⟨_, rfl⟩
          have hb2 : getB body (getU body (x' : Int)) 65536 = (bl, y, E4) := hblob
          rw [hblob] at hra
          rw [hb2] at hr4 ⊢
          simp only at hr4 hra ⊢
          have hlb : q4 ≤ 65536 := by
            rw [← hr4.len]
            have := blobR_le body x'
            rw [hblob] at this
            exact this
          have HJ := Lib.hid (fun j (hj : A4.map (·.block) = some j) => show j ≠ q ∧ j ≠ gr from by
            have h1 := hj4 j hj
            omega)
          replace HX := Lib.hid (show Row w6 q #[.int .i64 (a : Int), .int .i64 (b : Int), .int .u8 (cc : Int), .int .i64 (d : Int), .slice I i mc, .slice none 0 0, .int .i64 (e : Int)] 34 ∧ OwnK w6 w3.heap.size 30 4 I i mc (ics L) ∧ L.length = i from ⟨Row.below HX.out.1 hb4 (Nat.le_refl _), HX.out.2.1.below hb4 (Nat.le_refl _), HX.out.2.2⟩)
          replace HB := Lib.hid ((HB.out.step hb4).add hr4)
          replace HOld := Lib.hid (show Rd w3 A2 n2 body ∧ Below w3.heap.size w3 w6 from ⟨HOld.out.1, HOld.out.2.trans (hb4.mono HOld.out.2.size)⟩)
          have hq6 : q < w6.heap.size := lt_of_block HX.out.1
          clear hb2 hblob hr4 hb4 hj4
          by_cases hE4 : E4 = 0
          · skip
            subst hE4
            rw [if_neg (by simp)] at hra
            have HRA := Lib.hid (And.intro hra hfn)
            obtain ⟨n0, n1, n2', n3, n4, n5, n6⟩ := arr7 HX.out.1
            have d5 := frozen_of_row w6 q 5 _ 34 HX.out.1
            have hbs : But [q] w6 (w6.setCell ⟨q, 5, none⟩ (.slice A4 q4 c4)) := (But.refl _ _).setCell (by simp) _
            obtain ⟨w7, hw7⟩ : ∃ v, w6.setCell ⟨q, 5, none⟩ (.slice A4 q4 c4) = v := ⟨_, rfl⟩
            have hrow7 : Row w7 q #[.int .i64 (a : Int), .int .i64 (b : Int), .int .u8 (cc : Int), .int .i64 (d : Int), .slice I i mc, .slice A4 q4 c4, .int .i64 (e : Int)] 34 := by rw [← hw7]; exact set7 HX.out.1 _ rfl
            rw [hw7] at hbs
            have h37 : Below w3.heap.size w3 w7 := HOld.out.2.trans (hbs.below HOld.out.2.size (fun j hj => by have := List.mem_singleton.1 hj; have := HQ.out.1; omega))
            have hil := IL.but (ownK_il HX.out.2.1) hbs (fun j hj => by have := (HIb.out j hj).1; simpa using this)
            rw [show (L.length : Nat) = i from HX.out.2.2] at *
            have hB7 : Bk w [(q, #[.int .i64 (a : Int), .int .i64 (b : Int), .int .u8 (cc : Int), .int .i64 (d : Int), .slice I i mc, .slice A4 q4 c4, .int .i64 (e : Int)], 34), (gr, #[.int .i64 0, .int .i64 0, .int .u8 0, .int .i64 0, .slice none 0 0, .slice none 0 0, .int .i64 0], 34)] [(A4, q4, bl), (A2, n2, body)] [(I, i, L)] w7 := by
              refine ⟨HB.out.1.trans (hbs.below HB.out.1.size (fun j hj => by have := List.mem_singleton.1 hj; omega)), ?_, ?_, ?_, by simp⟩
              · intro p hp
                rcases List.mem_cons.1 hp with rfl | hp
                · exact hrow7
                · obtain rfl := List.mem_singleton.1 hp
                  exact (hbs.block gr (lt_of_block (HB.out.2.rows _ (.head _))) (by simp; omega)).trans (HB.out.2.rows _ (.head _))
              · intro p hp
                rcases List.mem_cons.1 hp with rfl | hp
                · exact rd_but (HB.out.2.reads _ (.head _)) hbs (fun j hj => by have := (HJ.out j hj).1; simpa using this)
                · obtain rfl := List.mem_singleton.1 hp
                  exact HOld.out.1.below h37 (Nat.le_refl _)
              · intro p hp
                obtain rfl := List.mem_singleton.1 hp
                exact hil
            clear hra hfn hbs hrow7 h37 hil HB
            have HB := Lib.hid hB7
            clear hB7
            go_wp2_with fail
            (try rw [hw7])
            clear hw7 d5 n0 n1 n2' n3 n4 n5 n6
            obtain ⟨hra, hfn⟩ := HRA.out
            clear HRA
            by_cases hR : RightT (Go.Coop.telV [a, b, cc, d, e, i] L bl)
            · skip
              have kR := Lib.hid (show decide (RightT ⟨(a : Int), (b : Int), (cc : Int), (d : Int), L, bl, (e : Int)⟩) = true from decide_eq_true hR)
              have hRR := hR
              obtain ⟨⟨r1, r2, r3⟩, r4, r5, _, r6, r7, r8⟩ := hRR
              simp only [Go.Coop.telV, List.getD_cons_zero, List.getD_cons_succ] at r1 r2 r3 r4 r5 r6 r7 r8
              have hRb := Lib.hid (show (a ≤ 1099511627776 ∧ b ≤ 1099511627776) ∧ (cc ≤ 6 ∧ d ≤ 1000) ∧ e ≤ 65536 from by omega)
              have HAll := Lib.hid r8
              clear r1 r2 r3 r4 r5 r6 r7 r8
              by_cases hEq : encT (Go.Coop.telV [a, b, cc, d, e, i] L bl) = body
              · skip
                rw [if_pos ⟨hR, hEq⟩] at hra
                have hne : (encT ⟨(a : Int), (b : Int), (cc : Int), (d : Int), L, bl, (e : Int)⟩ == body) = true := beq_iff_eq.2 hEq
                rw [hra] at hfn
                have HFN := Lib.hid (show getT t bs = (⟨(a : Int), (b : Int), (cc : Int), (d : Int), L, bl, (e : Int)⟩, 0) from hfn)
                clear hfn hra hR hEq
                obtain ⟨XX, hXX⟩ : ∃ X, encT ⟨(a : Int), (b : Int), (cc : Int), (d : Int), L, bl, (e : Int)⟩ = X := ⟨_, rfl⟩
                rw [hXX] at hne
                have HXX := Lib.hid hXX
                clear hXX
                go_wp2_with fail
                refine wp_region_held_drew (S := Bk w [(q, #[.int .i64 (a : Int), .int .i64 (b : Int), .int .u8 (cc : Int), .int .i64 (d : Int), .slice I i mc, .slice A4 q4 c4, .int .i64 (e : Int)], 34), (gr, #[.int .i64 0, .int .i64 0, .int .u8 0, .int .i64 0, .slice none 0 0, .slice none 0 0, .int .i64 0], 34)] [(A4, q4, bl), (A2, n2, body)] [(I, i, L)]) (by kernel_rfl) (HB.out.drew) (fun hHeld => ?_)
                clear HB
                refine wpAnyH_take (i := 0) (oi := ⟨some 120, _, _, _, _, _⟩) (v := ?_) rfl (by kernel_rfl) (by kernel_rfl) (by kernel_rfl) (fun _ _ _ h => h) (Or.inl ⟨by rfl, ?_⟩) (by assumption) ?_
                rotate_left
                · intro w hSw
                  obtain ⟨l0, l1, l2, l3, l4, l5, l6⟩ := arr7 (hSw.2.rows _ (.head _))
                  go_simp
                  all_goals (with_reducible rfl)
                try simp only [Act.put, List.setIfInBounds_toArray, List.set_cons_zero, List.set_cons_succ]
                refine wpAnyH_ready (rs := [1]) (by as_aux_lemma => kernel_rfl) (by simp) (AllReadyH.cons (o := ⟨some 121, _, _, _, _, _⟩) rfl (fun K hK => ?_) AllReadyH.nil)
                go_simp
                refine (rrightT_is _ a b cc d e (m := i) (hHeld.2.ils _ (.head _)) (by omega) A4 q4 c4 bl (hHeld.2.reads _ (.head _)).len kR.out).mono ?_
                rintro e1 u1 ⟨rfl, hb⟩
                refine hK.out _ _ (hHeld.step hb) (fun hHeld => ?_)
                clear hK K hb
                try simp only [Act.put, List.setIfInBounds_toArray, List.set_cons_zero, List.set_cons_succ]
                refine wpAnyH_take (i := 2) (oi := ⟨some 122, _, _, _, _, _⟩) (v := ?_) rfl (by kernel_rfl) (by kernel_rfl) (by kernel_rfl) (fun _ _ _ h => h) (Or.inl ⟨by rfl, ?_⟩) (by assumption) ?_
                rotate_left
                · intro w hSw
                  (try dsimp only at hSw)
                  go_simp
                  all_goals (with_reducible rfl)
                try simp only [Act.put, List.setIfInBounds_toArray, List.set_cons_zero, List.set_cons_succ]
                refine wpAnyH_take (i := 3) (oi := ⟨some 123, _, _, _, _, _⟩) (v := ?_) rfl (by kernel_rfl) (by kernel_rfl) (by kernel_rfl) (fun _ _ _ h => h) (Or.inl ⟨by rfl, ?_⟩) (by assumption) ?_
                rotate_left
                · intro w hSw
                  (try dsimp only at hSw)
                  go_simp
                  all_goals (with_reducible rfl)
                try simp only [Act.put, List.setIfInBounds_toArray, List.set_cons_zero, List.set_cons_succ]
                refine wpAnyH_take (i := 4) (oi := ⟨some 124, _, _, _, _, _⟩) (v := ?_) rfl (by kernel_rfl) (by kernel_rfl) (by kernel_rfl) (fun _ _ _ h => h) (Or.inl ⟨by rfl, ?_⟩) (by assumption) ?_
                rotate_left
                · intro w hSw
                  obtain ⟨l0, l1, l2, l3, l4, l5, l6⟩ := arr7 (hSw.2.rows _ (.head _))
                  go_simp
                  all_goals (with_reducible rfl)
                try simp only [Act.put, List.setIfInBounds_toArray, List.set_cons_zero, List.set_cons_succ]
                refine wpAnyH_take (i := 7) (oi := ⟨some 127, _, _, _, _, _⟩) (v := ?_) rfl (by kernel_rfl) (by kernel_rfl) (by kernel_rfl) (fun _ _ _ h => h) (Or.inl ⟨by rfl, ?_⟩) (by assumption) ?_
                rotate_left
                · intro w hSw
                  (try dsimp only at hSw)
                  go_simp
                  all_goals (with_reducible rfl)
                try simp only [Act.put, List.setIfInBounds_toArray, List.set_cons_zero, List.set_cons_succ]
                refine wpAnyH_take (i := 8) (oi := ⟨some 128, _, _, _, _, _⟩) (v := ?_) rfl (by kernel_rfl) (by kernel_rfl) (by kernel_rfl) (fun _ _ _ h => h) (Or.inl ⟨by rfl, ?_⟩) (by assumption) ?_
                rotate_left
                · intro w hSw
                  have k1 := conv_str (P := Try.prog) Try.underlying23 Try.underlying5 Try.underlying9 (show Rd w A2 n2 body from hSw.2.reads _ (.tail _ (.head _))) c2
                  go_simp
                  all_goals (with_reducible rfl)
                try simp only [Act.put, List.setIfInBounds_toArray, List.set_cons_zero, List.set_cons_succ]
                refine wpAnyH_ready (rs := [5]) (by as_aux_lemma => kernel_rfl) (by simp) (AllReadyH.cons (o := ⟨some 125, _, _, _, _, _⟩) rfl (fun K hK => ?_) AllReadyH.nil)
                go_simp
                refine (tellB_is _ a b cc d e hRb.out.1.1 hRb.out.1.2 hRb.out.2.1.1 hRb.out.2.1.2 hRb.out.2.2 (m := i) (hHeld.2.ils _ (.head _)) (by omega) HAll.out bl (n := q4) (hHeld.2.reads _ (.head _)) (by omega)).mono ?_
                rintro e1 u2 ⟨A5, n5, c5, rfl, hr5, hn5, hb⟩
                rw [HXX.out] at hr5
                refine hK.out _ _ (hHeld.step hb) (fun hHeld => ?_)
                clear hK K
                replace hHeld := hHeld.add hr5
                refine wpAnyH_stronger (S' := Bk w [(q, #[.int .i64 (a : Int), .int .i64 (b : Int), .int .u8 (cc : Int), .int .i64 (d : Int), .slice I i mc, .slice A4 q4 c4, .int .i64 (e : Int)], 34), (gr, #[.int .i64 0, .int .i64 0, .int .u8 0, .int .i64 0, .slice none 0 0, .slice none 0 0, .int .i64 0], 34)] [(A5, n5, XX), (A4, q4, bl), (A2, n2, body)] [(I, i, L)]) (fun _ h => h.less) _ _ _ _ ?_
                clear hr5 hb
                try simp only [Act.put, List.setIfInBounds_toArray, List.set_cons_zero, List.set_cons_succ]
                refine wpAnyH_take (i := 6) (oi := ⟨some 126, _, _, _, _, _⟩) (v := ?_) rfl (by kernel_rfl) (by kernel_rfl) (by kernel_rfl) (fun _ _ _ h => h) (Or.inl ⟨by rfl, ?_⟩) (by assumption) ?_
                rotate_left
                · intro w hSw
                  have k1 := conv_str (P := Try.prog) Try.underlying23 Try.underlying5 Try.underlying9 (show Rd w A5 n5 XX from hSw.2.reads _ (.head _)) c5
                  go_simp
                  all_goals (with_reducible rfl)
                try simp only [Act.put, List.setIfInBounds_toArray, List.set_cons_zero, List.set_cons_succ]
                refine wpAnyH_take (i := 9) (oi := ⟨some 129, _, _, _, _, _⟩) (v := ?_) rfl (by kernel_rfl) (by kernel_rfl) (by kernel_rfl) (fun _ _ _ h => h) (Or.inl ⟨by rfl, ?_⟩) (by assumption) ?_
                rotate_left
                · intro w hSw
                  (try dsimp only at hSw)
                  go_simp
                  all_goals (with_reducible rfl)
                try simp only [Act.put, List.setIfInBounds_toArray, List.set_cons_zero, List.set_cons_succ]
                refine wpAnyH_take (i := 10) (oi := ⟨some 130, _, _, _, _, _⟩) (v := ?_) rfl (by kernel_rfl) (by kernel_rfl) (by kernel_rfl) (fun _ _ _ h => h) (Or.inl ⟨by rfl, ?_⟩) (by assumption) ?_
                rotate_left
                · intro w hSw
                  (try dsimp only at hSw)
                  go_simp
                  all_goals (with_reducible rfl)
                try simp only [Act.put, List.setIfInBounds_toArray, List.set_cons_zero, List.set_cons_succ]
                refine wpAnyH_done (by kernel_rfl) ?_ _
                have HB := Lib.hid hHeld
                clear hHeld
                obtain ⟨m0, m1, m2, m3, m4, m5, m6⟩ := arr7 (HB.out.2.rows _ (.head _))
                obtain ⟨g0, g1, g2, g3', g4, g5, g6'⟩ := arr7 (HB.out.2.rows _ (.tail _ (.head _)))
                obtain ⟨r0, r1, r2, r3, r4, r5, r6⟩ := fro7 (HB.out.2.rows _ (.tail _ (.head _)))
                go_wp2
                have hE := row7 (v0 := .int .i64 (a : Int)) (v1 := .int .i64 (b : Int)) (v2 := .int .u8 (cc : Int)) (v3 := .int .i64 (d : Int)) (v4 := .slice I i mc) (v5 := .slice A4 q4 c4) (v6 := .int .i64 (e : Int)) (HB.out.2.rows _ (.tail _ (.head _)))
                refine bodyPost_ret (v := .tuple #[.agg #[.int .i64 (a : Int), .int .i64 (b : Int), .int .u8 (cc : Int), .int .i64 (d : Int), .slice I i mc, .slice A4 q4 c4, .int .i64 (e : Int)], .int .i64 0]) ?_ rfl ?_
                · rw [results_cell_tmp rfl]
                  simp [asAddr, Result.andThen, load34 hE]
                · rw [HFN.out]
                  exact ⟨I, i, mc, A4, q4, c4, rfl, IL.but (HB.out.2.ils _ (.head _)) but7 (fun j hj => by have := (HIb.out j hj).2; simpa using this), by omega, rd_but (HB.out.2.reads _ (.tail _ (.head _))) but7 (fun j hj => by have := (HJ.out j hj).2; simpa using this), by omega, HB.out.1.trans (but7.below HB.out.1.size (fun i hi => by have := List.mem_singleton.1 hi; omega))⟩
              · skip
                rw [if_neg (fun h => hEq h.2)] at hra
                have hne : (encT ⟨(a : Int), (b : Int), (cc : Int), (d : Int), L, bl, (e : Int)⟩ == body) = false := beq_eq_false_iff_ne.2 hEq
                rw [hra] at hfn
                have HFN := Lib.hid (show getT t bs = (zeroT, 110) from hfn)
                clear hfn hra hR hEq
                obtain ⟨XX, hXX⟩ : ∃ X, encT ⟨(a : Int), (b : Int), (cc : Int), (d : Int), L, bl, (e : Int)⟩ = X := ⟨_, rfl⟩
                rw [hXX] at hne
                have HXX := Lib.hid hXX
                clear hXX
                go_wp2_with fail
                refine wp_region_held_drew (S := Bk w [(q, #[.int .i64 (a : Int), .int .i64 (b : Int), .int .u8 (cc : Int), .int .i64 (d : Int), .slice I i mc, .slice A4 q4 c4, .int .i64 (e : Int)], 34), (gr, #[.int .i64 0, .int .i64 0, .int .u8 0, .int .i64 0, .slice none 0 0, .slice none 0 0, .int .i64 0], 34)] [(A4, q4, bl), (A2, n2, body)] [(I, i, L)]) (by kernel_rfl) (HB.out.drew) (fun hHeld => ?_)
                clear HB
                refine wpAnyH_take (i := 0) (oi := ⟨some 120, _, _, _, _, _⟩) (v := ?_) rfl (by kernel_rfl) (by kernel_rfl) (by kernel_rfl) (fun _ _ _ h => h) (Or.inl ⟨by rfl, ?_⟩) (by assumption) ?_
                rotate_left
                · intro w hSw
                  obtain ⟨l0, l1, l2, l3, l4, l5, l6⟩ := arr7 (hSw.2.rows _ (.head _))
                  go_simp
                  all_goals (with_reducible rfl)
                try simp only [Act.put, List.setIfInBounds_toArray, List.set_cons_zero, List.set_cons_succ]
                refine wpAnyH_ready (rs := [1]) (by as_aux_lemma => kernel_rfl) (by simp) (AllReadyH.cons (o := ⟨some 121, _, _, _, _, _⟩) rfl (fun K hK => ?_) AllReadyH.nil)
                go_simp
                refine (rrightT_is _ a b cc d e (m := i) (hHeld.2.ils _ (.head _)) (by omega) A4 q4 c4 bl (hHeld.2.reads _ (.head _)).len kR.out).mono ?_
                rintro e1 u1 ⟨rfl, hb⟩
                refine hK.out _ _ (hHeld.step hb) (fun hHeld => ?_)
                clear hK K hb
                try simp only [Act.put, List.setIfInBounds_toArray, List.set_cons_zero, List.set_cons_succ]
                refine wpAnyH_take (i := 2) (oi := ⟨some 122, _, _, _, _, _⟩) (v := ?_) rfl (by kernel_rfl) (by kernel_rfl) (by kernel_rfl) (fun _ _ _ h => h) (Or.inl ⟨by rfl, ?_⟩) (by assumption) ?_
                rotate_left
                · intro w hSw
                  (try dsimp only at hSw)
                  go_simp
                  all_goals (with_reducible rfl)
                try simp only [Act.put, List.setIfInBounds_toArray, List.set_cons_zero, List.set_cons_succ]
                refine wpAnyH_take (i := 3) (oi := ⟨some 123, _, _, _, _, _⟩) (v := ?_) rfl (by kernel_rfl) (by kernel_rfl) (by kernel_rfl) (fun _ _ _ h => h) (Or.inl ⟨by rfl, ?_⟩) (by assumption) ?_
                rotate_left
                · intro w hSw
                  (try dsimp only at hSw)
                  go_simp
                  all_goals (with_reducible rfl)
                try simp only [Act.put, List.setIfInBounds_toArray, List.set_cons_zero, List.set_cons_succ]
                refine wpAnyH_take (i := 4) (oi := ⟨some 124, _, _, _, _, _⟩) (v := ?_) rfl (by kernel_rfl) (by kernel_rfl) (by kernel_rfl) (fun _ _ _ h => h) (Or.inl ⟨by rfl, ?_⟩) (by assumption) ?_
                rotate_left
                · intro w hSw
                  obtain ⟨l0, l1, l2, l3, l4, l5, l6⟩ := arr7 (hSw.2.rows _ (.head _))
                  go_simp
                  all_goals (with_reducible rfl)
                try simp only [Act.put, List.setIfInBounds_toArray, List.set_cons_zero, List.set_cons_succ]
                refine wpAnyH_take (i := 7) (oi := ⟨some 127, _, _, _, _, _⟩) (v := ?_) rfl (by kernel_rfl) (by kernel_rfl) (by kernel_rfl) (fun _ _ _ h => h) (Or.inl ⟨by rfl, ?_⟩) (by assumption) ?_
                rotate_left
                · intro w hSw
                  (try dsimp only at hSw)
                  go_simp
                  all_goals (with_reducible rfl)
                try simp only [Act.put, List.setIfInBounds_toArray, List.set_cons_zero, List.set_cons_succ]
                refine wpAnyH_take (i := 8) (oi := ⟨some 128, _, _, _, _, _⟩) (v := ?_) rfl (by kernel_rfl) (by kernel_rfl) (by kernel_rfl) (fun _ _ _ h => h) (Or.inl ⟨by rfl, ?_⟩) (by assumption) ?_
                rotate_left
                · intro w hSw
                  have k1 := conv_str (P := Try.prog) Try.underlying23 Try.underlying5 Try.underlying9 (show Rd w A2 n2 body from hSw.2.reads _ (.tail _ (.head _))) c2
                  go_simp
                  all_goals (with_reducible rfl)
                try simp only [Act.put, List.setIfInBounds_toArray, List.set_cons_zero, List.set_cons_succ]
                refine wpAnyH_ready (rs := [5]) (by as_aux_lemma => kernel_rfl) (by simp) (AllReadyH.cons (o := ⟨some 125, _, _, _, _, _⟩) rfl (fun K hK => ?_) AllReadyH.nil)
                go_simp
                refine (tellB_is _ a b cc d e hRb.out.1.1 hRb.out.1.2 hRb.out.2.1.1 hRb.out.2.1.2 hRb.out.2.2 (m := i) (hHeld.2.ils _ (.head _)) (by omega) HAll.out bl (n := q4) (hHeld.2.reads _ (.head _)) (by omega)).mono ?_
                rintro e1 u2 ⟨A5, n5, c5, rfl, hr5, hn5, hb⟩
                rw [HXX.out] at hr5
                refine hK.out _ _ (hHeld.step hb) (fun hHeld => ?_)
                clear hK K
                replace hHeld := hHeld.add hr5
                refine wpAnyH_stronger (S' := Bk w [(q, #[.int .i64 (a : Int), .int .i64 (b : Int), .int .u8 (cc : Int), .int .i64 (d : Int), .slice I i mc, .slice A4 q4 c4, .int .i64 (e : Int)], 34), (gr, #[.int .i64 0, .int .i64 0, .int .u8 0, .int .i64 0, .slice none 0 0, .slice none 0 0, .int .i64 0], 34)] [(A5, n5, XX), (A4, q4, bl), (A2, n2, body)] [(I, i, L)]) (fun _ h => h.less) _ _ _ _ ?_
                clear hr5 hb
                try simp only [Act.put, List.setIfInBounds_toArray, List.set_cons_zero, List.set_cons_succ]
                refine wpAnyH_take (i := 6) (oi := ⟨some 126, _, _, _, _, _⟩) (v := ?_) rfl (by kernel_rfl) (by kernel_rfl) (by kernel_rfl) (fun _ _ _ h => h) (Or.inl ⟨by rfl, ?_⟩) (by assumption) ?_
                rotate_left
                · intro w hSw
                  have k1 := conv_str (P := Try.prog) Try.underlying23 Try.underlying5 Try.underlying9 (show Rd w A5 n5 XX from hSw.2.reads _ (.head _)) c5
                  go_simp
                  all_goals (with_reducible rfl)
                try simp only [Act.put, List.setIfInBounds_toArray, List.set_cons_zero, List.set_cons_succ]
                refine wpAnyH_take (i := 9) (oi := ⟨some 129, _, _, _, _, _⟩) (v := ?_) rfl (by kernel_rfl) (by kernel_rfl) (by kernel_rfl) (fun _ _ _ h => h) (Or.inl ⟨by rfl, ?_⟩) (by assumption) ?_
                rotate_left
                · intro w hSw
                  (try dsimp only at hSw)
                  go_simp
                  all_goals (with_reducible rfl)
                try simp only [Act.put, List.setIfInBounds_toArray, List.set_cons_zero, List.set_cons_succ]
                refine wpAnyH_take (i := 10) (oi := ⟨some 130, _, _, _, _, _⟩) (v := ?_) rfl (by kernel_rfl) (by kernel_rfl) (by kernel_rfl) (fun _ _ _ h => h) (Or.inl ⟨by rfl, ?_⟩) (by assumption) ?_
                rotate_left
                · intro w hSw
                  (try dsimp only at hSw)
                  go_simp
                  all_goals (with_reducible rfl)
                try simp only [Act.put, List.setIfInBounds_toArray, List.set_cons_zero, List.set_cons_succ]
                refine wpAnyH_done (by kernel_rfl) ?_ _
                have HB := Lib.hid hHeld
                clear hHeld
                obtain ⟨g0, g1, g2, g3', g4, g5, g6'⟩ := arr7 (HB.out.2.rows _ (.tail _ (.head _)))
                obtain ⟨r0, r1, r2, r3, r4, r5, r6⟩ := fro7 (HB.out.2.rows _ (.tail _ (.head _)))
                go_wp2
                have hE := row7 (v0 := .int .i64 0) (v1 := .int .i64 0) (v2 := .int .u8 0) (v3 := .int .i64 0) (v4 := .slice none 0 0) (v5 := .slice none 0 0) (v6 := .int .i64 0) (HB.out.2.rows _ (.tail _ (.head _)))
                refine bodyPost_ret (v := .tuple #[.agg #[.int .i64 0, .int .i64 0, .int .u8 0, .int .i64 0, .slice none 0 0, .slice none 0 0, .int .i64 0], .int .i64 110]) ?_ rfl ?_
                · rw [results_cell_tmp rfl]
                  simp [asAddr, Result.andThen, load34 hE]
                · rw [HFN.out]
                  exact rgotT_no _ (HB.out.1.trans (but7.below HB.out.1.size (fun i hi => by have := List.mem_singleton.1 hi; omega)))
            · skip
              have kR := Lib.hid (show decide (RightT ⟨(a : Int), (b : Int), (cc : Int), (d : Int), L, bl, (e : Int)⟩) = false from decide_eq_false hR)
              rw [if_neg (fun h => hR h.1)] at hra
              rw [hra] at hfn
              have HFN := Lib.hid (show getT t bs = (zeroT, 110) from hfn)
              clear hfn hra hR
              go_wp2_with fail
              refine wp_region_held_drew (S := Bk w [(q, #[.int .i64 (a : Int), .int .i64 (b : Int), .int .u8 (cc : Int), .int .i64 (d : Int), .slice I i mc, .slice A4 q4 c4, .int .i64 (e : Int)], 34), (gr, #[.int .i64 0, .int .i64 0, .int .u8 0, .int .i64 0, .slice none 0 0, .slice none 0 0, .int .i64 0], 34)] [(A4, q4, bl), (A2, n2, body)] [(I, i, L)]) (by kernel_rfl) (HB.out.drew) (fun hHeld => ?_)
              clear HB
              refine wpAnyH_take (i := 0) (oi := ⟨some 120, _, _, _, _, _⟩) (v := ?_) rfl (by kernel_rfl) (by kernel_rfl) (by kernel_rfl) (fun _ _ _ h => h) (Or.inl ⟨by rfl, ?_⟩) (by assumption) ?_
              rotate_left
              · intro w hSw
                obtain ⟨l0, l1, l2, l3, l4, l5, l6⟩ := arr7 (hSw.2.rows _ (.head _))
                go_simp
                all_goals (with_reducible rfl)
              try simp only [Act.put, List.setIfInBounds_toArray, List.set_cons_zero, List.set_cons_succ]
              refine wpAnyH_ready (rs := [1]) (by as_aux_lemma => kernel_rfl) (by simp) (AllReadyH.cons (o := ⟨some 121, _, _, _, _, _⟩) rfl (fun K hK => ?_) AllReadyH.nil)
              go_simp
              refine (rrightT_is _ a b cc d e (m := i) (hHeld.2.ils _ (.head _)) (by omega) A4 q4 c4 bl (hHeld.2.reads _ (.head _)).len kR.out).mono ?_
              rintro e1 u1 ⟨rfl, hb⟩
              refine hK.out _ _ (hHeld.step hb) (fun hHeld => ?_)
              clear hK K hb
              try simp only [Act.put, List.setIfInBounds_toArray, List.set_cons_zero, List.set_cons_succ]
              refine wpAnyH_take (i := 2) (oi := ⟨some 122, _, _, _, _, _⟩) (v := ?_) rfl (by kernel_rfl) (by kernel_rfl) (by kernel_rfl) (fun _ _ _ h => h) (Or.inl ⟨by rfl, ?_⟩) (by assumption) ?_
              rotate_left
              · intro w hSw
                (try dsimp only at hSw)
                go_simp
                all_goals (with_reducible rfl)
              try simp only [Act.put, List.setIfInBounds_toArray, List.set_cons_zero, List.set_cons_succ]
              refine wpAnyH_take (i := 3) (oi := ⟨some 123, _, _, _, _, _⟩) (v := ?_) rfl (by kernel_rfl) (by kernel_rfl) (by kernel_rfl) (fun _ _ _ h => h) (Or.inl ⟨by rfl, ?_⟩) (by assumption) ?_
              rotate_left
              · intro w hSw
                (try dsimp only at hSw)
                go_simp
                all_goals (with_reducible rfl)
              try simp only [Act.put, List.setIfInBounds_toArray, List.set_cons_zero, List.set_cons_succ]
              refine wpAnyH_take (i := 4) (oi := ⟨some 124, _, _, _, _, _⟩) (v := undef) rfl (by as_aux_lemma => kernel_rfl) (by as_aux_lemma => kernel_rfl) (by as_aux_lemma => kernel_rfl) (fun _ _ _ h => h) (Or.inr ⟨by rfl, rfl⟩) (by assumption) ?_
              try simp only [Act.put, List.setIfInBounds_toArray, List.set_cons_zero, List.set_cons_succ]
              refine wpAnyH_take (i := 5) (oi := ⟨some 125, _, _, _, _, _⟩) (v := undef) rfl (by as_aux_lemma => kernel_rfl) (by as_aux_lemma => kernel_rfl) (by as_aux_lemma => kernel_rfl) (fun _ _ _ h => h) (Or.inr ⟨by rfl, rfl⟩) (by assumption) ?_
              try simp only [Act.put, List.setIfInBounds_toArray, List.set_cons_zero, List.set_cons_succ]
              refine wpAnyH_take (i := 6) (oi := ⟨some 126, _, _, _, _, _⟩) (v := undef) rfl (by as_aux_lemma => kernel_rfl) (by as_aux_lemma => kernel_rfl) (by as_aux_lemma => kernel_rfl) (fun _ _ _ h => h) (Or.inr ⟨by rfl, rfl⟩) (by assumption) ?_
              try simp only [Act.put, List.setIfInBounds_toArray, List.set_cons_zero, List.set_cons_succ]
              refine wpAnyH_take (i := 7) (oi := ⟨some 127, _, _, _, _, _⟩) (v := undef) rfl (by as_aux_lemma => kernel_rfl) (by as_aux_lemma => kernel_rfl) (by as_aux_lemma => kernel_rfl) (fun _ _ _ h => h) (Or.inr ⟨by rfl, rfl⟩) (by assumption) ?_
              try simp only [Act.put, List.setIfInBounds_toArray, List.set_cons_zero, List.set_cons_succ]
              refine wpAnyH_take (i := 8) (oi := ⟨some 128, _, _, _, _, _⟩) (v := undef) rfl (by as_aux_lemma => kernel_rfl) (by as_aux_lemma => kernel_rfl) (by as_aux_lemma => kernel_rfl) (fun _ _ _ h => h) (Or.inr ⟨by rfl, rfl⟩) (by assumption) ?_
              try simp only [Act.put, List.setIfInBounds_toArray, List.set_cons_zero, List.set_cons_succ]
              refine wpAnyH_take (i := 9) (oi := ⟨some 129, _, _, _, _, _⟩) (v := undef) rfl (by as_aux_lemma => kernel_rfl) (by as_aux_lemma => kernel_rfl) (by as_aux_lemma => kernel_rfl) (fun _ _ _ h => h) (Or.inr ⟨by rfl, rfl⟩) (by assumption) ?_
              try simp only [Act.put, List.setIfInBounds_toArray, List.set_cons_zero, List.set_cons_succ]
              refine wpAnyH_take (i := 10) (oi := ⟨some 130, _, _, _, _, _⟩) (v := ?_) rfl (by kernel_rfl) (by kernel_rfl) (by kernel_rfl) (fun _ _ _ h => h) (Or.inl ⟨by rfl, ?_⟩) (by assumption) ?_
              rotate_left
              · intro w hSw
                (try dsimp only at hSw)
                go_simp
                all_goals (with_reducible rfl)
              try simp only [Act.put, List.setIfInBounds_toArray, List.set_cons_zero, List.set_cons_succ]
              refine wpAnyH_done (by kernel_rfl) ?_ _
              have HB := Lib.hid hHeld
              clear hHeld
              obtain ⟨g0, g1, g2, g3', g4, g5, g6'⟩ := arr7 (HB.out.2.rows _ (.tail _ (.head _)))
              obtain ⟨r0, r1, r2, r3, r4, r5, r6⟩ := fro7 (HB.out.2.rows _ (.tail _ (.head _)))
              go_wp2
              have hE := row7 (v0 := .int .i64 0) (v1 := .int .i64 0) (v2 := .int .u8 0) (v3 := .int .i64 0) (v4 := .slice none 0 0) (v5 := .slice none 0 0) (v6 := .int .i64 0) (HB.out.2.rows _ (.tail _ (.head _)))
              refine bodyPost_ret (v := .tuple #[.agg #[.int .i64 0, .int .i64 0, .int .u8 0, .int .i64 0, .slice none 0 0, .slice none 0 0, .int .i64 0], .int .i64 110]) ?_ rfl ?_
              · rw [results_cell_tmp rfl]
                simp [asAddr, Result.andThen, load34 hE]
              · rw [HFN.out]
                exact rgotT_no _ (HB.out.1.trans (but7.below HB.out.1.size (fun i hi => by have := List.mem_singleton.1 hi; omega)))
          · skip
            rw [if_pos hE4] at hra
            rw [hra] at hfn
            have hE5 : ((E4 : Int) != 0) = true := by simp; omega
            have HFN := Lib.hid (show getT t bs = (zeroT, 110) from hfn)
            clear hfn hra hE4
            obtain ⟨g0, g1, g2, g3', g4, g5, g6'⟩ := arr7 (HB.out.2.rows _ (.head _))
            obtain ⟨r0, r1, r2, r3, r4, r5, r6⟩ := fro7 (HB.out.2.rows _ (.head _))
            go_wp2
            have hE := row7 (v0 := .int .i64 0) (v1 := .int .i64 0) (v2 := .int .u8 0) (v3 := .int .i64 0) (v4 := .slice none 0 0) (v5 := .slice none 0 0) (v6 := .int .i64 0) (HB.out.2.rows _ (.head _))
            refine bodyPost_ret (v := .tuple #[.agg #[.int .i64 0, .int .i64 0, .int .u8 0, .int .i64 0, .slice none 0 0, .slice none 0 0, .int .i64 0], .int .i64 110]) ?_ rfl ?_
            · rw [results_cell_tmp rfl]
              simp [asAddr, Result.andThen, load34 hE]
            · rw [HFN.out]
              exact rgotT_no _ (HB.out.1.trans (but7.below HB.out.1.size (fun i hi => by have := List.mem_singleton.1 hi; omega)))
  · skip
    rw [if_neg hE0] at hfn
    have hE1 : ((E : Int) != 0) = true := by simp; omega
    have HFN := Lib.hid hfn
    clear hfn hE0
    obtain ⟨g0, g1, g2, g3', g4, g5, g6'⟩ := arr7 (HB.out.2.rows _ (.head _))
    obtain ⟨r0, r1, r2, r3, r4, r5, r6⟩ := fro7 (HB.out.2.rows _ (.head _))
    go_wp2
    have hE := row7 (v0 := .int .i64 0) (v1 := .int .i64 0) (v2 := .int .u8 0) (v3 := .int .i64 0) (v4 := .slice none 0 0) (v5 := .slice none 0 0) (v6 := .int .i64 0) (HB.out.2.rows _ (.head _))
    refine bodyPost_ret (v := .tuple #[.agg #[.int .i64 0, .int .i64 0, .int .u8 0, .int .i64 0, .slice none 0 0, .slice none 0 0, .int .i64 0], .int .i64 (E : Int)]) ?_ rfl ?_
    · rw [results_cell_tmp rfl]
      simp [asAddr, Result.andThen, load34 hE]
    · rw [HFN.out]
      exact rgotT_no _ (HB.out.1.trans (but7.below HB.out.1.size (fun i hi => by have := List.mem_singleton.1 hi; omega)))
end
end Go.Proofs.Ytmiapegecoaccaa
