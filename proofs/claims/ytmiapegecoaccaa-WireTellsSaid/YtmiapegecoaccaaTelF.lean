/- The reference's GetAsk. -/
import Derived.Test.YtmiapegecoaccaaTelE
import Derived.Test.YtmiapegecoaccaaTelP
namespace Go.Proofs.Ytmiapegecoaccaa
open Go.RowKit Go.Coop
set_option maxRecDepth 100000
theorem rdV_at0 {w : World} {g n : Nat} {vs : List Value} (h : RdV w (some ⟨g, 0, none⟩) n vs) {k : Nat} {v : Value} (hk : vs[k]? = some v) : w.cell? ⟨g, k, none⟩ = some v := by
  have hlt : k < n := by rw [← h.len]; exact (List.getElem?_eq_some_iff.1 hk).1
  obtain ⟨ad, v', e, _, h1, h2⟩ := h.at_ hlt
  injection e with e
  subst e
  rw [hk] at h1
  injection h1 with h1
  subst h1
  rw [← h2]
  congr 1
  unfold Addr.add
  split <;> simp_all
/-- numbers in a row -/
def NumAt (u : World) (g : Nat) (l : List Nat) : Prop := g < u.heap.size ∧ ∀ (k x : Nat), l[k]? = some x → u.cell? ⟨g, k, none⟩ = some (.int .i64 (x : Int))
theorem NumAt.below {u u' : World} {g : Nat} {l : List Nat} {Z : Nat} (h : NumAt u g l) (hb : Below Z u u') (hZ : u.heap.size ≤ Z) : NumAt u' g l :=
  ⟨Nat.lt_of_lt_of_le h.1 hb.size, fun k x hk => (hb.cell (show g < Z by have := h.1; omega)).trans (h.2 k x hk)⟩
def Bn (w : World) (R : List (Nat × Array Value × TypeId)) (B : List (Option Addr × Nat × List UInt8)) (I : List (Option Addr × Nat × List InfP)) (g : Nat) (l : List Nat) (u : World) : Prop := Bk w R B I u ∧ NumAt u g l
theorem Bn.drew {w u : World} {R : List (Nat × Array Value × TypeId)} {B : List (Option Addr × Nat × List UInt8)} {I : List (Option Addr × Nat × List InfP)} {g : Nat} {l : List Nat} (h : Bn w R B I g l u) : Bn w R B I g l u.drew := ⟨h.1.drew, h.2⟩
theorem Bn.step {w u u' : World} {R : List (Nat × Array Value × TypeId)} {B : List (Option Addr × Nat × List UInt8)} {I : List (Option Addr × Nat × List InfP)} {g : Nat} {l : List Nat} (h : Bn w R B I g l u) (hb : Below u.heap.size u u') : Bn w R B I g l u' := ⟨h.1.step hb, h.2.below hb (Nat.le_refl _)⟩
theorem NumAt.six {u : World} {g : Nat} {a b c d e f : Nat} (h : NumAt u g [a, b, c, d, e, f]) : u.cell? ⟨g, 0, none⟩ = some (.int .i64 (a : Int)) ∧ u.cell? ⟨g, 1, none⟩ = some (.int .i64 (b : Int)) ∧ u.cell? ⟨g, 2, none⟩ = some (.int .i64 (c : Int)) ∧ u.cell? ⟨g, 3, none⟩ = some (.int .i64 (d : Int)) ∧ u.cell? ⟨g, 4, none⟩ = some (.int .i64 (e : Int)) ∧ u.cell? ⟨g, 5, none⟩ = some (.int .i64 (f : Int)) :=
  ⟨h.2 0 a rfl, h.2 1 b rfl, h.2 2 c rfl, h.2 3 d rfl, h.2 4 e rfl, h.2 5 f rfl⟩
theorem num_of {w : World} {base : Nat} {A : Option Addr} {n c : Nat} {l : List Nat} (h : OwnV w base 3 A n c (l.map NV)) (hn : 0 < n) : ∃ g, A = some ⟨g, 0, none⟩ ∧ base ≤ g ∧ NumAt w g l := by
  have hrd := h.rd
  rcases h.row.2 with ⟨hv, h0⟩ | ⟨g, cap, cur, hv, hb, hg, _⟩
  · omega
  · injection hv with a _ _
    subst a
    refine ⟨g, rfl, hb, (Array.getElem?_eq_some_iff.1 hg).1, fun k x hk => ?_⟩
    exact rdV_at0 hrd (by rw [List.getElem?_map, hk]; rfl)
theorem blobR_le (b : List UInt8) (x : Nat) : (blobR b x).1.length ≤ 65536 := by
  unfold blobR getB
  split
  · simp
  · split
    · simp
    · split
      · simp
      · simp only
        rw [List.length_take]
        omega
theorem six_of {l : List Nat} (h : l.length = 6) : ∃ a b c d e f, l = [a, b, c, d, e, f] := by
  match l, h with
  | [a, b, c, d, e, f], _ => exact ⟨a, b, c, d, e, f, rfl⟩
/-- an ask whose bytes are read, and an error -/
def RGotA (w : World) (r : AskP × Int) (e : Ending) (w' : World) : Prop := ∃ A n c, e = .returned (.tuple #[askV r.1 A n c, .int .i64 r.2]) ∧ Rd w' A n r.1.bytes ∧ n ≤ 1000000 ∧ Below w.heap.size w w'
theorem rgotA_no {w w' : World} (x : Int) (h : Below w.heap.size w w') : RGotA w (zeroA, x) (.returned (.tuple #[.agg #[.int .i64 0, .int .i64 0, .int .u8 0, .int .i64 0, .int .i64 0, .int .i64 0, .slice none 0 0], .int .i64 x])) w' := ⟨none, 0, 0, rfl, Rd.nil _ _, by omega, h⟩
section
variable (w : World)
set_option maxHeartbeats 4000000 in
theorem rgetA_is {ad : Addr} {t : Nat → Nat} (hT : TabAt w ad t) (had : ad.block < w.heap.size) {X : Option Addr} {xn xc : Nat} {bs : List UInt8} (hr : Rd w X xn bs) (hxn : xn ≤ 1000000) (hxc : xn ≤ xc) :
    Calls Try.prog 25 #[.pointer (some ad), .slice X xn xc] w (RGotA w (getA t bs)) := by
  obtain ⟨gr, hgr⟩ : ∃ g, w.heap.size = g := ⟨_, rfl⟩
  obtain ⟨w1, hw1⟩ : ∃ x, w.alloc (.cells #[.int .i64 0, .int .i64 0, .int .u8 0, .int .i64 0, .int .i64 0, .int .i64 0, .slice none 0 0] 25) = x := ⟨_, rfl⟩
  obtain ⟨hb1, hx1⟩ := box_new hw1
  rw [hgr] at hx1
  have HB := Lib.hid (And.intro hb1 hx1)
  have HR := Lib.hid (And.intro (hr.below hb1 (Nat.le_refl _)) (And.intro (hT.below had hb1) (And.intro hr.len (show ad.block < w1.heap.size from Nat.lt_of_lt_of_le had hb1.size))))
  have hz25 := (zero_of_info zero25).1
  clear hb1 hx1 hr hT had
  go_enter Try.func25, Try.ntmps25
  go_wp2_with fail
  (try rw [hgr])
  (try rw [hw1])
  refine (runseal_any ad t X xn xc bs w1 HR.out.2.1 HR.out.2.2.2 HR.out.1 (by omega) hxc).mono ?_
  rintro e w2 ⟨A2, n2, c2, rfl, hr2, hc2, hb2⟩
  obtain ⟨⟨body, E⟩, hu⟩ : ∃ r, unsealed (crc t (bs.take (xn - 4))) bs = r := ⟨_, rfl⟩
  have hul := unsealed_len (crc t (bs.take (xn - 4))) bs
  rw [hu] at hr2 hul ⊢
  simp only at hr2 ⊢
  have hn2 : n2 ≤ 1000000 := by rw [← hr2.len]; have := HR.out.2.2.1; simp only at hul ⊢; omega
  have hfn : getA t bs = if E = 0 then orZ zeroA (parseA body) else (zeroA, (E : Int)) := by
    unfold getA unsl
    rw [HR.out.2.2.1, hu]
  have hbl := hr2.len
  (try simp only at hbl)
  replace HB := Lib.hid (((((Bk.start w).step HB.out.1).row HB.out.2).step hb2).add hr2)
  clear hb2 hr2 hu hul hw1
  by_cases hE0 : E = 0
  · skip
    subst hE0
    rw [if_pos rfl] at hfn
    by_cases h0 : n2 = 0
    · have hs : (n2 : Int) < 1 := by omega
      have hb0 : body = [] := List.eq_nil_of_length_eq_zero (by omega)
      have hrn : rn body 6 n2 = none := by rw [hb0, h0]; decide +kernel
      have hpn : parseA body = none := by
        rw [← refA_eq, refA_of, hbl, show min 1 n2 = n2 by omega, hrn]
        rfl
      clear h0 hb0
      go_wp2_with fail
      refine (rnums_6 w2 (n := n2) (HB.out.2.reads _ (.head _)) hn2 n2 (Nat.le_refl _)).mono ?_
      rintro e w3 ⟨hb3, hn3⟩
      rw [hrn] at hn3
      replace HB := Lib.hid (HB.out.step hb3)
      clear hrn hb3 hs
      rcases hn3 with ⟨-, rfl⟩ | ⟨p, A3, c3, hp, _⟩
      · rw [hpn] at hfn
        have HFN := Lib.hid (show getA t bs = (zeroA, 110) from hfn)
        clear hfn hpn
        obtain ⟨g0, g1, g2, g3, g4, g5, g6⟩ := arr7 (HB.out.2.rows _ (.head _))
        obtain ⟨r0, r1, r2, r3, r4, r5, r6⟩ := fro7 (HB.out.2.rows _ (.head _))
        go_wp2
        have hE := row7 (v0 := .int .i64 0) (v1 := .int .i64 0) (v2 := .int .u8 0) (v3 := .int .i64 0) (v4 := .int .i64 0) (v5 := .int .i64 0) (v6 := .slice none 0 0) (HB.out.2.rows _ (.head _))
        refine bodyPost_ret (v := .tuple #[.agg #[.int .i64 0, .int .i64 0, .int .u8 0, .int .i64 0, .int .i64 0, .int .i64 0, .slice none 0 0], .int .i64 110]) ?_ rfl ?_
        · rw [results_cell_tmp rfl]
          simp [asAddr, Result.andThen, load25 hE]
        · rw [HFN.out]
          exact rgotA_no _ (HB.out.1.trans (but7.below HB.out.1.size (fun i hi => by have := List.mem_singleton.1 hi; omega)))
      · cases hp
    have hs : (1 : Int) ≤ (n2 : Int) := by omega
    have hm1 : min 1 n2 = 1 := by omega
    clear h0
    go_wp2_with fail
    refine (rnums_61 w2 (n := n2) (HB.out.2.reads _ (.head _)) hn2 (by omega)).mono ?_
    rintro e w3 ⟨hb3, hn3⟩
    obtain ⟨rr, hrn⟩ : ∃ rr, rn body 6 1 = rr := ⟨_, rfl⟩
    rw [hrn] at hn3
    have hra : parseA body = refAof body rr := by
      rw [← refA_eq, refA_of, hbl, hm1, hrn]
    replace HB := Lib.hid (HB.out.step hb3)
    have hl6 : ∀ p, rr = some p → p.1.length = 6 := fun p hp => rn_len (hrn.trans hp)
    clear hrn hb3 hs hm1
    rcases hn3 with ⟨rfl, rfl⟩ | ⟨⟨l, x⟩, A3, c3, rfl, rfl, ho3, hx3⟩
    · skip
      simp only [refAof] at hra
      rw [hra] at hfn
      have HFN := Lib.hid (show getA t bs = (zeroA, 110) from hfn)
      clear hfn hra
      obtain ⟨g0, g1, g2, g3, g4, g5, g6⟩ := arr7 (HB.out.2.rows _ (.head _))
      obtain ⟨r0, r1, r2, r3, r4, r5, r6⟩ := fro7 (HB.out.2.rows _ (.head _))
      go_wp2
      have hE := row7 (v0 := .int .i64 0) (v1 := .int .i64 0) (v2 := .int .u8 0) (v3 := .int .i64 0) (v4 := .int .i64 0) (v5 := .int .i64 0) (v6 := .slice none 0 0) (HB.out.2.rows _ (.head _))
      refine bodyPost_ret (v := .tuple #[.agg #[.int .i64 0, .int .i64 0, .int .u8 0, .int .i64 0, .int .i64 0, .int .i64 0, .slice none 0 0], .int .i64 110]) ?_ rfl ?_
      · rw [results_cell_tmp rfl]
        simp [asAddr, Result.andThen, load25 hE]
      · rw [HFN.out]
        exact rgotA_no _ (HB.out.1.trans (but7.below HB.out.1.size (fun i hi => by have := List.mem_singleton.1 hi; omega)))
    · skip
      simp only [refAof] at hra ho3 hx3
      obtain ⟨a, b, cc, d, e, f, rfl⟩ := six_of (hl6 _ rfl)
      simp only [List.length_cons, List.length_nil, Nat.reduceAdd] at ho3 ⊢
      obtain ⟨g3, rfl, hg3, hnum⟩ := num_of ho3 (by omega)
      have HN := Lib.hid hnum
      clear ho3 hnum hl6 hg3
      simp only [List.getD_cons_zero, List.getD_cons_succ] at hra
      obtain ⟨m0, m1, m2, m3, m4, m5⟩ := HN.out.six
      have hx0 : decide ((x : Int) < 0) = false := by simp
      by_cases h9 : 9 < cc
      · skip
        rw [if_pos h9] at hra
        have h9' : decide ((9 : Int) < (cc : Int)) = true := by simp; omega
        rw [hra] at hfn
        have HFN := Lib.hid (show getA t bs = (zeroA, 110) from hfn)
        clear hfn hra h9
        obtain ⟨g0, g1, g2, g3, g4, g5, g6⟩ := arr7 (HB.out.2.rows _ (.head _))
        obtain ⟨r0, r1, r2, r3, r4, r5, r6⟩ := fro7 (HB.out.2.rows _ (.head _))
        go_wp2
        have hE := row7 (v0 := .int .i64 0) (v1 := .int .i64 0) (v2 := .int .u8 0) (v3 := .int .i64 0) (v4 := .int .i64 0) (v5 := .int .i64 0) (v6 := .slice none 0 0) (HB.out.2.rows _ (.head _))
        refine bodyPost_ret (v := .tuple #[.agg #[.int .i64 0, .int .i64 0, .int .u8 0, .int .i64 0, .int .i64 0, .int .i64 0, .slice none 0 0], .int .i64 110]) ?_ rfl ?_
        · rw [results_cell_tmp rfl]
          simp [asAddr, Result.andThen, load25 hE]
        · rw [HFN.out]
          exact rgotA_no _ (HB.out.1.trans (but7.below HB.out.1.size (fun i hi => by have := List.mem_singleton.1 hi; omega)))
      rw [if_neg h9] at hra
      have h9' : decide ((9 : Int) < (cc : Int)) = false := by simp; omega
      have hw8 : IntKind.u8.wrap (cc : Int) = (cc : Int) := by rw [IntKind.wrap_u8]; omega
      have HRA := Lib.hid (And.intro hra hfn)
      clear hra hfn
      go_wp2_with fail
      refine (rgetBlob_any A2 n2 c2 body (x : Int) 65536 w3 (HB.out.2.reads _ (.head _)) hc2 (by omega) (by omega)).mono ?_
      have HB3 := HB
      rintro e w4 ⟨A4, q4, c4, rfl, hr4, hj4, hb4⟩
      obtain ⟨hra, hfn⟩ := HRA.out
      clear HRA
      obtain ⟨⟨bl, y, E4⟩, hblob⟩ : ∃ r, blobR body x = r := ⟨_, rfl⟩
      have hb2 : getB body (getU body (x : Int)) 65536 = (bl, y, E4) := hblob
      rw [hblob] at hra
      rw [hb2] at hr4 ⊢
      simp only at hr4 hra ⊢
      have hlb : q4 ≤ 65536 := by
        rw [← hr4.len]
        have := blobR_le body x
        rw [hblob] at this
        exact this
      replace HB := Lib.hid ((HB.out.step hb4).add hr4)
      replace HN := Lib.hid (HN.out.below hb4 (Nat.le_refl _))
      have HJ := Lib.hid (show ∀ j, A4.map (·.block) = some j → j ∉ [gr] from fun j hj hm => by
        have h1 := hj4 j hj
        have h2 := List.mem_singleton.1 hm
        have h3 : gr < w3.heap.size := lt_of_block (HB3.out.2.rows _ (.head _))
        omega)
      clear HB3 hj4 hb2 hblob hr4 hb4 m0 m1 m2 m3 m4 m5
      by_cases hE4 : E4 = 0
      · skip
        subst hE4
        rw [if_neg (by simp)] at hra
        have HRA := Lib.hid (And.intro hra hfn)
        clear hra hfn
        go_wp2_with fail
        refine wp_region_held_drew (S := Bn w [(gr, #[.int .i64 0, .int .i64 0, .int .u8 0, .int .i64 0, .int .i64 0, .int .i64 0, .slice none 0 0], 25)] [(A4, q4, bl), (A2, n2, body)] [] g3 [a, b, cc, d, e, f]) (by kernel_rfl) (Bn.drew ⟨HB.out, HN.out⟩) (fun hHeld => ?_)
        have H4 := Lib.hid (show Bn w [(gr, #[.int .i64 0, .int .i64 0, .int .u8 0, .int .i64 0, .int .i64 0, .int .i64 0, .slice none 0 0], 25)] [(A4, q4, bl), (A2, n2, body)] [] g3 [a, b, cc, d, e, f] w4 from ⟨HB.out, HN.out⟩)
        clear HB HN
        refine wpAnyH_take (i := 0) (oi := ⟨some 50, _, _, _, _, _⟩) (v := ?_) rfl (by kernel_rfl) (by kernel_rfl) (by kernel_rfl) (fun _ _ _ h => h) (Or.inl ⟨by rfl, ?_⟩) (by assumption) ?_
        rotate_left
        · intro w hSw
          (try dsimp only at hSw)
          go_simp
          all_goals (with_reducible rfl)
        try simp only [Act.put, List.setIfInBounds_toArray, List.set_cons_zero, List.set_cons_succ]
        refine wpAnyH_take (i := 1) (oi := ⟨some 51, _, _, _, _, _⟩) (v := ?_) rfl (by kernel_rfl) (by kernel_rfl) (by kernel_rfl) (fun _ _ _ h => h) (Or.inl ⟨by rfl, ?_⟩) (by assumption) ?_
        rotate_left
        · intro w hSw
          (try dsimp only at hSw)
          go_simp
          all_goals (with_reducible rfl)
        try simp only [Act.put, List.setIfInBounds_toArray, List.set_cons_zero, List.set_cons_succ]
        refine wpAnyH_take (i := 2) (oi := ⟨some 52, _, _, _, _, _⟩) (v := ?_) rfl (by kernel_rfl) (by kernel_rfl) (by kernel_rfl) (fun _ _ _ h => h) (Or.inl ⟨by rfl, ?_⟩) (by assumption) ?_
        rotate_left
        · intro w hSw
          obtain ⟨l0, l1, l2, l3, l4, l5⟩ := hSw.2.six
          go_simp
          all_goals (with_reducible rfl)
        try simp only [Act.put, List.setIfInBounds_toArray, List.set_cons_zero, List.set_cons_succ]
        refine wpAnyH_take (i := 3) (oi := ⟨some 53, _, _, _, _, _⟩) (v := ?_) rfl (by kernel_rfl) (by kernel_rfl) (by kernel_rfl) (fun _ _ _ h => h) (Or.inl ⟨by rfl, ?_⟩) (by assumption) ?_
        rotate_left
        · intro w hSw
          (try dsimp only at hSw)
          go_simp
          all_goals (with_reducible rfl)
        try simp only [Act.put, List.setIfInBounds_toArray, List.set_cons_zero, List.set_cons_succ]
        refine wpAnyH_take (i := 4) (oi := ⟨some 54, _, _, _, _, _⟩) (v := ?_) rfl (by kernel_rfl) (by kernel_rfl) (by kernel_rfl) (fun _ _ _ h => h) (Or.inl ⟨by rfl, ?_⟩) (by assumption) ?_
        rotate_left
        · intro w hSw
          (try dsimp only at hSw)
          go_simp
          all_goals (with_reducible rfl)
        try simp only [Act.put, List.setIfInBounds_toArray, List.set_cons_zero, List.set_cons_succ]
        refine wpAnyH_take (i := 5) (oi := ⟨some 55, _, _, _, _, _⟩) (v := ?_) rfl (by kernel_rfl) (by kernel_rfl) (by kernel_rfl) (fun _ _ _ h => h) (Or.inl ⟨by rfl, ?_⟩) (by assumption) ?_
        rotate_left
        · intro w hSw
          obtain ⟨l0, l1, l2, l3, l4, l5⟩ := hSw.2.six
          go_simp
          all_goals (with_reducible rfl)
        try simp only [Act.put, List.setIfInBounds_toArray, List.set_cons_zero, List.set_cons_succ]
        refine wpAnyH_take (i := 6) (oi := ⟨some 56, _, _, _, _, _⟩) (v := ?_) rfl (by kernel_rfl) (by kernel_rfl) (by kernel_rfl) (fun _ _ _ h => h) (Or.inl ⟨by rfl, ?_⟩) (by assumption) ?_
        rotate_left
        · intro w hSw
          (try dsimp only at hSw)
          go_simp
          all_goals (with_reducible rfl)
        try simp only [Act.put, List.setIfInBounds_toArray, List.set_cons_zero, List.set_cons_succ]
        refine wpAnyH_take (i := 7) (oi := ⟨some 57, _, _, _, _, _⟩) (v := ?_) rfl (by kernel_rfl) (by kernel_rfl) (by kernel_rfl) (fun _ _ _ h => h) (Or.inl ⟨by rfl, ?_⟩) (by assumption) ?_
        rotate_left
        · intro w hSw
          (try dsimp only at hSw)
          go_simp
          all_goals (with_reducible rfl)
        try simp only [Act.put, List.setIfInBounds_toArray, List.set_cons_zero, List.set_cons_succ]
        refine wpAnyH_take (i := 8) (oi := ⟨some 58, _, _, _, _, _⟩) (v := ?_) rfl (by kernel_rfl) (by kernel_rfl) (by kernel_rfl) (fun _ _ _ h => h) (Or.inl ⟨by rfl, ?_⟩) (by assumption) ?_
        rotate_left
        · intro w hSw
          obtain ⟨l0, l1, l2, l3, l4, l5⟩ := hSw.2.six
          go_simp
          all_goals (with_reducible rfl)
        try simp only [Act.put, List.setIfInBounds_toArray, List.set_cons_zero, List.set_cons_succ]
        refine wpAnyH_take (i := 10) (oi := ⟨some 60, _, _, _, _, _⟩) (v := ?_) rfl (by kernel_rfl) (by kernel_rfl) (by kernel_rfl) (fun _ _ _ h => h) (Or.inl ⟨by rfl, ?_⟩) (by assumption) ?_
        rotate_left
        · intro w hSw
          (try dsimp only at hSw)
          go_simp
          all_goals (with_reducible rfl)
        try simp only [Act.put, List.setIfInBounds_toArray, List.set_cons_zero, List.set_cons_succ]
        refine wpAnyH_take (i := 11) (oi := ⟨some 61, _, _, _, _, _⟩) (v := ?_) rfl (by kernel_rfl) (by kernel_rfl) (by kernel_rfl) (fun _ _ _ h => h) (Or.inl ⟨by rfl, ?_⟩) (by assumption) ?_
        rotate_left
        · intro w hSw
          (try dsimp only at hSw)
          go_simp
          all_goals (with_reducible rfl)
        try simp only [Act.put, List.setIfInBounds_toArray, List.set_cons_zero, List.set_cons_succ]
        refine wpAnyH_take (i := 12) (oi := ⟨some 62, _, _, _, _, _⟩) (v := ?_) rfl (by kernel_rfl) (by kernel_rfl) (by kernel_rfl) (fun _ _ _ h => h) (Or.inl ⟨by rfl, ?_⟩) (by assumption) ?_
        rotate_left
        · intro w hSw
          obtain ⟨l0, l1, l2, l3, l4, l5⟩ := hSw.2.six
          go_simp
          all_goals (with_reducible rfl)
        try simp only [Act.put, List.setIfInBounds_toArray, List.set_cons_zero, List.set_cons_succ]
        refine wpAnyH_take (i := 13) (oi := ⟨some 63, _, _, _, _, _⟩) (v := ?_) rfl (by kernel_rfl) (by kernel_rfl) (by kernel_rfl) (fun _ _ _ h => h) (Or.inl ⟨by rfl, ?_⟩) (by assumption) ?_
        rotate_left
        · intro w hSw
          (try dsimp only at hSw)
          go_simp
          all_goals (with_reducible rfl)
        try simp only [Act.put, List.setIfInBounds_toArray, List.set_cons_zero, List.set_cons_succ]
        refine wpAnyH_take (i := 14) (oi := ⟨some 64, _, _, _, _, _⟩) (v := ?_) rfl (by kernel_rfl) (by kernel_rfl) (by kernel_rfl) (fun _ _ _ h => h) (Or.inl ⟨by rfl, ?_⟩) (by assumption) ?_
        rotate_left
        · intro w hSw
          (try dsimp only at hSw)
          go_simp
          all_goals (with_reducible rfl)
        try simp only [Act.put, List.setIfInBounds_toArray, List.set_cons_zero, List.set_cons_succ]
        refine wpAnyH_take (i := 15) (oi := ⟨some 65, _, _, _, _, _⟩) (v := ?_) rfl (by kernel_rfl) (by kernel_rfl) (by kernel_rfl) (fun _ _ _ h => h) (Or.inl ⟨by rfl, ?_⟩) (by assumption) ?_
        rotate_left
        · intro w hSw
          obtain ⟨l0, l1, l2, l3, l4, l5⟩ := hSw.2.six
          go_simp
          all_goals (with_reducible rfl)
        try simp only [Act.put, List.setIfInBounds_toArray, List.set_cons_zero, List.set_cons_succ]
        refine wpAnyH_take (i := 16) (oi := ⟨some 66, _, _, _, _, _⟩) (v := ?_) rfl (by kernel_rfl) (by kernel_rfl) (by kernel_rfl) (fun _ _ _ h => h) (Or.inl ⟨by rfl, ?_⟩) (by assumption) ?_
        rotate_left
        · intro w hSw
          (try dsimp only at hSw)
          go_simp
          all_goals (with_reducible rfl)
        try simp only [Act.put, List.setIfInBounds_toArray, List.set_cons_zero, List.set_cons_succ]
        refine wpAnyH_take (i := 17) (oi := ⟨some 67, _, _, _, _, _⟩) (v := ?_) rfl (by kernel_rfl) (by kernel_rfl) (by kernel_rfl) (fun _ _ _ h => h) (Or.inl ⟨by rfl, ?_⟩) (by assumption) ?_
        rotate_left
        · intro w hSw
          (try dsimp only at hSw)
          go_simp
          all_goals (with_reducible rfl)
        try simp only [Act.put, List.setIfInBounds_toArray, List.set_cons_zero, List.set_cons_succ]
        refine wpAnyH_take (i := 18) (oi := ⟨some 68, _, _, _, _, _⟩) (v := ?_) rfl (by kernel_rfl) (by kernel_rfl) (by kernel_rfl) (fun _ _ _ h => h) (Or.inl ⟨by rfl, ?_⟩) (by assumption) ?_
        rotate_left
        · intro w hSw
          obtain ⟨l0, l1, l2, l3, l4, l5⟩ := hSw.2.six
          go_simp
          all_goals (with_reducible rfl)
        try simp only [Act.put, List.setIfInBounds_toArray, List.set_cons_zero, List.set_cons_succ]
        refine wpAnyH_take (i := 9) (oi := ⟨some 59, _, _, _, _, _⟩) (v := ?_) rfl (by kernel_rfl) (by kernel_rfl) (by kernel_rfl) (fun _ _ _ h => h) (Or.inl ⟨by rfl, ?_⟩) (by assumption) ?_
        rotate_left
        · intro w hSw
          (try dsimp only at hSw)
          go_simp
          all_goals (with_reducible rfl)
        try simp only [Act.put, List.setIfInBounds_toArray, List.set_cons_zero, List.set_cons_succ]
        refine wpAnyH_take (i := 19) (oi := ⟨some 69, _, _, _, _, _⟩) (v := ?_) rfl (by kernel_rfl) (by kernel_rfl) (by kernel_rfl) (fun _ _ _ h => h) (Or.inl ⟨by rfl, ?_⟩) (by assumption) ?_
        rotate_left
        · intro w hSw
          (try dsimp only at hSw)
          go_simp
          all_goals (with_reducible rfl)
        try simp only [Act.put, List.setIfInBounds_toArray, List.set_cons_zero, List.set_cons_succ]
        refine wpAnyH_take (i := 20) (oi := ⟨some 70, _, _, _, _, _⟩) (v := ?_) rfl (by kernel_rfl) (by kernel_rfl) (by kernel_rfl) (fun _ _ _ h => h) (Or.inl ⟨by rfl, ?_⟩) (by assumption) ?_
        rotate_left
        · intro w hSw
          (try dsimp only at hSw)
          go_simp
          all_goals (with_reducible rfl)
        try simp only [Act.put, List.setIfInBounds_toArray, List.set_cons_zero, List.set_cons_succ]
        refine wpAnyH_ready (rs := [21]) (by as_aux_lemma => kernel_rfl) (by simp) (AllReadyH.cons (o := ⟨some 12, _, _, _, _, _⟩) rfl (fun K hK => ?_) AllReadyH.nil)
        go_simp
        refine hK.out _ _ (Bn.drew (H4.out.step ((Below.refl _ _).alloc (Nat.le_refl _) (.cells #[.int .i64 0, .int .i64 0, .int .u8 0, .int .i64 0, .int .i64 0, .int .i64 0, .slice none 0 0] 25)))) (fun hHeld => ?_)
        clear hK K
        try simp only [Act.put, List.setIfInBounds_toArray, List.set_cons_zero, List.set_cons_succ]
        refine wpAnyH_ready (rs := [22]) (by as_aux_lemma => kernel_rfl) (by simp) (AllReadyH.cons (o := ⟨none, _, _, _, _, _⟩) rfl (fun K hK => ?_) AllReadyH.nil)
        go_simp
        refine hK.out _ _ (Bn.drew (H4.out.step ((Below.refl _ _).alloc (Nat.le_refl _) (.cells #[.int .i64 (a : Int), .int .i64 (b : Int), .int .u8 (cc : Int), .int .i64 (d : Int), .int .i64 (e : Int), .int .i64 (f : Int), .slice A4 q4 c4] 25)))) (fun hHeld => ?_)
        clear hK K
        try simp only [Act.put, List.setIfInBounds_toArray, List.set_cons_zero, List.set_cons_succ]
        refine wpAnyH_done (by kernel_rfl) ?_ _
        obtain ⟨q, hq⟩ : ∃ q, w4.heap.size = q := ⟨_, rfl⟩
        obtain ⟨w5, hw5⟩ : ∃ v, (w4.alloc (.cells #[.int .i64 (a : Int), .int .i64 (b : Int), .int .u8 (cc : Int), .int .i64 (d : Int), .int .i64 (e : Int), .int .i64 (f : Int), .slice A4 q4 c4] 25)).drew = v := ⟨_, rfl⟩
        have hrow : Row w5 q #[.int .i64 (a : Int), .int .i64 (b : Int), .int .u8 (cc : Int), .int .i64 (d : Int), .int .i64 (e : Int), .int .i64 (f : Int), .slice A4 q4 c4] 25 := by rw [← hw5, ← hq]; exact heap_alloc_new _ _
        rw [hw5] at hHeld ⊢
        rw [hq]
        have HB := Lib.hid (hHeld.1.row hrow)
        obtain ⟨hra, hfn⟩ := HRA.out
        clear hHeld hrow hw5 hq H4 HRA
        by_cases hR : RightA (Go.Coop.askV [a, b, cc, d, e, f] bl)
        · skip
          have kR := Lib.hid (decide_eq_true hR)
          have hRR := hR
          obtain ⟨⟨r1, r2, r3⟩, ⟨r4, r5, r6⟩, r7⟩ := hRR
          simp only [Go.Coop.askV, List.getD_cons_zero, List.getD_cons_succ] at r1 r2 r3 r4 r5 r6
          have hRb := Lib.hid (show (a ≤ 1099511627776 ∧ b ≤ 1099511627776) ∧ (cc ≤ 6 ∧ d ≤ 1099511627776) ∧ (e ≤ 254 ∧ f ≤ 1099511627776) from by omega)
          clear r1 r2 r3 r4 r5 r6 r7
          by_cases hEq : encA (Go.Coop.askV [a, b, cc, d, e, f] bl) = body
          · skip
            rw [if_pos ⟨hR, hEq⟩] at hra
            have hne : (encA ⟨(a : Int), (b : Int), (cc : Int), (d : Int), (e : Int), (f : Int), bl⟩ == body) = true := beq_iff_eq.2 hEq
            rw [hra] at hfn
            have HFN := Lib.hid (show getA t bs = (⟨(a : Int), (b : Int), (cc : Int), (d : Int), (e : Int), (f : Int), bl⟩, 0) from hfn)
            clear hfn hra hR hEq
            obtain ⟨XX, hXX⟩ : ∃ X, encA ⟨(a : Int), (b : Int), (cc : Int), (d : Int), (e : Int), (f : Int), bl⟩ = X := ⟨_, rfl⟩
            rw [hXX] at hne
            have HXX := Lib.hid hXX
            clear hXX
            go_wp2_with fail
            refine wp_region_held_drew (S := Bk w [(q, #[.int .i64 (a : Int), .int .i64 (b : Int), .int .u8 (cc : Int), .int .i64 (d : Int), .int .i64 (e : Int), .int .i64 (f : Int), .slice A4 q4 c4], 25), (gr, #[.int .i64 0, .int .i64 0, .int .u8 0, .int .i64 0, .int .i64 0, .int .i64 0, .slice none 0 0], 25)] [(A4, q4, bl), (A2, n2, body)] []) (by kernel_rfl) (HB.out.drew) (fun hHeld => ?_)
            clear HB
            refine wpAnyH_take (i := 0) (oi := ⟨some 71, _, _, _, _, _⟩) (v := ?_) rfl (by kernel_rfl) (by kernel_rfl) (by kernel_rfl) (fun _ _ _ h => h) (Or.inl ⟨by rfl, ?_⟩) (by assumption) ?_
            rotate_left
            · intro w hSw
              obtain ⟨l0, l1, l2, l3, l4, l5, l6⟩ := arr7 (hSw.2.rows _ (.head _))
              go_simp
              all_goals (with_reducible rfl)
            try simp only [Act.put, List.setIfInBounds_toArray, List.set_cons_zero, List.set_cons_succ]
            refine wpAnyH_ready (rs := [1]) (by as_aux_lemma => kernel_rfl) (by simp) (AllReadyH.cons (o := ⟨some 72, _, _, _, _, _⟩) rfl (fun K hK => ?_) AllReadyH.nil)
            go_simp
            refine (rrightA_is _ a b cc d e f bl A4 q4 c4 (hHeld.2.reads _ (.head _)).len kR.out).mono ?_
            rintro e1 u1 ⟨rfl, hb⟩
            refine hK.out _ _ (hHeld.step hb) (fun hHeld => ?_)
            clear hK K hb
            try simp only [Act.put, List.setIfInBounds_toArray, List.set_cons_zero, List.set_cons_succ]
            refine wpAnyH_take (i := 2) (oi := ⟨some 73, _, _, _, _, _⟩) (v := ?_) rfl (by kernel_rfl) (by kernel_rfl) (by kernel_rfl) (fun _ _ _ h => h) (Or.inl ⟨by rfl, ?_⟩) (by assumption) ?_
            rotate_left
            · intro w hSw
              (try dsimp only at hSw)
              go_simp
              all_goals (with_reducible rfl)
            try simp only [Act.put, List.setIfInBounds_toArray, List.set_cons_zero, List.set_cons_succ]
            refine wpAnyH_take (i := 3) (oi := ⟨some 74, _, _, _, _, _⟩) (v := ?_) rfl (by kernel_rfl) (by kernel_rfl) (by kernel_rfl) (fun _ _ _ h => h) (Or.inl ⟨by rfl, ?_⟩) (by assumption) ?_
            rotate_left
            · intro w hSw
              (try dsimp only at hSw)
              go_simp
              all_goals (with_reducible rfl)
            try simp only [Act.put, List.setIfInBounds_toArray, List.set_cons_zero, List.set_cons_succ]
            refine wpAnyH_take (i := 4) (oi := ⟨some 75, _, _, _, _, _⟩) (v := ?_) rfl (by kernel_rfl) (by kernel_rfl) (by kernel_rfl) (fun _ _ _ h => h) (Or.inl ⟨by rfl, ?_⟩) (by assumption) ?_
            rotate_left
            · intro w hSw
              obtain ⟨l0, l1, l2, l3, l4, l5, l6⟩ := arr7 (hSw.2.rows _ (.head _))
              go_simp
              all_goals (with_reducible rfl)
            try simp only [Act.put, List.setIfInBounds_toArray, List.set_cons_zero, List.set_cons_succ]
            refine wpAnyH_take (i := 7) (oi := ⟨some 78, _, _, _, _, _⟩) (v := ?_) rfl (by kernel_rfl) (by kernel_rfl) (by kernel_rfl) (fun _ _ _ h => h) (Or.inl ⟨by rfl, ?_⟩) (by assumption) ?_
            rotate_left
            · intro w hSw
              (try dsimp only at hSw)
              go_simp
              all_goals (with_reducible rfl)
            try simp only [Act.put, List.setIfInBounds_toArray, List.set_cons_zero, List.set_cons_succ]
            refine wpAnyH_take (i := 8) (oi := ⟨some 79, _, _, _, _, _⟩) (v := ?_) rfl (by kernel_rfl) (by kernel_rfl) (by kernel_rfl) (fun _ _ _ h => h) (Or.inl ⟨by rfl, ?_⟩) (by assumption) ?_
            rotate_left
            · intro w hSw
              have k1 := conv_str (P := Try.prog) Try.underlying23 Try.underlying5 Try.underlying9 (show Rd w A2 n2 body from hSw.2.reads _ (.tail _ (.head _))) c2
              go_simp
              all_goals (with_reducible rfl)
            try simp only [Act.put, List.setIfInBounds_toArray, List.set_cons_zero, List.set_cons_succ]
            refine wpAnyH_ready (rs := [5]) (by as_aux_lemma => kernel_rfl) (by simp) (AllReadyH.cons (o := ⟨some 76, _, _, _, _, _⟩) rfl (fun K hK => ?_) AllReadyH.nil)
            go_simp
            refine (askB_is _ a b cc d e f hRb.out.1.1 hRb.out.1.2 hRb.out.2.1.1 hRb.out.2.1.2 hRb.out.2.2.1 hRb.out.2.2.2 bl (n := q4) (hHeld.2.reads _ (.head _)) (by omega)).mono ?_
            rintro e1 u2 ⟨A5, n5, c5, rfl, hr5, hn5, hb⟩
            rw [HXX.out] at hr5
            refine hK.out _ _ (hHeld.step hb) (fun hHeld => ?_)
            clear hK K
            replace hHeld := hHeld.add hr5
            refine wpAnyH_stronger (S' := Bk w [(q, #[.int .i64 (a : Int), .int .i64 (b : Int), .int .u8 (cc : Int), .int .i64 (d : Int), .int .i64 (e : Int), .int .i64 (f : Int), .slice A4 q4 c4], 25), (gr, #[.int .i64 0, .int .i64 0, .int .u8 0, .int .i64 0, .int .i64 0, .int .i64 0, .slice none 0 0], 25)] [(A5, n5, XX), (A4, q4, bl), (A2, n2, body)] []) (fun _ h => h.less) _ _ _ _ ?_
            clear hr5 hb
            try simp only [Act.put, List.setIfInBounds_toArray, List.set_cons_zero, List.set_cons_succ]
            refine wpAnyH_take (i := 6) (oi := ⟨some 77, _, _, _, _, _⟩) (v := ?_) rfl (by kernel_rfl) (by kernel_rfl) (by kernel_rfl) (fun _ _ _ h => h) (Or.inl ⟨by rfl, ?_⟩) (by assumption) ?_
            rotate_left
            · intro w hSw
              have k1 := conv_str (P := Try.prog) Try.underlying23 Try.underlying5 Try.underlying9 (show Rd w A5 n5 XX from hSw.2.reads _ (.head _)) c5
              go_simp
              all_goals (with_reducible rfl)
            try simp only [Act.put, List.setIfInBounds_toArray, List.set_cons_zero, List.set_cons_succ]
            refine wpAnyH_take (i := 9) (oi := ⟨some 80, _, _, _, _, _⟩) (v := ?_) rfl (by kernel_rfl) (by kernel_rfl) (by kernel_rfl) (fun _ _ _ h => h) (Or.inl ⟨by rfl, ?_⟩) (by assumption) ?_
            rotate_left
            · intro w hSw
              (try dsimp only at hSw)
              go_simp
              all_goals (with_reducible rfl)
            try simp only [Act.put, List.setIfInBounds_toArray, List.set_cons_zero, List.set_cons_succ]
            refine wpAnyH_take (i := 10) (oi := ⟨some 81, _, _, _, _, _⟩) (v := ?_) rfl (by kernel_rfl) (by kernel_rfl) (by kernel_rfl) (fun _ _ _ h => h) (Or.inl ⟨by rfl, ?_⟩) (by assumption) ?_
            rotate_left
            · intro w hSw
              (try dsimp only at hSw)
              go_simp
              all_goals (with_reducible rfl)
            try simp only [Act.put, List.setIfInBounds_toArray, List.set_cons_zero, List.set_cons_succ]
            refine wpAnyH_done (by kernel_rfl) ?_ _
            have HB := Lib.hid hHeld
            clear hHeld
            obtain ⟨m0, m1, m2, m3, m4, m5, m6⟩ := arr7 (HB.out.2.rows _ (.head _))
            obtain ⟨g0, g1, g2, g3, g4, g5, g6⟩ := arr7 (HB.out.2.rows _ (.tail _ (.head _)))
            obtain ⟨r0, r1, r2, r3, r4, r5, r6⟩ := fro7 (HB.out.2.rows _ (.tail _ (.head _)))
            go_wp2
            have hE := row7 (v0 := .int .i64 (a : Int)) (v1 := .int .i64 (b : Int)) (v2 := .int .u8 (cc : Int)) (v3 := .int .i64 (d : Int)) (v4 := .int .i64 (e : Int)) (v5 := .int .i64 (f : Int)) (v6 := .slice A4 q4 c4) (HB.out.2.rows _ (.tail _ (.head _)))
            refine bodyPost_ret (v := .tuple #[.agg #[.int .i64 (a : Int), .int .i64 (b : Int), .int .u8 (cc : Int), .int .i64 (d : Int), .int .i64 (e : Int), .int .i64 (f : Int), .slice A4 q4 c4], .int .i64 0]) ?_ rfl ?_
            · rw [results_cell_tmp rfl]
              simp [asAddr, Result.andThen, load25 hE]
            · rw [HFN.out]
              exact ⟨A4, q4, c4, rfl, rd_but (HB.out.2.reads _ (.tail _ (.head _))) but7 HJ.out, by omega, HB.out.1.trans (but7.below HB.out.1.size (fun i hi => by have := List.mem_singleton.1 hi; omega))⟩
          · skip
            rw [if_neg (fun h => hEq h.2)] at hra
            have hne : (encA ⟨(a : Int), (b : Int), (cc : Int), (d : Int), (e : Int), (f : Int), bl⟩ == body) = false := beq_eq_false_iff_ne.2 hEq
            rw [hra] at hfn
            have HFN := Lib.hid (show getA t bs = (zeroA, 110) from hfn)
            clear hfn hra hR hEq
            obtain ⟨XX, hXX⟩ : ∃ X, encA ⟨(a : Int), (b : Int), (cc : Int), (d : Int), (e : Int), (f : Int), bl⟩ = X := ⟨_, rfl⟩
            rw [hXX] at hne
            have HXX := Lib.hid hXX
            clear hXX
            go_wp2_with fail
            refine wp_region_held_drew (S := Bk w [(q, #[.int .i64 (a : Int), .int .i64 (b : Int), .int .u8 (cc : Int), .int .i64 (d : Int), .int .i64 (e : Int), .int .i64 (f : Int), .slice A4 q4 c4], 25), (gr, #[.int .i64 0, .int .i64 0, .int .u8 0, .int .i64 0, .int .i64 0, .int .i64 0, .slice none 0 0], 25)] [(A4, q4, bl), (A2, n2, body)] []) (by kernel_rfl) (HB.out.drew) (fun hHeld => ?_)
            clear HB
            refine wpAnyH_take (i := 0) (oi := ⟨some 71, _, _, _, _, _⟩) (v := ?_) rfl (by kernel_rfl) (by kernel_rfl) (by kernel_rfl) (fun _ _ _ h => h) (Or.inl ⟨by rfl, ?_⟩) (by assumption) ?_
            rotate_left
            · intro w hSw
              obtain ⟨l0, l1, l2, l3, l4, l5, l6⟩ := arr7 (hSw.2.rows _ (.head _))
              go_simp
              all_goals (with_reducible rfl)
            try simp only [Act.put, List.setIfInBounds_toArray, List.set_cons_zero, List.set_cons_succ]
            refine wpAnyH_ready (rs := [1]) (by as_aux_lemma => kernel_rfl) (by simp) (AllReadyH.cons (o := ⟨some 72, _, _, _, _, _⟩) rfl (fun K hK => ?_) AllReadyH.nil)
            go_simp
            refine (rrightA_is _ a b cc d e f bl A4 q4 c4 (hHeld.2.reads _ (.head _)).len kR.out).mono ?_
            rintro e1 u1 ⟨rfl, hb⟩
            refine hK.out _ _ (hHeld.step hb) (fun hHeld => ?_)
            clear hK K hb
            try simp only [Act.put, List.setIfInBounds_toArray, List.set_cons_zero, List.set_cons_succ]
            refine wpAnyH_take (i := 2) (oi := ⟨some 73, _, _, _, _, _⟩) (v := ?_) rfl (by kernel_rfl) (by kernel_rfl) (by kernel_rfl) (fun _ _ _ h => h) (Or.inl ⟨by rfl, ?_⟩) (by assumption) ?_
            rotate_left
            · intro w hSw
              (try dsimp only at hSw)
              go_simp
              all_goals (with_reducible rfl)
            try simp only [Act.put, List.setIfInBounds_toArray, List.set_cons_zero, List.set_cons_succ]
            refine wpAnyH_take (i := 3) (oi := ⟨some 74, _, _, _, _, _⟩) (v := ?_) rfl (by kernel_rfl) (by kernel_rfl) (by kernel_rfl) (fun _ _ _ h => h) (Or.inl ⟨by rfl, ?_⟩) (by assumption) ?_
            rotate_left
            · intro w hSw
              (try dsimp only at hSw)
              go_simp
              all_goals (with_reducible rfl)
            try simp only [Act.put, List.setIfInBounds_toArray, List.set_cons_zero, List.set_cons_succ]
            refine wpAnyH_take (i := 4) (oi := ⟨some 75, _, _, _, _, _⟩) (v := ?_) rfl (by kernel_rfl) (by kernel_rfl) (by kernel_rfl) (fun _ _ _ h => h) (Or.inl ⟨by rfl, ?_⟩) (by assumption) ?_
            rotate_left
            · intro w hSw
              obtain ⟨l0, l1, l2, l3, l4, l5, l6⟩ := arr7 (hSw.2.rows _ (.head _))
              go_simp
              all_goals (with_reducible rfl)
            try simp only [Act.put, List.setIfInBounds_toArray, List.set_cons_zero, List.set_cons_succ]
            refine wpAnyH_take (i := 7) (oi := ⟨some 78, _, _, _, _, _⟩) (v := ?_) rfl (by kernel_rfl) (by kernel_rfl) (by kernel_rfl) (fun _ _ _ h => h) (Or.inl ⟨by rfl, ?_⟩) (by assumption) ?_
            rotate_left
            · intro w hSw
              (try dsimp only at hSw)
              go_simp
              all_goals (with_reducible rfl)
            try simp only [Act.put, List.setIfInBounds_toArray, List.set_cons_zero, List.set_cons_succ]
            refine wpAnyH_take (i := 8) (oi := ⟨some 79, _, _, _, _, _⟩) (v := ?_) rfl (by kernel_rfl) (by kernel_rfl) (by kernel_rfl) (fun _ _ _ h => h) (Or.inl ⟨by rfl, ?_⟩) (by assumption) ?_
            rotate_left
            · intro w hSw
              have k1 := conv_str (P := Try.prog) Try.underlying23 Try.underlying5 Try.underlying9 (show Rd w A2 n2 body from hSw.2.reads _ (.tail _ (.head _))) c2
              go_simp
              all_goals (with_reducible rfl)
            try simp only [Act.put, List.setIfInBounds_toArray, List.set_cons_zero, List.set_cons_succ]
            refine wpAnyH_ready (rs := [5]) (by as_aux_lemma => kernel_rfl) (by simp) (AllReadyH.cons (o := ⟨some 76, _, _, _, _, _⟩) rfl (fun K hK => ?_) AllReadyH.nil)
            go_simp
            refine (askB_is _ a b cc d e f hRb.out.1.1 hRb.out.1.2 hRb.out.2.1.1 hRb.out.2.1.2 hRb.out.2.2.1 hRb.out.2.2.2 bl (n := q4) (hHeld.2.reads _ (.head _)) (by omega)).mono ?_
            rintro e1 u2 ⟨A5, n5, c5, rfl, hr5, hn5, hb⟩
            rw [HXX.out] at hr5
            refine hK.out _ _ (hHeld.step hb) (fun hHeld => ?_)
            clear hK K
            replace hHeld := hHeld.add hr5
            refine wpAnyH_stronger (S' := Bk w [(q, #[.int .i64 (a : Int), .int .i64 (b : Int), .int .u8 (cc : Int), .int .i64 (d : Int), .int .i64 (e : Int), .int .i64 (f : Int), .slice A4 q4 c4], 25), (gr, #[.int .i64 0, .int .i64 0, .int .u8 0, .int .i64 0, .int .i64 0, .int .i64 0, .slice none 0 0], 25)] [(A5, n5, XX), (A4, q4, bl), (A2, n2, body)] []) (fun _ h => h.less) _ _ _ _ ?_
            clear hr5 hb
            try simp only [Act.put, List.setIfInBounds_toArray, List.set_cons_zero, List.set_cons_succ]
            refine wpAnyH_take (i := 6) (oi := ⟨some 77, _, _, _, _, _⟩) (v := ?_) rfl (by kernel_rfl) (by kernel_rfl) (by kernel_rfl) (fun _ _ _ h => h) (Or.inl ⟨by rfl, ?_⟩) (by assumption) ?_
            rotate_left
            · intro w hSw
              have k1 := conv_str (P := Try.prog) Try.underlying23 Try.underlying5 Try.underlying9 (show Rd w A5 n5 XX from hSw.2.reads _ (.head _)) c5
              go_simp
              all_goals (with_reducible rfl)
            try simp only [Act.put, List.setIfInBounds_toArray, List.set_cons_zero, List.set_cons_succ]
            refine wpAnyH_take (i := 9) (oi := ⟨some 80, _, _, _, _, _⟩) (v := ?_) rfl (by kernel_rfl) (by kernel_rfl) (by kernel_rfl) (fun _ _ _ h => h) (Or.inl ⟨by rfl, ?_⟩) (by assumption) ?_
            rotate_left
            · intro w hSw
              (try dsimp only at hSw)
              go_simp
              all_goals (with_reducible rfl)
            try simp only [Act.put, List.setIfInBounds_toArray, List.set_cons_zero, List.set_cons_succ]
            refine wpAnyH_take (i := 10) (oi := ⟨some 81, _, _, _, _, _⟩) (v := ?_) rfl (by kernel_rfl) (by kernel_rfl) (by kernel_rfl) (fun _ _ _ h => h) (Or.inl ⟨by rfl, ?_⟩) (by assumption) ?_
            rotate_left
            · intro w hSw
              (try dsimp only at hSw)
              go_simp
              all_goals (with_reducible rfl)
            try simp only [Act.put, List.setIfInBounds_toArray, List.set_cons_zero, List.set_cons_succ]
            refine wpAnyH_done (by kernel_rfl) ?_ _
            have HB := Lib.hid hHeld
            clear hHeld
            obtain ⟨g0, g1, g2, g3, g4, g5, g6⟩ := arr7 (HB.out.2.rows _ (.tail _ (.head _)))
            obtain ⟨r0, r1, r2, r3, r4, r5, r6⟩ := fro7 (HB.out.2.rows _ (.tail _ (.head _)))
            go_wp2
            have hE := row7 (v0 := .int .i64 0) (v1 := .int .i64 0) (v2 := .int .u8 0) (v3 := .int .i64 0) (v4 := .int .i64 0) (v5 := .int .i64 0) (v6 := .slice none 0 0) (HB.out.2.rows _ (.tail _ (.head _)))
            refine bodyPost_ret (v := .tuple #[.agg #[.int .i64 0, .int .i64 0, .int .u8 0, .int .i64 0, .int .i64 0, .int .i64 0, .slice none 0 0], .int .i64 110]) ?_ rfl ?_
            · rw [results_cell_tmp rfl]
              simp [asAddr, Result.andThen, load25 hE]
            · rw [HFN.out]
              exact rgotA_no _ (HB.out.1.trans (but7.below HB.out.1.size (fun i hi => by have := List.mem_singleton.1 hi; omega)))
        · skip
          have kR := Lib.hid (decide_eq_false hR)
          rw [if_neg (fun h => hR h.1)] at hra
          rw [hra] at hfn
          have HFN := Lib.hid (show getA t bs = (zeroA, 110) from hfn)
          clear hfn hra hR
          go_wp2_with fail
          refine wp_region_held_drew (S := Bk w [(q, #[.int .i64 (a : Int), .int .i64 (b : Int), .int .u8 (cc : Int), .int .i64 (d : Int), .int .i64 (e : Int), .int .i64 (f : Int), .slice A4 q4 c4], 25), (gr, #[.int .i64 0, .int .i64 0, .int .u8 0, .int .i64 0, .int .i64 0, .int .i64 0, .slice none 0 0], 25)] [(A4, q4, bl), (A2, n2, body)] []) (by kernel_rfl) (HB.out.drew) (fun hHeld => ?_)
          clear HB
          refine wpAnyH_take (i := 0) (oi := ⟨some 71, _, _, _, _, _⟩) (v := ?_) rfl (by kernel_rfl) (by kernel_rfl) (by kernel_rfl) (fun _ _ _ h => h) (Or.inl ⟨by rfl, ?_⟩) (by assumption) ?_
          rotate_left
          · intro w hSw
            obtain ⟨l0, l1, l2, l3, l4, l5, l6⟩ := arr7 (hSw.2.rows _ (.head _))
            go_simp
            all_goals (with_reducible rfl)
          try simp only [Act.put, List.setIfInBounds_toArray, List.set_cons_zero, List.set_cons_succ]
          refine wpAnyH_ready (rs := [1]) (by as_aux_lemma => kernel_rfl) (by simp) (AllReadyH.cons (o := ⟨some 72, _, _, _, _, _⟩) rfl (fun K hK => ?_) AllReadyH.nil)
          go_simp
          refine (rrightA_is _ a b cc d e f bl A4 q4 c4 (hHeld.2.reads _ (.head _)).len kR.out).mono ?_
          rintro e1 u1 ⟨rfl, hb⟩
          refine hK.out _ _ (hHeld.step hb) (fun hHeld => ?_)
          clear hK K hb
          try simp only [Act.put, List.setIfInBounds_toArray, List.set_cons_zero, List.set_cons_succ]
          refine wpAnyH_take (i := 2) (oi := ⟨some 73, _, _, _, _, _⟩) (v := ?_) rfl (by kernel_rfl) (by kernel_rfl) (by kernel_rfl) (fun _ _ _ h => h) (Or.inl ⟨by rfl, ?_⟩) (by assumption) ?_
          rotate_left
          · intro w hSw
            (try dsimp only at hSw)
            go_simp
            all_goals (with_reducible rfl)
          try simp only [Act.put, List.setIfInBounds_toArray, List.set_cons_zero, List.set_cons_succ]
          refine wpAnyH_take (i := 3) (oi := ⟨some 74, _, _, _, _, _⟩) (v := ?_) rfl (by kernel_rfl) (by kernel_rfl) (by kernel_rfl) (fun _ _ _ h => h) (Or.inl ⟨by rfl, ?_⟩) (by assumption) ?_
          rotate_left
          · intro w hSw
            (try dsimp only at hSw)
            go_simp
            all_goals (with_reducible rfl)
          try simp only [Act.put, List.setIfInBounds_toArray, List.set_cons_zero, List.set_cons_succ]
          refine wpAnyH_take (i := 4) (oi := ⟨some 75, _, _, _, _, _⟩) (v := undef) rfl (by as_aux_lemma => kernel_rfl) (by as_aux_lemma => kernel_rfl) (by as_aux_lemma => kernel_rfl) (fun _ _ _ h => h) (Or.inr ⟨by rfl, rfl⟩) (by assumption) ?_
          try simp only [Act.put, List.setIfInBounds_toArray, List.set_cons_zero, List.set_cons_succ]
          refine wpAnyH_take (i := 5) (oi := ⟨some 76, _, _, _, _, _⟩) (v := undef) rfl (by as_aux_lemma => kernel_rfl) (by as_aux_lemma => kernel_rfl) (by as_aux_lemma => kernel_rfl) (fun _ _ _ h => h) (Or.inr ⟨by rfl, rfl⟩) (by assumption) ?_
          try simp only [Act.put, List.setIfInBounds_toArray, List.set_cons_zero, List.set_cons_succ]
          refine wpAnyH_take (i := 6) (oi := ⟨some 77, _, _, _, _, _⟩) (v := undef) rfl (by as_aux_lemma => kernel_rfl) (by as_aux_lemma => kernel_rfl) (by as_aux_lemma => kernel_rfl) (fun _ _ _ h => h) (Or.inr ⟨by rfl, rfl⟩) (by assumption) ?_
          try simp only [Act.put, List.setIfInBounds_toArray, List.set_cons_zero, List.set_cons_succ]
          refine wpAnyH_take (i := 7) (oi := ⟨some 78, _, _, _, _, _⟩) (v := undef) rfl (by as_aux_lemma => kernel_rfl) (by as_aux_lemma => kernel_rfl) (by as_aux_lemma => kernel_rfl) (fun _ _ _ h => h) (Or.inr ⟨by rfl, rfl⟩) (by assumption) ?_
          try simp only [Act.put, List.setIfInBounds_toArray, List.set_cons_zero, List.set_cons_succ]
          refine wpAnyH_take (i := 8) (oi := ⟨some 79, _, _, _, _, _⟩) (v := undef) rfl (by as_aux_lemma => kernel_rfl) (by as_aux_lemma => kernel_rfl) (by as_aux_lemma => kernel_rfl) (fun _ _ _ h => h) (Or.inr ⟨by rfl, rfl⟩) (by assumption) ?_
          try simp only [Act.put, List.setIfInBounds_toArray, List.set_cons_zero, List.set_cons_succ]
          refine wpAnyH_take (i := 9) (oi := ⟨some 80, _, _, _, _, _⟩) (v := undef) rfl (by as_aux_lemma => kernel_rfl) (by as_aux_lemma => kernel_rfl) (by as_aux_lemma => kernel_rfl) (fun _ _ _ h => h) (Or.inr ⟨by rfl, rfl⟩) (by assumption) ?_
          try simp only [Act.put, List.setIfInBounds_toArray, List.set_cons_zero, List.set_cons_succ]
          refine wpAnyH_take (i := 10) (oi := ⟨some 81, _, _, _, _, _⟩) (v := ?_) rfl (by kernel_rfl) (by kernel_rfl) (by kernel_rfl) (fun _ _ _ h => h) (Or.inl ⟨by rfl, ?_⟩) (by assumption) ?_
          rotate_left
          · intro w hSw
            (try dsimp only at hSw)
            go_simp
            all_goals (with_reducible rfl)
          try simp only [Act.put, List.setIfInBounds_toArray, List.set_cons_zero, List.set_cons_succ]
          refine wpAnyH_done (by kernel_rfl) ?_ _
          have HB := Lib.hid hHeld
          clear hHeld
          obtain ⟨g0, g1, g2, g3, g4, g5, g6⟩ := arr7 (HB.out.2.rows _ (.tail _ (.head _)))
          obtain ⟨r0, r1, r2, r3, r4, r5, r6⟩ := fro7 (HB.out.2.rows _ (.tail _ (.head _)))
          go_wp2
          have hE := row7 (v0 := .int .i64 0) (v1 := .int .i64 0) (v2 := .int .u8 0) (v3 := .int .i64 0) (v4 := .int .i64 0) (v5 := .int .i64 0) (v6 := .slice none 0 0) (HB.out.2.rows _ (.tail _ (.head _)))
          refine bodyPost_ret (v := .tuple #[.agg #[.int .i64 0, .int .i64 0, .int .u8 0, .int .i64 0, .int .i64 0, .int .i64 0, .slice none 0 0], .int .i64 110]) ?_ rfl ?_
          · rw [results_cell_tmp rfl]
            simp [asAddr, Result.andThen, load25 hE]
          · rw [HFN.out]
            exact rgotA_no _ (HB.out.1.trans (but7.below HB.out.1.size (fun i hi => by have := List.mem_singleton.1 hi; omega)))
      · skip
        rw [if_pos hE4] at hra
        rw [hra] at hfn
        have hE5 : ((E4 : Int) != 0) = true := by simp; omega
        have HFN := Lib.hid (show getA t bs = (zeroA, 110) from hfn)
        clear hfn hra hE4
        obtain ⟨g0, g1, g2, g3, g4, g5, g6⟩ := arr7 (HB.out.2.rows _ (.head _))
        obtain ⟨r0, r1, r2, r3, r4, r5, r6⟩ := fro7 (HB.out.2.rows _ (.head _))
        go_wp2
        have hE := row7 (v0 := .int .i64 0) (v1 := .int .i64 0) (v2 := .int .u8 0) (v3 := .int .i64 0) (v4 := .int .i64 0) (v5 := .int .i64 0) (v6 := .slice none 0 0) (HB.out.2.rows _ (.head _))
        refine bodyPost_ret (v := .tuple #[.agg #[.int .i64 0, .int .i64 0, .int .u8 0, .int .i64 0, .int .i64 0, .int .i64 0, .slice none 0 0], .int .i64 110]) ?_ rfl ?_
        · rw [results_cell_tmp rfl]
          simp [asAddr, Result.andThen, load25 hE]
        · rw [HFN.out]
          exact rgotA_no _ (HB.out.1.trans (but7.below HB.out.1.size (fun i hi => by have := List.mem_singleton.1 hi; omega)))
  · skip
    rw [if_neg hE0] at hfn
    have hE1 : ((E : Int) != 0) = true := by simp; omega
    have HFN := Lib.hid hfn
    clear hfn hE0
    obtain ⟨g0, g1, g2, g3, g4, g5, g6⟩ := arr7 (HB.out.2.rows _ (.head _))
    obtain ⟨r0, r1, r2, r3, r4, r5, r6⟩ := fro7 (HB.out.2.rows _ (.head _))
    go_wp2
    have hE := row7 (v0 := .int .i64 0) (v1 := .int .i64 0) (v2 := .int .u8 0) (v3 := .int .i64 0) (v4 := .int .i64 0) (v5 := .int .i64 0) (v6 := .slice none 0 0) (HB.out.2.rows _ (.head _))
    refine bodyPost_ret (v := .tuple #[.agg #[.int .i64 0, .int .i64 0, .int .u8 0, .int .i64 0, .int .i64 0, .int .i64 0, .slice none 0 0], .int .i64 (E : Int)]) ?_ rfl ?_
    · rw [results_cell_tmp rfl]
      simp [asAddr, Result.andThen, load25 hE]
    · rw [HFN.out]
      exact rgotA_no _ (HB.out.1.trans (but7.below HB.out.1.size (fun i hi => by have := List.mem_singleton.1 hi; omega)))
end
end Go.Proofs.Ytmiapegecoaccaa
