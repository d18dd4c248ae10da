/- The closure that reads the next number; the closures of GetAsk, getInfo. -/
import Derived.Test.YtmiapegecoaccaaWirD
import Derived.Laws.EntriesVeiled
namespace Go.Proofs.Ytmiapegecoaccaa
open Go.RowKit Go.Coop
set_option maxRecDepth 100000
abbrev nextV (bb ba bw : Nat) : Value := .func (.func 54) #[] #[.pointer (some ⟨bb, 0, none⟩), .pointer (some ⟨ba, 0, none⟩), .pointer (some ⟨bw, 0, none⟩)]
/-- a box holds that -/
def Box (w : World) (p : Nat) (v : Value) (E : TypeId) : Prop := w.heap[p]? = some (.cells #[v] E (0, 0))
theorem Box.cell {w : World} {p : Nat} {v : Value} {E : TypeId} (h : Box w p v E) : w.cell? ⟨p, 0, none⟩ = some v := cell_of_one h
theorem Box.free {w : World} {p : Nat} {v : Value} {E : TypeId} (h : Box w p v E) : w.frozen? ⟨p, 0, none⟩ = false := free_of_one h
theorem Box.lt {w : World} {p : Nat} {v : Value} {E : TypeId} (h : Box w p v E) : p < w.heap.size := lt_of_block h
theorem Box.but {gs : List Nat} {w w' : World} {p : Nat} {v : Value} {E : TypeId} (h : Box w p v E) (hb : But gs w w') (hg : p ∉ gs) : Box w' p v E := hb.cells h hg
theorem Box.below {B : Nat} {w w' : World} {p : Nat} {v : Value} {E : TypeId} (h : Box w p v E) (hb : Below B w w') (hB : w.heap.size ≤ B) : Box w' p v E := (hb.block p (by have := h.lt; omega)).trans h
theorem rd_but {gs : List Nat} {w w' : World} {A : Option Addr} {n : Nat} {l : List UInt8} (h : Rd w A n l) (hb : But gs w w') (hA : ∀ j, A.map (·.block) = some j → j ∉ gs) : Rd w' A n l :=
  ⟨h.len, fun hn => by
    obtain ⟨ad, e, hl, hc⟩ := h.cells hn
    subst e
    have hcell : w'.heap[ad.block]? = w.heap[ad.block]? := hb.block _ hl (hA _ rfl)
    refine ⟨ad, rfl, Nat.lt_of_lt_of_le hl hb.size, fun j c hj => ?_⟩
    rw [← hc j c hj]
    exact World.cell?_of_block (by rw [addr_add_block]; exact hcell)⟩
theorem own_but {gs : List Nat} {w w' : World} {B E n c : Nat} {A : Option Addr} {l : List UInt8} (h : Own w B E A n c l) (hb : But gs w w') (hA : ∀ j, A.map (·.block) = some j → j ∉ gs) : Own w' B E A n c l := by
  refine ⟨h.len, h.row.1, ?_⟩
  rcases h.row.2 with ⟨hv, hz⟩ | ⟨g, cap, cur, hv, h1, hg, h2⟩
  · exact .inl ⟨hv, hz⟩
  · refine .inr ⟨g, cap, cur, hv, h1, hb.cells hg (hA g ?_), h2⟩
    injection hv with a _ _
    rw [a]
    rfl
/-- where the reading stands -/
structure NSt (w : World) (bb ba bw : Nat) (A : Option Addr) (n c : Nat) (b : List UInt8) (s : Nat × Bool) : Prop where
  kb : Box w bb (.slice A n c) 23
  ka : Box w ba (.int .i64 (s.1 : Int)) 3
  kw : Box w bw (.bool (!s.2)) 4
  rd : Rd w A n b
  apart : ∀ j, A.map (·.block) = some j → j ≠ ba ∧ j ≠ bw
  small : n ≤ 1000000000
  cap : n ≤ c
  le : s.1 ≤ b.length
  old : ∀ j, A.map (·.block) = some j → j < w.heap.size
theorem NSt.but {gs : List Nat} {w w' : World} {bb ba bw n c : Nat} {A : Option Addr} {b : List UInt8} {s : Nat × Bool} (h : NSt w bb ba bw A n c b s) (hb : But gs w w') (h1 : bb ∉ gs) (h2 : ba ∉ gs) (h3 : bw ∉ gs) (hA : ∀ j, A.map (·.block) = some j → j ∉ gs) : NSt w' bb ba bw A n c b s :=
  ⟨h.kb.but hb h1, h.ka.but hb h2, h.kw.but hb h3, rd_but h.rd hb hA, h.apart, h.small, h.cap, h.le, fun j hj => Nat.lt_of_lt_of_le (h.old j hj) hb.size⟩
theorem NSt.below {B : Nat} {w w' : World} {bb ba bw n c : Nat} {A : Option Addr} {b : List UInt8} {s : Nat × Bool} (h : NSt w bb ba bw A n c b s) (hb : Below B w w') (hB : w.heap.size ≤ B) : NSt w' bb ba bw A n c b s :=
  ⟨h.kb.below hb hB, h.ka.below hb hB, h.kw.below hb hB, h.rd.below hb hB, h.apart, h.small, h.cap, h.le, fun j hj => Nat.lt_of_lt_of_le (h.old j hj) hb.size⟩
section
variable (w : World)
theorem next_is {bb ba bw n c : Nat} {A : Option Addr} {b : List UInt8} {s : Nat × Bool} (h : NSt w bb ba bw A n c b s) (most : Nat) (hm : most ≤ 1099511627776) :
    Calls Try.prog 54 #[.int .i64 (most : Int), .pointer (some ⟨bb, 0, none⟩), .pointer (some ⟨ba, 0, none⟩), .pointer (some ⟨bw, 0, none⟩)] w fun e w' => e = .returned (.int .i64 ((nx b most s).1 : Int)) ∧ NSt w' bb ba bw A n c b (nx b most s).2 ∧ But [ba, bw] w w' := by
  obtain ⟨at_, ok⟩ := s
  have d1 := h.kb.cell
  have d2 := h.ka.cell
  have d3 := h.kw.cell
  have f2 := h.ka.free
  have f3 := h.kw.free
  simp only at d2 d3
  have hw1 : IntKind.u64.wrap (most : Int) = (most : Int) := by rw [IntKind.wrap_u64]; omega
  have hne : ba ≠ bw := ne_of_type h.ka h.kw (by decide)
  have hnb : bb ≠ ba ∧ bb ≠ bw := ⟨ne_of_type h.kb h.ka (by decide), ne_of_type h.kb h.kw (by decide)⟩
  have hG := getUint_any A n c b (at_ : Int) w h.rd (by have := h.small; omega) h.cap
  obtain ⟨⟨N, nxt, er⟩, hu⟩ : ∃ r, getU b (at_ : Int) = r := ⟨_, rfl⟩
  have hok := getU_ok b (at_ : Int)
  rw [hu] at hG hok
  have hN : N ≤ 18446744073709551615 := hok.num
  have hat : nxt ≤ b.length := hok.at_
  have HH := Lib.hid (And.intro h (And.intro (And.intro hne hnb) (And.intro hat hG)))
  have hnx : nx b most (at_, ok) = if ok = true ∧ er = 0 ∧ N ≤ most then (N, (nxt, true)) else (0, (at_, false)) := by
    unfold nx
    simp only
    rw [hu]
  have HU := Lib.hid hnx
  -- what is left behind one that is wrong, and behind one that came
  have HW : Hid (∀ w', w' = w.setCell ⟨bw, 0, none⟩ (.bool true) → NSt w' bb ba bw A n c b (at_, false) ∧ But [ba, bw] w w') := by
    rintro _ rfl
    have hb : But [ba, bw] w (w.setCell ⟨bw, 0, none⟩ (.bool true)) := (But.refl _ _).setCell (by simp) _
    refine ⟨⟨h.kb.but hb (by simp [hnb.1, hnb.2]), (Below.heap_setCell _ _ _ _ (by simpa using hne)).trans h.ka, heap_setCell_same w bw 0 _ 4 _ h.kw, rd_but h.rd hb (fun j hj => by have := h.apart j hj; simp; omega), h.apart, h.small, h.cap, h.le, fun j hj => Nat.lt_of_lt_of_le (h.old j hj) hb.size⟩, hb⟩
  have HC : Hid (∀ w', w' = (w.setCell ⟨bw, 0, none⟩ (.bool false)).setCell ⟨ba, 0, none⟩ (.int .i64 (nxt : Int)) → NSt w' bb ba bw A n c b (nxt, true) ∧ But [ba, bw] w w') := by
    rintro _ rfl
    have hb : But [ba, bw] w ((w.setCell ⟨bw, 0, none⟩ (.bool false)).setCell ⟨ba, 0, none⟩ (.int .i64 (nxt : Int))) := ((But.refl _ _).setCell (by simp) _).setCell (by simp) _
    have ha : Box (w.setCell ⟨bw, 0, none⟩ (.bool false)) ba (.int .i64 (at_ : Int)) 3 := (Below.heap_setCell _ _ _ _ (by simpa using hne)).trans h.ka
    have hw' : Box (w.setCell ⟨bw, 0, none⟩ (.bool false)) bw (.bool false) 4 := heap_setCell_same w bw 0 _ 4 _ h.kw
    refine ⟨⟨h.kb.but hb (by simp [hnb.1, hnb.2]), heap_setCell_same _ ba 0 _ 3 _ ha, (Below.heap_setCell _ _ _ _ (by simpa using fun e => hne e.symm)).trans hw', rd_but h.rd hb (fun j hj => by have := h.apart j hj; simp; omega), h.apart, h.small, h.cap, hat, fun j hj => Nat.lt_of_lt_of_le (h.old j hj) hb.size⟩, hb⟩
  clear h hu hok hG hnx hnb hat
  cases ok with
  | false =>
    rw [if_neg (by simp)] at HU
    rw [HU.out]
    simp only [Bool.not_false] at d3
    go_enter Try.func54, Try.ntmps54
    go_wp2_with fail
    refine HH.out.2.2.2.mono ?_
    rintro e w' ⟨rfl, rfl⟩
    go_wp2
    go_ret
    exact ⟨rfl, HW.out _ rfl⟩
  | true =>
    simp only [Bool.not_true] at d3
    by_cases he : er = 0
    · subst he
      by_cases hle : N ≤ most
      · have hlt : ¬ (most : Int) < (N : Int) := by omega
        have hw2 : IntKind.i64.wrap (N : Int) = (N : Int) := IntWalk.i64_in _ (by omega)
        have hp : nx b most (at_, true) = (N, (nxt, true)) := by rw [HU.out, if_pos ⟨rfl, rfl, hle⟩]
        have HP := Lib.hid hp
        clear hp hle
        rw [HP.out]
        go_enter Try.func54, Try.ntmps54
        go_wp2_with fail
        refine HH.out.2.2.2.mono ?_
        rintro e w' ⟨rfl, rfl⟩
        go_wp2
        go_ret
        exact ⟨rfl, HC.out _ rfl⟩
      · have hlt : (most : Int) < (N : Int) := by omega
        have hp : nx b most (at_, true) = (0, (at_, false)) := by rw [HU.out, if_neg (fun h => hle h.2.2)]
        have HP := Lib.hid hp
        clear hp hle
        rw [HP.out]
        go_enter Try.func54, Try.ntmps54
        go_wp2_with fail
        refine HH.out.2.2.2.mono ?_
        rintro e w' ⟨rfl, rfl⟩
        go_wp2
        go_ret
        exact ⟨rfl, HW.out _ rfl⟩
    · have hbe : ((er : Int) != 0) = true := by simp; omega
      have hp : nx b most (at_, true) = (0, (at_, false)) := by rw [HU.out, if_neg (fun h => he h.2.1)]
      have HP := Lib.hid hp
      clear hp he
      rw [HP.out]
      go_enter Try.func54, Try.ntmps54
      go_wp2_with fail
      refine HH.out.2.2.2.mono ?_
      rintro e w' ⟨rfl, rfl⟩
      go_wp2
      go_ret
      exact ⟨rfl, HW.out _ rfl⟩
theorem set7 {w : World} {g T i : Nat} {cs cs' : Array Value} (h : w.heap[g]? = some (.cells cs T (0, 0))) (v : Value) (hc : cs.setIfInBounds i v = cs') : (w.setCell ⟨g, i, none⟩ v).heap[g]? = some (.cells cs' T (0, 0)) := by
  rw [← hc]
  exact heap_setCell_same w g i _ T v h
set_option maxHeartbeats 2000000 in
theorem askC_is {bb ba bw gk ga n c : Nat} {A : Option Addr} {b : List UInt8} {k0 : Value} {x0 x1 x2 x3 x4 x5 x6 : Value} (h : NSt w bb ba bw A n c b (0, true)) (hk : Box w gk k0 3) (hg : w.heap[ga]? = some (.cells #[x0, x1, x2, x3, x4, x5, x6] 25 (0, 0))) (hkb : gk ≠ ba) (hA : ∀ j, A.map (·.block) = some j → j ≠ gk ∧ j ≠ ga) :
    Calls Try.prog 37 #[nextV bb ba bw, .pointer (some ⟨gk, 0, none⟩), .pointer (some ⟨ga, 0, none⟩)] w fun e w' => e = .returned (.tuple #[]) ∧ ∃ v0 v1 v2 v3 v4 v5 v6 : Nat, (askR b).1 = [(v0 : Int), v1, v2, v3, v4, v5, v6] ∧ v3 ≤ 6 ∧ Box w' gk (.int .i64 (v0 : Int)) 3 ∧ w'.heap[ga]? = some (.cells #[.int .i64 (v1 : Int), .int .i64 (v2 : Int), .int .u8 (v3 : Int), .int .i64 (v4 : Int), .int .i64 (v5 : Int), .int .i64 (v6 : Int), x6] 25 (0, 0)) ∧ NSt w' bb ba bw A n c b (askR b).2 ∧ But [gk, ga, ba, bw] w w' := by
  have ng1 : ga ≠ ba := ne_of_type hg h.ka (by decide)
  have ng2 : ga ≠ bw := ne_of_type hg h.kw (by decide)
  have ng3 : ga ≠ bb := ne_of_type hg h.kb (by decide)
  have ng4 : ga ≠ gk := ne_of_type hg hk (by decide)
  have nk2 : gk ≠ bw := ne_of_type hk h.kw (by decide)
  have nk3 : gk ≠ bb := ne_of_type hk h.kb (by decide)
  have HNE := Lib.hid (And.intro (And.intro ng1 ng2) (And.intro (And.intro ng3 ng4) (And.intro hkb (And.intro (And.intro nk2 nk3) hA))))
  have hbt : But [gk, ga, ba, bw] w w := But.refl _ _
  have HK := Lib.hid (And.intro h (And.intro hk (And.intro hg hbt)))
  clear h hk hg hbt ng1 ng2 ng3 ng4 nk2 nk3 hkb hA
  go_enter Try.func37, Try.ntmps37
  -- 0
  obtain ⟨v0, hv0⟩ : ∃ v, (nx b 1 (0, true)).1 = v := ⟨_, rfl⟩
  obtain ⟨s0, hs0⟩ : ∃ v, (nx b 1 (0, true)).2 = v := ⟨_, rfl⟩
  have hN := next_is w HK.out.1 1 (by omega)
  rw [hv0, hs0] at hN
  have HN := Lib.hid hN
  have HS0 := Lib.hid (And.intro hv0 hs0)
  clear hN hv0 hs0
  go_wp2_with fail
  refine HN.out.mono ?_
  rintro e u0 ⟨rfl, hst, hbu⟩
  clear HN
  have hku := HK.out.2.1.but hbu (by have := HNE.out; simp; omega)
  have hgu : u0.heap[ga]? = _ := hbu.cells HK.out.2.2.1 (by have := HNE.out; simp; omega)
  have hbu2 := HK.out.2.2.2.trans (hbu.mono (by simp))
  have k0c := hku.cell
  have k0f := hku.free
  obtain ⟨w0, hw0⟩ : ∃ x, u0.setCell ⟨gk, 0, none⟩ (.int .i64 (v0 : Int)) = x := ⟨_, rfl⟩
  have hbw : But [gk] u0 w0 := by rw [← hw0]; exact (But.refl _ _).setCell (by simp) _
  have hkw : Box w0 gk (.int .i64 (v0 : Int)) 3 := by rw [← hw0]; exact heap_setCell_same u0 gk 0 _ 3 _ hku
  have hgw : w0.heap[ga]? = _ := hbw.cells hgu (by have := HNE.out; simp; omega)
  have hsw := hst.but hbw (by have := HNE.out; simp; omega) (by have := HNE.out; simp; omega) (by have := HNE.out; simp; omega) (fun j hj => by have := HNE.out.2.2.2.2 j hj; simp; omega)
  clear HK
  have HK := Lib.hid (And.intro hsw (And.intro hkw (And.intro hgw (hbu2.trans (hbw.mono (by simp))))))
  clear hst hbu hku hgu hbu2 hbw hkw hgw hsw
  go_wp2_with fail
  (try rw [hw0])
  clear k0c k0f hw0
  -- 1
  obtain ⟨v1, hv1⟩ : ∃ v, (nx b 1099511627776 s0).1 = v := ⟨_, rfl⟩
  obtain ⟨s1, hs1⟩ : ∃ v, (nx b 1099511627776 s0).2 = v := ⟨_, rfl⟩
  have hN := next_is w0 HK.out.1 1099511627776 (by omega)
  rw [hv1, hs1] at hN
  have HN := Lib.hid hN
  have HS1 := Lib.hid (And.intro hv1 hs1)
  clear hN hv1 hs1
  go_wp2_with fail
  refine HN.out.mono ?_
  rintro e u1 ⟨rfl, hst, hbu⟩
  clear HN
  have hku := HK.out.2.1.but hbu (by have := HNE.out; simp; omega)
  have hgu : u1.heap[ga]? = _ := hbu.cells HK.out.2.2.1 (by have := HNE.out; simp; omega)
  have hbu2 := HK.out.2.2.2.trans (hbu.mono (by simp))
  have gc := cell_of_row _ ga 0 _ 25 (0, 0) hgu
  have gf := frozen_of_row u1 ga 0 _ 25 hgu
  obtain ⟨w1, hw1⟩ : ∃ x, u1.setCell ⟨ga, 0, none⟩ (.int .i64 (v1 : Int)) = x := ⟨_, rfl⟩
  have hbw : But [ga] u1 w1 := by rw [← hw1]; exact (But.refl _ _).setCell (by simp) _
  have hgw : w1.heap[ga]? = some (.cells #[.int .i64 (v1 : Int), x1, x2, x3, x4, x5, x6] 25 (0, 0)) := by rw [← hw1]; exact set7 hgu _ rfl
  have hkw := hku.but hbw (by have := HNE.out; simp; omega)
  have hsw := hst.but hbw (by have := HNE.out; simp; omega) (by have := HNE.out; simp; omega) (by have := HNE.out; simp; omega) (fun j hj => by have := HNE.out.2.2.2.2 j hj; simp; omega)
  clear HK
  have HK := Lib.hid (And.intro hsw (And.intro hkw (And.intro hgw (hbu2.trans (hbw.mono (by simp))))))
  clear hst hbu hku hgu hbu2 hbw hkw hgw hsw
  go_wp2_with fail
  (try rw [hw1])
  clear gc gf hw1
  -- 2
  obtain ⟨v2, hv2⟩ : ∃ v, (nx b 1099511627776 s1).1 = v := ⟨_, rfl⟩
  obtain ⟨s2, hs2⟩ : ∃ v, (nx b 1099511627776 s1).2 = v := ⟨_, rfl⟩
  have hN := next_is w1 HK.out.1 1099511627776 (by omega)
  rw [hv2, hs2] at hN
  have HN := Lib.hid hN
  have HS2 := Lib.hid (And.intro hv2 hs2)
  clear hN hv2 hs2
  go_wp2_with fail
  refine HN.out.mono ?_
  rintro e u2 ⟨rfl, hst, hbu⟩
  clear HN
  have hku := HK.out.2.1.but hbu (by have := HNE.out; simp; omega)
  have hgu : u2.heap[ga]? = _ := hbu.cells HK.out.2.2.1 (by have := HNE.out; simp; omega)
  have hbu2 := HK.out.2.2.2.trans (hbu.mono (by simp))
  have gc := cell_of_row _ ga 1 _ 25 (0, 0) hgu
  have gf := frozen_of_row u2 ga 1 _ 25 hgu
  obtain ⟨w2, hw2⟩ : ∃ x, u2.setCell ⟨ga, 1, none⟩ (.int .i64 (v2 : Int)) = x := ⟨_, rfl⟩
  have hbw : But [ga] u2 w2 := by rw [← hw2]; exact (But.refl _ _).setCell (by simp) _
  have hgw : w2.heap[ga]? = some (.cells #[.int .i64 (v1 : Int), .int .i64 (v2 : Int), x2, x3, x4, x5, x6] 25 (0, 0)) := by rw [← hw2]; exact set7 hgu _ rfl
  have hkw := hku.but hbw (by have := HNE.out; simp; omega)
  have hsw := hst.but hbw (by have := HNE.out; simp; omega) (by have := HNE.out; simp; omega) (by have := HNE.out; simp; omega) (fun j hj => by have := HNE.out.2.2.2.2 j hj; simp; omega)
  clear HK
  have HK := Lib.hid (And.intro hsw (And.intro hkw (And.intro hgw (hbu2.trans (hbw.mono (by simp))))))
  clear hst hbu hku hgu hbu2 hbw hkw hgw hsw
  go_wp2_with fail
  (try rw [hw2])
  clear gc gf hw2
  -- 3
  obtain ⟨v3, hv3⟩ : ∃ v, (nx b 6 s2).1 = v := ⟨_, rfl⟩
  obtain ⟨s3, hs3⟩ : ∃ v, (nx b 6 s2).2 = v := ⟨_, rfl⟩
  have hv3l : v3 ≤ 6 := by rw [← hv3]; exact nx_le b 6 _
  have hwv : IntKind.u8.wrap (v3 : Int) = (v3 : Int) := by rw [IntKind.wrap_u8]; omega
  have hN := next_is w2 HK.out.1 6 (by omega)
  rw [hv3, hs3] at hN
  have HN := Lib.hid hN
  have HS3 := Lib.hid (And.intro hv3 hs3)
  clear hN hv3 hs3
  go_wp2_with fail
  refine HN.out.mono ?_
  rintro e u3 ⟨rfl, hst, hbu⟩
  clear HN
  have hku := HK.out.2.1.but hbu (by have := HNE.out; simp; omega)
  have hgu : u3.heap[ga]? = _ := hbu.cells HK.out.2.2.1 (by have := HNE.out; simp; omega)
  have hbu2 := HK.out.2.2.2.trans (hbu.mono (by simp))
  have gc := cell_of_row _ ga 2 _ 25 (0, 0) hgu
  have gf := frozen_of_row u3 ga 2 _ 25 hgu
  obtain ⟨w3, hw3⟩ : ∃ x, u3.setCell ⟨ga, 2, none⟩ (.int .u8 (v3 : Int)) = x := ⟨_, rfl⟩
  have hbw : But [ga] u3 w3 := by rw [← hw3]; exact (But.refl _ _).setCell (by simp) _
  have hgw : w3.heap[ga]? = some (.cells #[.int .i64 (v1 : Int), .int .i64 (v2 : Int), .int .u8 (v3 : Int), x3, x4, x5, x6] 25 (0, 0)) := by rw [← hw3]; exact set7 hgu _ rfl
  have hkw := hku.but hbw (by have := HNE.out; simp; omega)
  have hsw := hst.but hbw (by have := HNE.out; simp; omega) (by have := HNE.out; simp; omega) (by have := HNE.out; simp; omega) (fun j hj => by have := HNE.out.2.2.2.2 j hj; simp; omega)
  clear HK
  have HK := Lib.hid (And.intro hsw (And.intro hkw (And.intro hgw (hbu2.trans (hbw.mono (by simp))))))
  clear hst hbu hku hgu hbu2 hbw hkw hgw hsw
  go_wp2_with fail
  (try rw [hw3])
  clear gc gf hw3
  -- 4
  obtain ⟨v4, hv4⟩ : ∃ v, (nx b 1099511627776 s3).1 = v := ⟨_, rfl⟩
  obtain ⟨s4, hs4⟩ : ∃ v, (nx b 1099511627776 s3).2 = v := ⟨_, rfl⟩
  have hN := next_is w3 HK.out.1 1099511627776 (by omega)
  rw [hv4, hs4] at hN
  have HN := Lib.hid hN
  have HS4 := Lib.hid (And.intro hv4 hs4)
  clear hN hv4 hs4
  go_wp2_with fail
  refine HN.out.mono ?_
  rintro e u4 ⟨rfl, hst, hbu⟩
  clear HN
  have hku := HK.out.2.1.but hbu (by have := HNE.out; simp; omega)
  have hgu : u4.heap[ga]? = _ := hbu.cells HK.out.2.2.1 (by have := HNE.out; simp; omega)
  have hbu2 := HK.out.2.2.2.trans (hbu.mono (by simp))
  have gc := cell_of_row _ ga 3 _ 25 (0, 0) hgu
  have gf := frozen_of_row u4 ga 3 _ 25 hgu
  obtain ⟨w4, hw4⟩ : ∃ x, u4.setCell ⟨ga, 3, none⟩ (.int .i64 (v4 : Int)) = x := ⟨_, rfl⟩
  have hbw : But [ga] u4 w4 := by rw [← hw4]; exact (But.refl _ _).setCell (by simp) _
  have hgw : w4.heap[ga]? = some (.cells #[.int .i64 (v1 : Int), .int .i64 (v2 : Int), .int .u8 (v3 : Int), .int .i64 (v4 : Int), x4, x5, x6] 25 (0, 0)) := by rw [← hw4]; exact set7 hgu _ rfl
  have hkw := hku.but hbw (by have := HNE.out; simp; omega)
  have hsw := hst.but hbw (by have := HNE.out; simp; omega) (by have := HNE.out; simp; omega) (by have := HNE.out; simp; omega) (fun j hj => by have := HNE.out.2.2.2.2 j hj; simp; omega)
  clear HK
  have HK := Lib.hid (And.intro hsw (And.intro hkw (And.intro hgw (hbu2.trans (hbw.mono (by simp))))))
  clear hst hbu hku hgu hbu2 hbw hkw hgw hsw
  go_wp2_with fail
  (try rw [hw4])
  clear gc gf hw4
  -- 5
  obtain ⟨v5, hv5⟩ : ∃ v, (nx b 254 s4).1 = v := ⟨_, rfl⟩
  obtain ⟨s5, hs5⟩ : ∃ v, (nx b 254 s4).2 = v := ⟨_, rfl⟩
  have hN := next_is w4 HK.out.1 254 (by omega)
  rw [hv5, hs5] at hN
  have HN := Lib.hid hN
  have HS5 := Lib.hid (And.intro hv5 hs5)
  clear hN hv5 hs5
  go_wp2_with fail
  refine HN.out.mono ?_
  rintro e u5 ⟨rfl, hst, hbu⟩
  clear HN
  have hku := HK.out.2.1.but hbu (by have := HNE.out; simp; omega)
  have hgu : u5.heap[ga]? = _ := hbu.cells HK.out.2.2.1 (by have := HNE.out; simp; omega)
  have hbu2 := HK.out.2.2.2.trans (hbu.mono (by simp))
  have gc := cell_of_row _ ga 4 _ 25 (0, 0) hgu
  have gf := frozen_of_row u5 ga 4 _ 25 hgu
  obtain ⟨w5, hw5⟩ : ∃ x, u5.setCell ⟨ga, 4, none⟩ (.int .i64 (v5 : Int)) = x := ⟨_, rfl⟩
  have hbw : But [ga] u5 w5 := by rw [← hw5]; exact (But.refl _ _).setCell (by simp) _
  have hgw : w5.heap[ga]? = some (.cells #[.int .i64 (v1 : Int), .int .i64 (v2 : Int), .int .u8 (v3 : Int), .int .i64 (v4 : Int), .int .i64 (v5 : Int), x5, x6] 25 (0, 0)) := by rw [← hw5]; exact set7 hgu _ rfl
  have hkw := hku.but hbw (by have := HNE.out; simp; omega)
  have hsw := hst.but hbw (by have := HNE.out; simp; omega) (by have := HNE.out; simp; omega) (by have := HNE.out; simp; omega) (fun j hj => by have := HNE.out.2.2.2.2 j hj; simp; omega)
  clear HK
  have HK := Lib.hid (And.intro hsw (And.intro hkw (And.intro hgw (hbu2.trans (hbw.mono (by simp))))))
  clear hst hbu hku hgu hbu2 hbw hkw hgw hsw
  go_wp2_with fail
  (try rw [hw5])
  clear gc gf hw5
  -- 6
  obtain ⟨v6, hv6⟩ : ∃ v, (nx b 1099511627776 s5).1 = v := ⟨_, rfl⟩
  obtain ⟨s6, hs6⟩ : ∃ v, (nx b 1099511627776 s5).2 = v := ⟨_, rfl⟩
  have hN := next_is w5 HK.out.1 1099511627776 (by omega)
  rw [hv6, hs6] at hN
  have HN := Lib.hid hN
  have HS6 := Lib.hid (And.intro hv6 hs6)
  clear hN hv6 hs6
  go_wp2_with fail
  refine HN.out.mono ?_
  rintro e u6 ⟨rfl, hst, hbu⟩
  clear HN
  have hku := HK.out.2.1.but hbu (by have := HNE.out; simp; omega)
  have hgu : u6.heap[ga]? = _ := hbu.cells HK.out.2.2.1 (by have := HNE.out; simp; omega)
  have hbu2 := HK.out.2.2.2.trans (hbu.mono (by simp))
  have gc := cell_of_row _ ga 5 _ 25 (0, 0) hgu
  have gf := frozen_of_row u6 ga 5 _ 25 hgu
  obtain ⟨w6, hw6⟩ : ∃ x, u6.setCell ⟨ga, 5, none⟩ (.int .i64 (v6 : Int)) = x := ⟨_, rfl⟩
  have hbw : But [ga] u6 w6 := by rw [← hw6]; exact (But.refl _ _).setCell (by simp) _
  have hgw : w6.heap[ga]? = some (.cells #[.int .i64 (v1 : Int), .int .i64 (v2 : Int), .int .u8 (v3 : Int), .int .i64 (v4 : Int), .int .i64 (v5 : Int), .int .i64 (v6 : Int), x6] 25 (0, 0)) := by rw [← hw6]; exact set7 hgu _ rfl
  have hkw := hku.but hbw (by have := HNE.out; simp; omega)
  have hsw := hst.but hbw (by have := HNE.out; simp; omega) (by have := HNE.out; simp; omega) (by have := HNE.out; simp; omega) (fun j hj => by have := HNE.out.2.2.2.2 j hj; simp; omega)
  clear HK
  have HK := Lib.hid (And.intro hsw (And.intro hkw (And.intro hgw (hbu2.trans (hbw.mono (by simp))))))
  clear hst hbu hku hgu hbu2 hbw hkw hgw hsw
  go_wp2_with fail
  (try rw [hw6])
  clear gc gf hw6
  go_end0
  have e1 : (askR b).1 = [(v0 : Int), v1, v2, v3, v4, v5, v6] := by
    simp only [askR, askM, nxs, HS0.out.1, HS0.out.2, HS1.out.1, HS1.out.2, HS2.out.1, HS2.out.2, HS3.out.1, HS3.out.2, HS4.out.1, HS4.out.2, HS5.out.1, HS5.out.2, HS6.out.1]
  have e2 : (askR b).2 = s6 := by
    simp only [askR, askM, nxs, HS0.out.2, HS1.out.2, HS2.out.2, HS3.out.2, HS4.out.2, HS5.out.2, HS6.out.2]
  rw [e2]
  exact ⟨rfl, v0, v1, v2, v3, v4, v5, v6, e1, hv3l, HK.out.2.1, HK.out.2.2.1, HK.out.1, HK.out.2.2.2⟩
end
end Go.Proofs.Ytmiapegecoaccaa
