/- The reference's Move. -/
import Derived.Test.YtbilbfjmfaignaaTelC
import Derived.Test.YtbilbfjmfaignaaPlcK
namespace Go.Proofs.Ytbilbfjmfaignaa
open Go.RowKit Go.Coop
set_option maxRecDepth 100000
/-- what the reference's Move tells -/
def RMoved (w : World) (r : List Pl × List Int × Int) (e : Ending) (w' : World) : Prop := ∃ A n c qs G m mc, e = .returned (.tuple #[.slice A n c, .slice G m mc, .int .i64 r.2.2]) ∧ PL w' A n qs ∧ qs.map Pc.pl = r.1 ∧ n ≤ 1000 ∧ RdV w' G m (r.2.1.map IV) ∧ m ≤ 1000 ∧ Below w.heap.size w w'
theorem rmoved_no {w W : World} (er : Int) (hb : Below w.heap.size w W) : RMoved w ([], [], er) (.returned (.tuple #[.slice none 0 0, .slice none 0 0, .int .i64 er])) W := ⟨none, 0, 0, [], none, 0, 0, rfl, PL.nil _ _, rfl, by omega, RdV.nil _ _, by omega, hb⟩
theorem own_cellL {w : World} {B x n c j : Nat} {l : List Int} {v : Int} (ho : OwnV w B 3 (some ⟨x, 0, none⟩) n c (l.map IV)) (hj : l[j]? = some v) : w.cell? ⟨x, j, none⟩ = some (IV v) := by
  have hl := ho.len
  have hlt := (List.getElem?_eq_some_iff.1 hj).1
  rw [List.length_map] at hl
  obtain ⟨ad, e, _, hc⟩ := ho.rd.cells (by omega)
  injection e with e
  subst e
  have := hc j (IV v) (by rw [List.getElem?_map, hj]; rfl)
  rwa [addr_at, Nat.zero_add] at this
theorem mvA {w3 w4 : World} {X : Option Addr} {n c j bx : Nat} {l : List Int} {cs : Array Value} {a b : Int} (ho : OwnV w4 w3.heap.size 3 X n c ([] ++ l.map IV)) (hg : w3.grownBy w4 ((none : Option Addr).map (·.block))) (hx : w3.heap[bx]? = some (.cells cs 30 (0, 0))) (hj : l[j]? = some a) :
    ∃ x, X = some ⟨x, 0, none⟩ ∧ w4.cell? ⟨x, j, none⟩ = some (IV a) ∧ w4.frozen? ⟨x, j, none⟩ = false ∧ ∃ w5, w4.setCell ⟨x, j, none⟩ (IV b) = w5 ∧ w5.heap[bx]? = some (.cells cs 30 (0, 0)) ∧ OwnV w5 w3.heap.size 3 (some ⟨x, 0, none⟩) n c ((l.set j b).map IV) ∧ Below w3.heap.size w3 w5 := by
  rw [List.nil_append] at ho
  have hl := ho.len
  have hlt := (List.getElem?_eq_some_iff.1 hj).1
  rw [List.length_map] at hl
  obtain ⟨x, rfl, hxB, hxl, hf⟩ := ho.addr (by omega)
  have hb : Below w3.heap.size w3 w4 := ((But.refl [] w3).grown hg (by simp)).none
  have hb5 : Below w3.heap.size w3 (w4.setCell ⟨x, j, none⟩ (IV b)) := hb.setCell (by simpa using hxB) _
  refine ⟨x, rfl, own_cellL ho hj, hf j, _, rfl, (hb5.block _ (lt_of_block hx)).trans hx, ?_, hb5⟩
  have := ho.set (k := j) rfl (IV b)
  rwa [List.map_set]
theorem mv5 {w w3 w5 : World} {A1 G : Option Addr} {N c1 m mc x n c : Nat} {gs vs : List Value} {qs : List Pc} (hP : PR w3 w.heap.size A1 N c1 (G.map (·.block)).toList qs) (hG : OwnV w3 w.heap.size 3 G m mc gs) (hB : Below w.heap.size w w3) (hO : OwnV w5 w3.heap.size 3 (some ⟨x, 0, none⟩) n c vs) (hb : Below w3.heap.size w3 w5) :
    PR w5 w.heap.size A1 N c1 (G.map (·.block)).toList qs ∧ OwnV w5 w.heap.size 3 G m mc gs ∧ Below w.heap.size w w5 ∧ ∀ j, (some (⟨x, 0, none⟩ : Addr)).map (·.block) = some j → A1.map (·.block) ≠ some j ∧ G.map (·.block) ≠ some j := by
  refine ⟨hP.grown (But.of_below hb) (fun j hj hm => ?_) (fun j hj => .inl hj), hG.below hb (Nat.le_refl _), hB.trans (hb.mono hB.size), fun j hj => ⟨fun e => ?_, fun e => ?_⟩⟩
  · obtain ⟨cur, hc⟩ := OwnK.typ hP.row hj
    obtain ⟨cur', hc'⟩ := hG.typ (by simpa using hm)
    exact ne_of_type hc hc' (by decide) rfl
  · have h1 := (hO.block j hj).1
    have h2 := (hP.row.block j e).2
    omega
  · have h1 := (hO.block j hj).1
    have h2 := (hG.block j e).2
    omega
theorem mvB {w w5 w7 : World} {A1 A' : Option Addr} {N c1 N' c' : Nat} {G : Option Addr} {m mc : Nat} {gs : List Value} {qs : List Pc} {p : Pc} {o : Obj} (hP : PR w5 w.heap.size A1 N c1 (G.map (·.block)).toList qs) (hp : p.Ok w5) (hx : 0 < p.n → ∀ j, p.A.map (·.block) = some j → A1.map (·.block) ≠ some j ∧ G.map (·.block) ≠ some j) (hG : OwnV w5 w.heap.size 3 G m mc gs) (hB : Below w.heap.size w w5) (hg : (w5.alloc o).grownBy w7 (A1.map (·.block))) (hat : A'.map (·.block) = A1.map (·.block) ∨ A'.map (·.block) = some (w5.alloc o).heap.size) (ho : OwnK w7 w.heap.size 30 2 A' N' c' (pcs qs ++ p.cells)) :
    PR w7 w.heap.size A' N' c' (G.map (·.block)).toList (qs ++ [p]) ∧ OwnV w7 w.heap.size 3 G m mc gs ∧ Below w.heap.size w w7 := by
  have hb7 : But (A1.map (·.block)).toList (w5.alloc o) w7 := (But.refl _ _).grown hg (by simp)
  refine ⟨(hP.alloc _).app hg hat ho ⟨hp.rd.alloc _, hp.small⟩ (fun h0 j hj => (hx h0 j hj).1) (fun j hj => ⟨.inl hj, fun h0 e => (hx h0 j e).2 (by simpa using hj)⟩), (hG.alloc o).but hb7 (fun j hj hm => ?_), ?_⟩
  · obtain ⟨cur, hc⟩ := OwnK.typ (hP.alloc o).row (by simpa using hm)
    obtain ⟨cur', hc'⟩ := (hG.alloc o).typ hj
    exact ne_of_type hc hc' (by decide) rfl
  · refine hB.trans (Below.trans ((Below.refl _ _).alloc hB.size _) ⟨hb7.os, hb7.tape, hb7.output, hb7.size, fun k hk => ?_⟩)
    exact hb7.block k (by have := hB.size; simp; omega) (fun hm => by have := (hP.row.block k (by simpa using hm)).1; omega)
theorem mvC {w w7 w8 : World} {A G G' : Option Addr} {N c m mc : Nat} {gs : List Value} {qs : List Pc} {o : Obj} (hP : PR w7 w.heap.size A N c (G.map (·.block)).toList qs) (hG : OwnV w7 w.heap.size 3 G m mc gs) (hB : Below w.heap.size w w7) (hg : (w7.alloc o).grownBy w8 (G.map (·.block))) (hat : G'.map (·.block) = G.map (·.block) ∨ G'.map (·.block) = some (w7.alloc o).heap.size) :
    PR w8 w.heap.size A N c (G'.map (·.block)).toList qs ∧ Below w.heap.size w w8 := by
  have hb8 : But (G.map (·.block)).toList (w7.alloc o) w8 := (But.refl _ _).grown hg (by simp)
  refine ⟨(hP.alloc o).grown hb8 (fun j hj hm => ?_) (fun j hj => ?_), ?_⟩
  · obtain ⟨cur, hc⟩ := OwnK.typ hP.row hj
    obtain ⟨cur', hc'⟩ := hG.typ (by simpa using hm)
    exact ne_of_type hc hc' (by decide) rfl
  · rcases hat with e | e
    · left
      rw [← e]
      exact hj
    · right
      rw [e] at hj
      simp only [Option.toList_some, List.mem_singleton] at hj
      exact Nat.le_of_eq hj.symm
  · refine hB.trans (Below.trans ((Below.refl _ _).alloc hB.size _) ⟨hb8.os, hb8.tape, hb8.output, hb8.size, fun k hk => ?_⟩)
    exact hb8.block k (by have := hB.size; simp; omega) (fun hm => by have := (hG.block k (by simpa using hm)).1; omega)
section
variable (w : World)
theorem rmove_arg {A : Option Addr} {n ca : Nat} {ps : List Pc} (h : PL w A n ps) (hn : n ≤ 1000000) (a b : Int) (hA : allB (ps.map Pc.pl) = false) : Calls Try.prog 22 #[.slice A n ca, .int .i64 a, .int .i64 b] w (RMoved w ([], [], 2)) := by
  go_enter Try.func22, Try.ntmps22
  go_wp2_with fail
  refine (rall_is _ h hn hA).mono ?_
  rintro e w1 ⟨rfl, hb⟩
  go_wp2
  go_ret3
  exact rmoved_no 2 hb
theorem rmove_may {A : Option Addr} {n ca : Nat} {ps : List Pc} (h : PL w A n ps) (hn : n ≤ 1000000) (a b : Int) (hA : allB (ps.map Pc.pl) = true) (hm : MayNot a b) : Calls Try.prog 22 #[.slice A n ca, .int .i64 a, .int .i64 b] w (RMoved w ([], [], 100)) := by
  by_cases c0 : a < 0
  · have H := Lib.hid (And.intro h hA)
    clear h hA hm
    go_enter Try.func22, Try.ntmps22
    go_wp2_with fail
    refine (rall_is _ H.out.1 hn H.out.2).mono ?_
    rintro e w1 ⟨rfl, hb⟩
    go_wp2
    go_ret3
    exact rmoved_no 100 hb
  have d0 : 0 ≤ a := by omega
  by_cases c1 : 256 ≤ a
  · have H := Lib.hid (And.intro h hA)
    clear h hA hm
    go_enter Try.func22, Try.ntmps22
    go_wp2_with fail
    refine (rall_is _ H.out.1 hn H.out.2).mono ?_
    rintro e w1 ⟨rfl, hb⟩
    go_wp2
    go_ret3
    exact rmoved_no 100 hb
  have d1 : a < 256 := by omega
  by_cases c2 : b < 0
  · have H := Lib.hid (And.intro h hA)
    clear h hA hm
    go_enter Try.func22, Try.ntmps22
    go_wp2_with fail
    refine (rall_is _ H.out.1 hn H.out.2).mono ?_
    rintro e w1 ⟨rfl, hb⟩
    go_wp2
    go_ret3
    exact rmoved_no 100 hb
  have d2 : 0 ≤ b := by omega
  by_cases c3 : 256 ≤ b
  · have H := Lib.hid (And.intro h hA)
    clear h hA hm
    go_enter Try.func22, Try.ntmps22
    go_wp2_with fail
    refine (rall_is _ H.out.1 hn H.out.2).mono ?_
    rintro e w1 ⟨rfl, hb⟩
    go_wp2
    go_ret3
    exact rmoved_no 100 hb
  have d3 : b < 256 := by omega
  have hab : a = b := by unfold MayNot at hm; omega
  have H := Lib.hid (And.intro h hA)
  subst hab
  clear h hA hm
  go_enter Try.func22, Try.ntmps22
  go_wp2_with fail
  refine (rall_is _ H.out.1 hn H.out.2).mono ?_
  rintro e w1 ⟨rfl, hb⟩
  go_wp2
  go_ret3
  exact rmoved_no 100 hb
/-- where the loop of Move stands behind so many groups -/
structure RMv (w W : World) (a b : Int) (ps : List Pc) (g : Nat) (A : Option Addr) (N c : Nat) (G : Option Addr) (m mc : Nat) : Prop where
  qs : ∃ qs, PR W w.heap.size A N c (G.map (·.block)).toList qs ∧ qs.map Pc.pl = ((ps.map Pc.pl).take g).map (mv1 a b)
  hN : N = g
  hm : m ≤ g
  own : OwnV W w.heap.size 3 G m mc ((grp a ((ps.map Pc.pl).take g)).map IV)
  good : ∀ p ∈ (ps.map Pc.pl).take g, ¬ Bad a b p
  below : Below w.heap.size w W
set_option maxHeartbeats 4000000 in
theorem rmove_loop {A : Option Addr} {n ca : Nat} {ps : List Pc} (h : PL w A n ps) (hn : n ≤ 1000) (a b : Int) (hA : AllP (ps.map Pc.pl)) (hm : ¬ MayNot a b) : Calls Try.prog 22 #[.slice A n ca, .int .i64 a, .int .i64 b] w (RMoved w (if ∃ p ∈ ps.map Pc.pl, Bad a b p then ([], [], 100) else ((ps.map Pc.pl).map (mv1 a b), grp a (ps.map Pc.pl), 0))) := by
  obtain ⟨R, hR⟩ : ∃ R, R = (if ∃ p ∈ ps.map Pc.pl, Bad a b p then (([] : List Pl), ([] : List Int), (100 : Int)) else ((ps.map Pc.pl).map (mv1 a b), grp a (ps.map Pc.pl), 0)) := ⟨_, rfl⟩
  rw [← hR]
  have d0 : 0 ≤ a := by unfold MayNot at hm; omega
  have d1 : a < 256 := by unfold MayNot at hm; omega
  have d2 : 0 ≤ b := by unfold MayNot at hm; omega
  have d3 : b < 256 := by unfold MayNot at hm; omega
  have d4 : (a == b) = false := by unfold MayNot at hm; simp; omega
  have hlm : (ps.map Pc.pl).length = n := by rw [List.length_map]; exact h.len
  have H := Lib.hid (And.intro h (And.intro hA (And.intro hR hlm)))
  clear h hA hm hR hlm
  go_enter Try.func22, Try.ntmps22
  go_wp2_with fail
  refine (rall_is _ H.out.1 (by omega) (decide_eq_true H.out.2.1)).mono ?_
  rintro e w1 ⟨rfl, hb⟩
  have HB := Lib.hid hb
  clear hb
  go_wp2
  clear d0 d1 d2 d3 d4
  go_loopw [9, 10, 11, 12, 13, 14] (fun s9 s10 s11 _ _ _ wr => ∃ (g N m : Nat) (A1 : Option Addr) (c1 : Nat) (G : Option Addr) (mc : Nat), g ≤ n ∧ s11 = .int .i64 g ∧ s9 = .slice A1 N c1 ∧ s10 = .slice G m mc ∧ Hid (RMv w wr a b ps g A1 N c1 G m mc)) (fun _ _ s11 _ _ _ _ => n - (Go.RowKit.intOf s11).toNat)
  case atStart => exact ⟨0, 0, 0, none, 0, none, 0, by omega, rfl, rfl, rfl, Lib.hid ⟨⟨[], PR.nil _ _ _, rfl⟩, rfl, by omega, OwnV.nil _ _ _, by simp, HB.out⟩⟩
  case round =>
    obtain ⟨g, N, m, A1, c1, G, mc, hg, rfl, rfl, rfl, HR⟩ := hrel
    have hNg := HR.out.hN
    subst hNg
    by_cases hlt : N < n
    · obtain ⟨p, hp⟩ : ∃ p, ps[N]? = some p := ⟨_, List.getElem?_eq_getElem (by have := H.out.2.2.2; rw [List.length_map] at this; omega)⟩
      obtain ⟨ad, hok, rfl, hadl, hload, _, _⟩ := (H.out.1.below HR.out.below (Nat.le_refl _)).get' hp
      have hfar : 0 < p.n → ∀ j, p.A.map (·.block) = some j → j < w.heap.size := fun h0 j hj => rdv_lt (H.out.1.get' hp).choose_spec.1.rd h0 hj
      have hright := H.out.2.1.2 p.pl (List.mem_map.2 ⟨p, mem_at hp, rfl⟩)
      have hpp : (ps.map Pc.pl)[N]? = some p.pl := by rw [List.getElem?_map, hp]; rfl
      have hi1 : (0 : Int) ≤ (N : Int) := by omega
      have hi2 : (N : Int) < (n : Int) := by omega
      have hw1 : IntKind.i64.wrap ((N : Int) + 1) = (N : Int) + 1 := IntWalk.i64_in _ (by omega)
      obtain ⟨pe, PA, pn, pc, pl⟩ := p
      obtain ⟨_, hre, hrl, hrn, hrd⟩ := hright
      simp only [Pc.pl] at hre hrl hrn hrd hpp
      simp only at hfar
      have hpl := hok.len
      simp only at hpl
      obtain ⟨q1, hq1⟩ : ∃ q, idxP a pl = q := ⟨_, rfl⟩
      obtain ⟨wa, hwa⟩ : ∃ v, wr.alloc (.cells #[.int .i64 0, .slice none 0 0] 30) = v := ⟨_, rfl⟩
      obtain ⟨hba, hxa⟩ := box_new hwa
      obtain ⟨bx, hbx⟩ : ∃ q, wr.heap.size = q := ⟨_, rfl⟩
      rw [hbx] at hxa
      obtain ⟨⟨m0, m1⟩, fm0, fm1⟩ := two30 hxa
      obtain ⟨wd, hwd⟩ : ∃ v, (wa.setCell ⟨bx, 0, none⟩ (.int .i64 pe)).setCell ⟨bx, 1, none⟩ (.slice PA pn pc) = v := ⟨_, rfl⟩
      have hxd : wd.heap[bx]? = some (.cells #[.int .i64 pe, .slice PA pn pc] 30 (0, 0)) := by
        rw [← hwd]
        exact row2 hxa
      have hbd : Below bx wr wd := by
        rw [← hwd, ← hbx]
        exact (hba.setCell (by simp) _).setCell (by simp) _
      have hokd : RdV wd PA pn (pl.map IV) := hok.rd.below hbd (by omega)
      obtain ⟨⟨n0, n1⟩, fn0, fn1⟩ := two30 hxd
      have hloada : (Instr.loadAt 30 (.pointer (some (ad.add (N * 2))))).run Try.prog wa = .ok (.agg #[.int .i64 pe, .slice PA pn pc]) wa := by
        obtain ⟨ad', _, e9, _, hl', _, _⟩ := ((H.out.1.below HR.out.below (Nat.le_refl _)).below hba (Nat.le_refl _)).get' hp
        injection e9 with e9
        subst e9
        exact hl'
      have HX := Lib.hid (And.intro hlt (And.intro hpp (And.intro hok (And.intro hxd (And.intro hbd (And.intro hokd (And.intro hrn (And.intro hrd hbx))))))))
      clear hlt hpp hok hxd hbd hokd hxa hba hrn hrd hadl hp hload
      go_wp2_with fail
      (try rw [hbx]); (try rw [hwa]); (try rw [hwd])
      refine (rindex_is wd pe HX.out.2.2.2.2.2.1 (by omega) a hq1).mono ?_
      rintro e w2 ⟨rfl, hb2⟩
      have hx2 := (hb2.block _ (lt_of_block HX.out.2.2.2.1)).trans HX.out.2.2.2.1
      have hlex : w.heap.size ≤ bx := by have := HR.out.below.size; omega
      have hB2 : Below bx wr w2 := HX.out.2.2.2.2.1.trans (hb2.mono (by have := HX.out.2.2.2.2.1.size; have := lt_of_block HX.out.2.2.2.1; omega))
      have hP2 : RdV w2 PA pn (pl.map IV) := HX.out.2.2.2.2.2.1.below hb2 (Nat.le_refl _)
      have HX2 := Lib.hid (And.intro hx2 (And.intro hB2 (And.intro hP2 (And.intro hfar (And.intro hlex (HR.out.below.trans (hB2.mono hlex)))))))
      obtain ⟨⟨m2, m3⟩, _⟩ := two30 hx2
      clear m0 m1 fm0 fm1 n0 n1 fn0 fn1 hloada hwa hwd hx2 hB2 hP2 hfar hlex hb2
      by_cases ha : a ∈ pl
      · obtain ⟨j, hj⟩ : ∃ j, idxN a pl = j := ⟨_, rfl⟩
        have hjl : j < pl.length := hj ▸ idxN_lt ha
        have hja : pl[j]? = some a := hj ▸ idxN_at ha
        rw [idxP_in ha, hj] at hq1
        subst hq1
        have hj1 : (0 : Int) ≤ (j : Int) := by omega
        have hj2 : (j : Int) < (pn : Int) := by omega
        obtain ⟨q2, hq2⟩ : ∃ q, idxP b pl = q := ⟨_, rfl⟩
        have hbad : (b ∈ pl ∨ pe = 1099511627776) → R = ([], [], 100) := fun hb => by
          rw [H.out.2.2.1, if_pos ⟨⟨pe, pl⟩, List.mem_of_getElem? HX.out.2.1, ha, hb⟩]
        have HA := Lib.hid (And.intro ha (And.intro hja (And.intro hbad (And.intro hj hjl))))
        clear ha hja hbad hj hjl
        go_wp2_with fail
        refine (rindex_is w2 pe HX2.out.2.2.1 (by omega) b hq2).mono ?_
        rintro e w3 ⟨rfl, hb3⟩
        have hx3 := (hb3.block _ (lt_of_block HX2.out.1)).trans HX2.out.1
        have hlx2 := lt_of_block HX2.out.1
        have hlx := HX2.out.2.2.2.2.1
        have hB3 : Below w.heap.size w w3 := HX2.out.2.2.2.2.2.trans (hb3.mono (by omega))
        have hW3 : Below bx wr w3 := HX2.out.2.1.trans (hb3.mono (by omega))
        have HX3 := Lib.hid (And.intro hx3 (And.intro hB3 (And.intro (HX2.out.2.2.1.below hb3 (Nat.le_refl _)) hW3)))
        obtain ⟨⟨o2, o3⟩, _⟩ := two30 hx3
        clear m2 m3 hx3 hB3 hb3 hlx2 hlx hW3
        by_cases hbm : b ∈ pl
        · rw [idxP_in hbm] at hq2
          obtain ⟨jb, hjb⟩ : ∃ jb, idxN b pl = jb := ⟨_, rfl⟩
          rw [hjb] at hq2
          subst hq2
          have hjb1 : (0 : Int) ≤ (jb : Int) := by omega
          have HM := Lib.hid (HA.out.2.2.1 (.inl hbm))
          clear hbm hjb
          go_wp2
          go_ret3
          rw [HM.out]
          exact rmoved_no 100 HX3.out.2.1
        rw [idxP_out hbm] at hq2
        subst hq2
        by_cases hmax : pe = 1099511627776
        · have HM := Lib.hid (HA.out.2.2.1 (.inr hmax))
          subst hmax
          clear hbm
          go_wp2
          go_ret3
          rw [HM.out]
          exact rmoved_no 100 HX3.out.2.1
        have hmaxb : (pe == 1099511627776) = false := by simpa using hmax
        have hwe : IntKind.i64.wrap (pe + 1) = pe + 1 := IntWalk.i64_in _ (by omega)
        have HG := Lib.hid (And.intro hbm hmax)
        clear hbm hmax
        have hpn1 : pn ≤ 255 := by omega
        obtain ⟨qs, hq1, hq2⟩ := HR.out.qs
        have hP : PR w3 w.heap.size A1 N c1 (G.map (·.block)).toList qs := hq1.grown (But.of_below (by rw [HX.out.2.2.2.2.2.2.2.2]; exact HX3.out.2.2.2)) (fun j hj hm => by
          obtain ⟨cur, hc⟩ := OwnK.typ hq1.row hj
          obtain ⟨cur', hc'⟩ := HR.out.own.typ (by simpa using hm)
          exact ne_of_type hc hc' (by decide) rfl) (fun j hj => .inl hj)
        have hO : OwnV w3 w.heap.size 3 G m mc ((grp a ((ps.map Pc.pl).take N)).map IV) := HR.out.own.below HX3.out.2.2.2 (by have := HX.out.2.2.2.2.2.2.2.2; omega)
        have HP := Lib.hid (And.intro hP (And.intro hq2 hO))
        clear hP hq1 hq2 hO
        have hmN : m ≤ N := HR.out.hm
        go_wp2_with (first
          | (at_builtin; refine wpList_appV _ rfl (.tmp 65) (.tmp 67) _ rfl w3.heap.size 3 (.int .i64 0) 8 Try.underlying28 info3 rfl (A := none) (n := 0) (c := 0) rfl (OwnV.nil _ _ _) rfl HX3.out.2.2.1 (ivs_one _) (by omega) (by omega) (Nat.le_refl _) pn (by omega) ?_; intro X cX w4 ho4 hg4 hat4; obtain ⟨x, rfl, k4, f4, w5, hw5, hM⟩ := mvA (b := b) ho4 hg4 HX3.out.1 HA.out.2.1; have HM := Lib.hid hM; obtain ⟨⟨p2, p3⟩, _⟩ := two30 hM.1; have HP5 := Lib.hid (mv5 HP.out.1 HP.out.2.2 HX3.out.2.1 hM.2.1 hM.2.2); clear hM ho4 hg4 hat4 o2 o3)
          | (at_builtin; refine wpList_appK _ rfl (.tmp 73) (.tmp 79) _ rfl w.heap.size 30 2 (.agg #[.int .i64 0, .slice none 0 0]) 32 Try.underlying24 info30 rfl (by omega) rfl (HP5.out.1.alloc _).row rfl (m := 1) (RdV.new w5 (Pc.cells ⟨pe + 1, some ⟨x, 0, none⟩, pn, cX, pl.set j b⟩) 30 (0, 0)) (by omega) (by intro u hu; simp [Pc.cells] at hu; rcases hu with rfl | rfl <;> rfl) (by omega) (by omega) (Nat.le_trans HP5.out.2.2.1.size (by simp)) (N + 1) rfl ?_; intro A' c' w7 ho7 hg7 hat7; have HP7 := Lib.hid (mvB (p := ⟨pe + 1, some ⟨x, 0, none⟩, pn, cX, pl.set j b⟩) HP5.out.1 ⟨HM.out.2.1.rd, by simp only; omega⟩ (fun _ => HP5.out.2.2.2) HP5.out.2.1 HP5.out.2.2.1 hg7 hat7 ho7); clear ho7 hg7 hat7)
          | (at_builtin; refine wpList_appV _ rfl (.tmp 81) (.tmp 83) _ rfl w.heap.size 3 (.int .i64 0) 8 Try.underlying28 info3 rfl rfl (HP7.out.2.1.alloc _) rfl (RdV.one w7 (IV (N : Int)) 3 (0, 0)) (ivs_one [(N : Int)]) (by omega) (by omega) (Nat.le_trans HP7.out.2.2.size (by simp)) (m + 1) rfl ?_; intro G' mc' w8 ho8 hg8 hat8))
        go_roundw
        case rel =>
          obtain ⟨c1, c2⟩ := mvC HP7.out.1 HP7.out.2.1 HP7.out.2.2 hg8 hat8
          refine ⟨N + 1, N + 1, m + 1, A', c', G', mc', by have := HX.out.1; omega, by go_num, rfl, rfl, Lib.hid ⟨⟨qs ++ [⟨pe + 1, some ⟨x, 0, none⟩, pn, cX, pl.set j b⟩], c1, ?_⟩, rfl, by omega, ?_, ?_, c2⟩⟩
          · rw [take_snoc HX.out.2.1, List.map_append, List.map_append, HP.out.2.1]
            simp [Pc.pl, mv1, HA.out.1, HA.out.2.2.2.1]
          · rw [take_snoc HX.out.2.1, grp_snoc, if_pos HA.out.1, List.map_append]
            have hl : ((ps.map Pc.pl).take N).length = N := by
              rw [List.length_take]
              have := H.out.2.2.2
              have := HX.out.1
              omega
            rw [hl]
            exact ho8
          · rw [take_snoc HX.out.2.1]
            intro q hq
            rcases List.mem_append.1 hq with hq | hq
            · exact HR.out.good q hq
            · simp at hq
              subst hq
              rintro ⟨_, hb | hb⟩
              · exact HG.out.1 hb
              · exact HG.out.2 hb
        case measure => have := HX.out.1; simp [Go.RowKit.intOf]; omega
      · rw [idxP_out ha] at hq1
        subst hq1
        have HA := Lib.hid ha
        clear ha
        obtain ⟨qs, hq1, hq2⟩ := HR.out.qs
        have hP : PR w2 w.heap.size A1 N c1 (G.map (·.block)).toList qs := hq1.grown (But.of_below (by rw [HX.out.2.2.2.2.2.2.2.2]; exact HX2.out.2.1)) (fun j hj hm => by
          obtain ⟨cur, hc⟩ := OwnK.typ hq1.row hj
          obtain ⟨cur', hc'⟩ := HR.out.own.typ (by simpa using hm)
          exact ne_of_type hc hc' (by decide) rfl) (fun j hj => .inl hj)
        have HP := Lib.hid (And.intro hP hq2)
        clear hP hq1 hq2
        go_wp2_with (at_builtin; refine wpList_appK _ rfl (.tmp 52) (.tmp 54) _ rfl w.heap.size 30 2 (.agg #[.int .i64 0, .slice none 0 0]) 32 Try.underlying24 info30 rfl (by omega) rfl (HP.out.1.alloc _).row rfl (m := 1) (RdV.new w2 (Pc.cells ⟨pe, PA, pn, pc, pl⟩) 30 (0, 0)) (by omega) (by intro u hu; simp [Pc.cells] at hu; rcases hu with rfl | rfl <;> rfl) (by omega) (by omega) (Nat.le_trans HX2.out.2.2.2.2.2.size (by simp)) (N + 1) rfl ?_; intro A' c' w7 ho hg' hat)
        go_roundw
        case rel =>
          refine ⟨N + 1, N + 1, m, A', c', G, mc, by have := HX.out.1; omega, by go_num, rfl, rfl, Lib.hid ⟨⟨qs ++ [⟨pe, PA, pn, pc, pl⟩], (HP.out.1.alloc _).app hg' hat ho ⟨HX2.out.2.2.1.alloc _, by simp only; omega⟩ (fun h0 j hj hm => ?_) (fun j hj => ⟨.inl hj, fun h0 e => ?_⟩), ?_⟩, rfl, ?_, ?_, ?_, ?_⟩⟩
          · have h1 := (HP.out.1.row.block j hm).1
            have h2 := HX2.out.2.2.2.1 h0 j hj
            omega
          · have h1 := (HR.out.own.block j (by simpa using hj)).1
            have h2 := HX2.out.2.2.2.1 h0 j e
            omega
          · rw [take_snoc HX.out.2.1, List.map_append, List.map_append, HP.out.2]
            simp [Pc.pl, mv1, HA.out]
          · have := HR.out.hm
            omega
          · rw [take_snoc HX.out.2.1, grp_snoc, if_neg HA.out, List.append_nil]
            have hb7 : But (A1.map (·.block)).toList (w2.alloc (.cells #[.int .i64 pe, .slice PA pn pc] 30)) w7 := (But.refl _ _).grown hg' (by simp)
            have h1 := (HR.out.own.below HX2.out.2.1 (by have := HX.out.2.2.2.2.2.2.2.2; omega)).alloc (.cells #[.int .i64 pe, .slice PA pn pc] 30)
            refine h1.but hb7 (fun j hj hm => ?_)
            obtain ⟨cur, hc⟩ := OwnK.typ (HP.out.1.alloc (.cells #[.int .i64 pe, .slice PA pn pc] 30)).row (by simpa using hm)
            obtain ⟨cur', hc'⟩ := h1.typ hj
            exact ne_of_type hc hc' (by decide) rfl
          · rw [take_snoc HX.out.2.1]
            intro q hq
            rcases List.mem_append.1 hq with hq | hq
            · exact HR.out.good q hq
            · simp at hq
              subst hq
              exact fun hbad => HA.out hbad.1
          · have hb7 : But (A1.map (·.block)).toList (w2.alloc (.cells #[.int .i64 pe, .slice PA pn pc] 30)) w7 := (But.refl _ _).grown hg' (by simp)
            have h3 := HX2.out.2.2.2.2.2
            refine h3.trans (Below.trans ((Below.refl _ _).alloc h3.size _) ⟨hb7.os, hb7.tape, hb7.output, hb7.size, fun k hk => ?_⟩)
            exact hb7.block k (by have := h3.size; simp; omega) (fun hm => by have := (HP.out.1.row.block k (by simpa using hm)).1; omega)
        case measure => have := HX.out.1; simp [Go.RowKit.intOf]; omega
    · obtain rfl : N = n := by omega
      clear hlt
      go_wp2
      go_ret3
      have ht : (ps.map Pc.pl).take N = ps.map Pc.pl := List.take_of_length_le (by have := H.out.2.2.2; omega)
      obtain ⟨⟨qs, h1, h2⟩, _, h3, h4, h5, h6⟩ := HR.out
      rw [ht] at h2 h4 h5
      rw [H.out.2.2.1, if_neg (fun ⟨p, hp, hb⟩ => h5 p hp hb)]
      exact ⟨A1, N, c1, qs, G, m, mc, rfl, h1.pl, h2, hn, h4.rd, by omega, h6⟩
theorem rmove_is {A : Option Addr} {n ca : Nat} {ps : List Pc} (h : PL w A n ps) (hn : n ≤ 1000000) (a b : Int) : Calls Try.prog 22 #[.slice A n ca, .int .i64 a, .int .i64 b] w (RMoved w (moveP (ps.map Pc.pl) a b)) := by
  unfold moveP
  by_cases hA : AllP (ps.map Pc.pl)
  · rw [if_neg (fun hno => hno hA)]
    by_cases hm : MayNot a b
    · rw [if_pos hm]
      exact rmove_may w h hn a b (decide_eq_true hA) hm
    · rw [if_neg hm]
      exact rmove_loop w h (by have h1 := hA.1.2; have h2 := h.len; rw [List.length_map] at h1; omega) a b hA hm
  · rw [if_pos hA]
    exact rmove_arg w h hn a b (decide_eq_false hA)

end
end Go.Proofs.Ytbilbfjmfaignaa
