/- The reference's Of and First: lists of placements that share their nodes. -/
import Derived.Test.YtbilbfjmfaignaaTelB
import Derived.Test.YtbilbfjmfaignaaPlcL
import Derived.Test.YtbilbfjmfaignaaLawSp
namespace Go.Proofs.Ytbilbfjmfaignaa
open Go.RowKit Go.Coop
set_option maxRecDepth 100000
theorem rdv_but {gs : List Nat} {w w' : World} {A : Option Addr} {n : Nat} {l : List Value} (h : RdV w A n l) (hb : But gs w w') (hA : 0 < n → ∀ j, A.map (·.block) = some j → j ∉ gs) : RdV w' A n l :=
  ⟨h.len, fun hn => by
    obtain ⟨ad, e, hl, hc⟩ := h.cells hn
    subst e
    have hcell : w'.heap[ad.block]? = w.heap[ad.block]? := hb.block _ hl (hA hn _ rfl)
    refine ⟨ad, rfl, Nat.lt_of_lt_of_le hl hb.size, fun j c hj => ?_⟩
    rw [← hc j c hj]
    exact World.cell?_of_block (by rw [addr_add_block]; exact hcell)⟩
theorem rdv_lt {w : World} {A : Option Addr} {n : Nat} {l : List Value} (h : RdV w A n l) (hn : 0 < n) {j : Nat} (hj : A.map (·.block) = some j) : j < w.heap.size := by
  obtain ⟨ad, e, hl, _⟩ := h.cells hn
  subst e
  simp at hj
  omega
/-- a list of placements of one's own; their nodes lie anywhere, but not in the list's block and not in some others -/
structure PR (w : World) (B : Nat) (A : Option Addr) (n c : Nat) (G : List Nat) (ps : List Pc) : Prop where
  row : OwnK w B 30 2 A n c (pcs ps)
  each : ∀ p ∈ ps, p.Ok w ∧ (0 < p.n → ∀ j, p.A.map (·.block) = some j → A.map (·.block) ≠ some j ∧ j ∉ G)
section
variable {w w' : World} {B n c : Nat} {A : Option Addr} {G G' : List Nat} {ps : List Pc}
theorem PR.nil (w : World) (B : Nat) (G : List Nat) : PR w B none 0 0 G [] := ⟨OwnK.nil _ _ _ _, by simp⟩
theorem PR.len (h : PR w B A n c G ps) : ps.length = n := by
  have := h.row.len
  rw [pcs_len] at this
  omega
theorem PR.pl (h : PR w B A n c G ps) : PL w A n ps :=
  ⟨h.len, fun i p hi => by
    obtain ⟨h1, _⟩ := h.each p (List.mem_of_getElem? hi)
    have hlt := (List.getElem?_eq_some_iff.1 hi).1
    obtain ⟨ad, e, hl, hc⟩ := h.row.rd.cells (by have := h.len; omega)
    exact ⟨h1, ad, e, hl, fun j v hj => hc _ _ (pcs_get hi hj)⟩⟩
theorem PR.grown (h : PR w B A n c G ps) (hb : But G w w') (hA : ∀ j, A.map (·.block) = some j → j ∉ G) (hG : ∀ j ∈ G', j ∈ G ∨ w.heap.size ≤ j) : PR w' B A n c G' ps :=
  ⟨h.row.but hb hA, fun p hp => by
    obtain ⟨h1, h2⟩ := h.each p hp
    refine ⟨⟨rdv_but h1.rd hb fun hn j hj => (h2 hn j hj).2, h1.small⟩, fun hn j hj => ⟨(h2 hn j hj).1, fun hm => ?_⟩⟩
    rcases hG j hm with h3 | h3
    · exact (h2 hn j hj).2 h3
    · have := rdv_lt h1.rd hn hj
      omega⟩
theorem PR.alloc (h : PR w B A n c G ps) (o : Obj) : PR (w.alloc o) B A n c G ps := by
  have hb : Below w.heap.size w (w.alloc o) := (Below.refl _ _).alloc (Nat.le_refl _) _
  exact ⟨h.row.below hb (Nat.le_refl _), fun p hp => ⟨(h.each p hp).1.below hb (Nat.le_refl _), (h.each p hp).2⟩⟩
theorem PR.app (h : PR w B A n c G ps) {p : Pc} {A' : Option Addr} {N c' : Nat} (hg : w.grownBy w' (A.map (·.block))) (hat : A'.map (·.block) = A.map (·.block) ∨ A'.map (·.block) = some w.heap.size) (ho : OwnK w' B 30 2 A' N c' (pcs ps ++ p.cells)) (hp : p.Ok w) (hpA : 0 < p.n → ∀ j, p.A.map (·.block) = some j → A.map (·.block) ≠ some j) (hG : ∀ j ∈ G', (j ∈ G ∨ w.heap.size ≤ j) ∧ (0 < p.n → p.A.map (·.block) ≠ some j)) : PR w' B A' N c' G' (ps ++ [p]) := by
  have hb : But (A.map (·.block)).toList w w' := (But.refl _ _).grown hg (by simp)
  have key : ∀ q : Pc, q.Ok w → (0 < q.n → ∀ j, q.A.map (·.block) = some j → A.map (·.block) ≠ some j) → (0 < q.n → ∀ j, q.A.map (·.block) = some j → j ∉ G') → q.Ok w' ∧ (0 < q.n → ∀ j, q.A.map (·.block) = some j → A'.map (·.block) ≠ some j ∧ j ∉ G') := by
    intro q h1 h2 h3
    refine ⟨⟨rdv_but h1.rd hb fun hn j hj hm => ?_, h1.small⟩, fun hn j hj => ⟨fun e => ?_, h3 hn j hj⟩⟩
    · exact h2 hn j hj (by simpa using hm)
    · rcases hat with e' | e'
      · exact h2 hn j hj (e'.symm.trans e)
      · have := rdv_lt h1.rd hn hj
        rw [e'] at e
        injection e with e
        omega
  refine ⟨by rw [pcs_append]; simpa [pcs] using ho, fun q hq => ?_⟩
  rcases List.mem_append.1 hq with hq | hq
  · obtain ⟨h1, h2⟩ := h.each q hq
    refine key q h1 (fun hn j hj => (h2 hn j hj).1) fun hn j hj hm => ?_
    rcases (hG j hm).1 with h3 | h3
    · exact (h2 hn j hj).2 h3
    · have := rdv_lt h1.rd hn hj
      omega
  · simp at hq
    subst hq
    exact key q hp hpA fun hn j hj hm => (hG j hm).2 hn hj
end
/-- what a call of the reference's tells that makes placements -/
def RGave (w : World) (r : List Pl × Int) (e : Ending) (w' : World) : Prop := ∃ A n c ps, e = .returned (.tuple #[.slice A n c, .int .i64 r.2]) ∧ PL w' A n ps ∧ ps.map Pc.pl = r.1 ∧ n ≤ 1000 ∧ Below w.heap.size w w'
def ROfQ (w : World) (r : Pl × Bool) (e : Ending) (w' : World) : Prop := ∃ X m c, e = .returned (.tuple #[.agg #[.int .i64 r.1.e, .slice X m c], .bool r.2]) ∧ RdV w' X m (r.1.l.map IV) ∧ m ≤ 1000000 ∧ Below w.heap.size w w'
section
variable (w : World)
theorem rof_none {A : Option Addr} (n ca : Nat) (s : Int) (h : n = 0 ∨ s < 0) : Calls Try.prog 28 #[.slice A n ca, .int .i64 s] w (ROfQ w (⟨0, []⟩, false)) := by
  obtain ⟨w1, hw1⟩ : ∃ v, w.alloc (.cells #[.int .i64 0, .slice none 0 0] 30) = v := ⟨_, rfl⟩
  obtain ⟨hb1, hx1⟩ := box_new hw1
  obtain ⟨b, hb⟩ : ∃ b, w.heap.size = b := ⟨_, rfl⟩
  rw [hb] at hx1
  obtain ⟨⟨m0, m1⟩, fm0, fm1⟩ := two30 hx1
  have HE := Lib.hid (And.intro hb1 (And.intro hx1 hb))
  clear hb1 hx1
  rcases h with rfl | h
  · go_enter Try.func28, Try.ntmps28
    go_wp2
    obtain ⟨q1, q2, q3⟩ := HE.out
    have hw := row2 (v0 := .int .i64 0) (v1 := .slice none 0 0) q2
    refine bodyPost_ret (v := .tuple #[.agg #[.int .i64 0, .slice none 0 0], .bool false]) ?_ rfl ⟨none, 0, 0, rfl, RdV.nil _ _, by omega, ?_⟩
    · rw [results_cell_tmp rfl]
      simp [asAddr, Result.andThen, loadv30 hw]
    · exact (q1.setCell (by simp; omega) _).setCell (by simp; omega) _
  · by_cases hn : n = 0
    · subst hn
      go_enter Try.func28, Try.ntmps28
      go_wp2
      obtain ⟨q1, q2, q3⟩ := HE.out
      have hw := row2 (v0 := .int .i64 0) (v1 := .slice none 0 0) q2
      refine bodyPost_ret (v := .tuple #[.agg #[.int .i64 0, .slice none 0 0], .bool false]) ?_ rfl ⟨none, 0, 0, rfl, RdV.nil _ _, by omega, ?_⟩
      · rw [results_cell_tmp rfl]
        simp [asAddr, Result.andThen, loadv30 hw]
      · exact (q1.setCell (by simp; omega) _).setCell (by simp; omega) _
    · have hnz : ((n : Int) == 0) = false := by simp; omega
      clear hn
      go_enter Try.func28, Try.ntmps28
      go_wp2
      obtain ⟨q1, q2, q3⟩ := HE.out
      have hw := row2 (v0 := .int .i64 0) (v1 := .slice none 0 0) q2
      refine bodyPost_ret (v := .tuple #[.agg #[.int .i64 0, .slice none 0 0], .bool false]) ?_ rfl ⟨none, 0, 0, rfl, RdV.nil _ _, by omega, ?_⟩
      · rw [results_cell_tmp rfl]
        simp [asAddr, Result.andThen, loadv30 hw]
      · exact (q1.setCell (by simp; omega) _).setCell (by simp; omega) _
theorem rof_some {A : Option Addr} {n ca : Nat} {ps : List Pc} (h : PL w A n ps) (hn : n ≤ 1000000) (s : Nat) (hs : s ≤ 9223372036854775807) (h0 : 0 < n) {i : Nat} (hi : s % n = i) {p : Pc} (hp : ps[i]? = some p) : Calls Try.prog 28 #[.slice A n ca, .int .i64 (s : Int)] w (ROfQ w (p.pl, true)) := by
  obtain ⟨w1, hw1⟩ : ∃ v, w.alloc (.cells #[.int .i64 0, .slice none 0 0] 30) = v := ⟨_, rfl⟩
  obtain ⟨hb1, hx1⟩ := box_new hw1
  obtain ⟨b, hb⟩ : ∃ b, w.heap.size = b := ⟨_, rfl⟩
  rw [hb] at hx1
  have hP1 := h.below hb1 (Nat.le_refl _)
  obtain ⟨ad, hok, rfl, hadl, hload, _, _⟩ := hP1.get' hp
  have hnz : ((n : Int) == 0) = false := by simp; omega
  have hmod : (s : Int) % (n : Int) = (i : Int) := by omega
  have hmod' : (s : Int).tmod (n : Int) = (i : Int) := by rw [Int.tmod_eq_emod_of_nonneg (by omega)]; exact hmod
  have hi1 : (0 : Int) ≤ (i : Int) := by omega
  have hi2 : (i : Int) < (n : Int) := by have := Nat.mod_lt s h0; omega
  have hs0 : (0 : Int) ≤ (s : Int) := by omega
  obtain ⟨⟨m0, m1⟩, fm0, fm1⟩ := two30 hx1
  have HE := Lib.hid (And.intro hb1 (And.intro hx1 (And.intro hb hok)))
  have hok2 := (h.get' hp).choose_spec.1
  have HK := Lib.hid (And.intro hok2 hs)
  clear hb1 hx1 h hP1 hok hadl hp hi hok2
  go_enter Try.func28, Try.ntmps28
  go_wp2
  (try rw [hb]); (try rw [hw1])
  obtain ⟨q1, q2, q3, q4⟩ := HE.out
  have hw := row2 (v0 := .int .i64 p.e) (v1 := .slice p.A p.n p.c) q2
  have hbt : Below w.heap.size w ((w1.setCell ⟨b, 0, none⟩ (.int .i64 p.e)).setCell ⟨b, 1, none⟩ (.slice p.A p.n p.c)) := (q1.setCell (by simp; omega) _).setCell (by simp; omega) _
  refine bodyPost_ret (v := .tuple #[.agg #[.int .i64 p.e, .slice p.A p.n p.c], .bool true]) ?_ rfl ⟨p.A, p.n, p.c, rfl, HK.out.1.rd.below hbt (Nat.le_refl _), HK.out.1.small, hbt⟩
  rw [results_cell_tmp rfl]
  simp [asAddr, Result.andThen, loadv30 hw]
theorem rof_is {A : Option Addr} {n ca : Nat} {ps : List Pc} (h : PL w A n ps) (hn : n ≤ 1000000) (s : Int) (hs : s ≤ 9223372036854775807) : Calls Try.prog 28 #[.slice A n ca, .int .i64 s] w (ROfQ w (ofP (ps.map Pc.pl) s)) := by
  have hln := h.len
  unfold ofP
  by_cases h0 : n = 0 ∨ s < 0
  · rw [if_pos (by simpa [hln] using h0)]
    exact rof_none w n ca s h0
  · rw [if_neg (by simpa [hln] using h0)]
    have hlt : s.toNat % n < ps.length := by rw [hln]; exact Nat.mod_lt _ (by omega)
    obtain ⟨p, hp⟩ : ∃ p, ps[s.toNat % n]? = some p := ⟨_, List.getElem?_eq_getElem hlt⟩
    have := rof_some w (ca := ca) h hn s.toNat (by omega) (by omega) rfl hp
    rw [Int.toNat_of_nonneg (by omega)] at this
    rw [List.length_map, hln, List.getElem?_map, hp]
    exact this
set_option maxHeartbeats 1000000 in
theorem rfirst_yes (nodes n groups : Nat) (c1 : 1 ≤ nodes ∧ nodes ≤ 256) (c2 : 1 ≤ n ∧ n ≤ 255 ∧ n ≤ nodes) (c3 : 1 ≤ groups ∧ groups ≤ 1000) : Calls Try.prog 21 #[.int .i64 (nodes : Int), .int .i64 (n : Int), .int .i64 (groups : Int)] w (RGave w (firstL nodes n groups, 0)) := by
  have e0 : (1 : Int) ≤ (nodes : Int) := by omega
  have e1 : (nodes : Int) ≤ 256 := by omega
  have e2 : (1 : Int) ≤ (n : Int) := by omega
  have e3 : (n : Int) ≤ 255 := by omega
  have e4 : (n : Int) ≤ (nodes : Int) := by omega
  have e5 : (1 : Int) ≤ (groups : Int) := by omega
  have e6 : (groups : Int) ≤ 1000 := by omega
  have HC := Lib.hid (And.intro c1 (And.intro c2 c3))
  clear c1 c2 c3
  go_enter Try.func21, Try.ntmps21
  go_wp2
  clear e0 e1 e2 e3 e4 e5 e6
  go_loopw [8, 9, 10, 11] (fun s8 s9 _ _ wr => ∃ (g : Nat) (A : Option Addr) (c : Nat), g ≤ groups ∧ s9 = .int .i64 g ∧ s8 = .slice A g c ∧ Hid (∃ ps, PR wr w.heap.size A g c [] ps ∧ ps.map Pc.pl = firstL nodes n g ∧ Below w.heap.size w wr)) (fun _ s9 _ _ _ => groups - (Go.RowKit.intOf s9).toNat)
  case atStart => exact ⟨0, none, 0, by omega, rfl, rfl, Lib.hid ⟨[], PR.nil _ _ _, rfl, Below.refl _ _⟩⟩
  case round =>
    obtain ⟨g, A, c, hgl, rfl, rfl, HR⟩ := hrel
    by_cases hlt : g < groups
    · have hi2 : (g : Int) < (groups : Int) := by omega
      have hw1 : IntKind.i64.wrap ((g : Int) + 1) = (g : Int) + 1 := IntWalk.i64_in _ (by have := HC.out; omega)
      have hnz : ((nodes : Int) == 0) = false := by have := HC.out; simp; omega
      have hG := Lib.hid hlt
      clear hlt
      go_wp2
      go_loopw [10, 11] (fun s10 s11 wr2 => ∃ (i : Nat) (X : Option Addr) (cx : Nat), i ≤ n ∧ s11 = .int .i64 i ∧ s10 = .slice X i cx ∧ Hid (∃ ps, PR wr2 w.heap.size A g c (X.map (·.block)).toList ps ∧ ps.map Pc.pl = firstL nodes n g ∧ Below w.heap.size w wr2 ∧ OwnV wr2 w.heap.size 3 X i cx ((row1 nodes i g).map IV))) (fun _ s11 _ => n - (Go.RowKit.intOf s11).toNat)
      case atStart =>
        refine ⟨0, none, 0, by omega, rfl, rfl, ?_⟩
        obtain ⟨ps, h1, h2, h3⟩ := HR.out
        exact Lib.hid ⟨ps, h1, h2, h3, OwnV.nil _ _ _⟩
      case round =>
        obtain ⟨i, X, cx, hil, rfl, rfl, HI⟩ := hrel
        by_cases hlt : i < n
        · have hj2 : (i : Int) < (n : Int) := by omega
          have hw2 : IntKind.i64.wrap ((i : Int) + 1) = (i : Int) + 1 := IntWalk.i64_in _ (by have := HC.out; omega)
          have hw3 : IntKind.i64.wrap ((g : Int) + (i : Int)) = (g : Int) + (i : Int) := IntWalk.i64_in _ (by have := HC.out; have := hG.out; omega)
          have hmod : ((g : Int) + (i : Int)).tmod (nodes : Int) = (((g + i) % nodes : Nat) : Int) := by
            rw [Int.tmod_eq_emod_of_nonneg (by omega)]
            push_cast
            rfl
          have hmod2 : ((g : Int) + (i : Int)) % (nodes : Int) = (((g + i) % nodes : Nat) : Int) := by
            push_cast
            rfl
          have hI := Lib.hid hlt
          have hi255 : i < 255 := by have := HC.out; omega
          clear hlt
          obtain ⟨y, hy⟩ : ∃ y : Int, (((g + i) % nodes : Nat) : Int) = y := ⟨_, rfl⟩
          rw [hy] at hmod hmod2
          obtain ⟨ps, h1, h2, h3, h4⟩ := HI.out
          have HJ := Lib.hid (And.intro h1 (And.intro h2 (And.intro h3 h4)))
          clear h1 h2 h3 h4
          have HY := Lib.hid hy
          clear hy
          go_wp2_with (at_builtin; refine wpList_appV _ rfl (.tmp 49) (.tmp 55) _ rfl w.heap.size 3 (.int .i64 0) 8 Try.underlying28 info3 rfl rfl (HJ.out.2.2.2.alloc _) rfl (RdV.one wr (IV y) 3 (0, 0)) (ivs_one [y]) (by omega) (by omega) (Nat.le_trans HJ.out.2.2.1.size (by simp)) (i + 1) rfl ?_; intro A' c' w' ho hg hat)
          go_roundw
          case rel =>
            refine ⟨i + 1, by have := hI.out; omega, by go_num, A', c', ⟨rfl, rfl, rfl⟩, ?_⟩
            obtain ⟨h1, h2, h3, h4⟩ := HJ.out
            have hb : But (X.map (·.block)).toList (wr.alloc (.cells #[IV y] 3)) w' := (But.refl _ _).grown hg (by simp)
            refine Lib.hid ⟨ps, (h1.alloc _).grown hb ?_ ?_, h2, ?_, ?_⟩
            · intro j hj hm
              obtain ⟨cur, hc⟩ := OwnK.typ h1.row hj
              obtain ⟨cur', hc'⟩ := h4.typ (by simpa using hm)
              exact ne_of_type hc hc' (by decide) rfl
            · intro j hj
              rcases hat with e | e
              · left; rw [← e]; exact hj
              · right
                rw [e] at hj
                simp only [Option.toList_some, List.mem_singleton] at hj
                exact Nat.le_of_eq hj.symm
            · refine h3.trans (Below.trans ((Below.refl _ _).alloc h3.size _) ⟨hb.os, hb.tape, hb.output, hb.size, fun k hk => ?_⟩)
              exact hb.block k (by have := h3.size; simp; omega) (fun hm => by have := (h4.block k (by simpa using hm)).1; omega)
            · have e : (row1 nodes (i + 1) g).map IV = (row1 nodes i g).map IV ++ [IV y] := by
                unfold row1
                rw [List.range_succ, List.map_append, List.map_append]
                simp only [List.map_cons, List.map_nil]
                rw [HY.out]
              rw [e]
              exact ho
          case measure => have := hI.out; simp [Go.RowKit.intOf]; omega
        · obtain rfl : i = n := by omega
          clear hlt
          have hg1000 : g < 1000 := by have := HC.out; have := hG.out; omega
          obtain ⟨ps, h1, h2, h3, h4⟩ := HI.out
          have HJ := Lib.hid (And.intro h1 (And.intro h2 (And.intro h3 h4)))
          clear h1 h2 h3 h4
          go_wp2_with (at_builtin; refine wpList_appK _ rfl (.tmp 57) (.tmp 60) _ rfl w.heap.size 30 2 (.agg #[.int .i64 0, .slice none 0 0]) 32 Try.underlying24 info30 rfl (by omega) rfl (HJ.out.1.alloc _).row rfl (m := 1) (RdV.new wr (Pc.cells ⟨1, X, i, cx, row1 nodes i g⟩) 30 (0, 0)) (by omega) (by intro u hu; simp [Pc.cells] at hu; rcases hu with rfl | rfl <;> rfl) (by omega) (by omega) (Nat.le_trans HJ.out.2.2.1.size (by simp)) (g + 1) rfl ?_; intro A' c' w' ho hg hat)
          go_roundw
          case rel =>
            refine ⟨g + 1, by have := hG.out; omega, by go_num, A', c', ⟨rfl, rfl, rfl⟩, ?_⟩
            obtain ⟨h1, h2, h3, h4⟩ := HJ.out
            have hne : ∀ j, X.map (·.block) = some j → A.map (·.block) ≠ some j := by
              intro j hj hm
              obtain ⟨cur, hc⟩ := OwnK.typ h1.row hm
              obtain ⟨cur', hc'⟩ := h4.typ hj
              exact ne_of_type hc hc' (by decide) rfl
            have hb : But (A.map (·.block)).toList (wr.alloc (.cells #[.int .i64 1, .slice X i cx] 30)) w' := (But.refl _ _).grown hg (by simp)
            refine Lib.hid ⟨ps ++ [⟨1, X, i, cx, row1 nodes i g⟩], (h1.alloc _).app hg hat ho ⟨(h4.rd.alloc _), by have := HC.out; simp only; omega⟩ (fun _ j hj => hne j hj) (by simp), ?_, ?_⟩
            · rw [List.map_append, h2]
              simp [firstL, List.range_succ, Pc.pl]
            · refine h3.trans (Below.trans ((Below.refl _ _).alloc h3.size _) ⟨hb.os, hb.tape, hb.output, hb.size, fun k hk => ?_⟩)
              exact hb.block k (by have := h3.size; simp; omega) (fun hm => by have := (h1.row.block k (by simpa using hm)).1; omega)
          case measure => have := hG.out; simp [Go.RowKit.intOf]; omega
    · obtain rfl : g = groups := by omega
      clear hlt
      go_wp2
      go_ret2
      obtain ⟨ps, h1, h2, h3⟩ := HR.out
      exact ⟨A, g, c, ps, rfl, h1.pl, h2, HC.out.2.2.2, h3⟩
theorem rfirst_is (nodes n groups : Int) : Calls Try.prog 21 #[.int .i64 nodes, .int .i64 n, .int .i64 groups] w (RGave w (firstP nodes n groups)) := by
  unfold firstP
  by_cases hok : FirstOk nodes n groups
  · rw [if_pos hok]
    obtain ⟨c1, c2, c3⟩ := hok
    have := rfirst_yes w nodes.toNat n.toNat groups.toNat (by omega) (by omega) (by omega)
    rwa [Int.toNat_of_nonneg (by omega), Int.toNat_of_nonneg (by omega), Int.toNat_of_nonneg (by omega)] at this
  rw [if_neg hok]
  have HE : RGave w ([], 2) (.returned (.tuple #[.slice none 0 0, .int .i64 2])) w := ⟨none, 0, 0, [], rfl, PL.nil _ _, rfl, by omega, Below.refl _ _⟩
  by_cases c0 : nodes < 1
  · clear hok
    go_enter Try.func21, Try.ntmps21
    go_wp2
    go_ret2
    exact HE
  have d0 : 1 ≤ nodes := by omega
  by_cases c1 : 256 < nodes
  · clear hok
    go_enter Try.func21, Try.ntmps21
    go_wp2
    go_ret2
    exact HE
  have d1 : nodes ≤ 256 := by omega
  by_cases c2 : n < 1
  · clear hok
    go_enter Try.func21, Try.ntmps21
    go_wp2
    go_ret2
    exact HE
  have d2 : 1 ≤ n := by omega
  by_cases c3 : 255 < n
  · clear hok
    go_enter Try.func21, Try.ntmps21
    go_wp2
    go_ret2
    exact HE
  have d3 : n ≤ 255 := by omega
  by_cases c4 : nodes < n
  · clear hok
    go_enter Try.func21, Try.ntmps21
    go_wp2
    go_ret2
    exact HE
  have d4 : n ≤ nodes := by omega
  by_cases c5 : groups < 1
  · clear hok
    go_enter Try.func21, Try.ntmps21
    go_wp2
    go_ret2
    exact HE
  have d5 : 1 ≤ groups := by omega
  by_cases c6 : 1000 < groups
  · clear hok
    go_enter Try.func21, Try.ntmps21
    go_wp2
    go_ret2
    exact HE
  have d6 : groups ≤ 1000 := by omega
  exact absurd ⟨⟨d0, d1⟩, ⟨d2, d3, d4⟩, d5, d6⟩ hok

end
end Go.Proofs.Ytbilbfjmfaignaa
