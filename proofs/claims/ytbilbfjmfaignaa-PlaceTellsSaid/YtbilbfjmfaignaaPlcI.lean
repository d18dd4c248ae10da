/- The closure of Move upon one placement. -/
import Derived.Test.YtbilbfjmfaignaaPlcH
import Derived.StillTail
namespace Go.Proofs.Ytbilbfjmfaignaa
open Go.RowKit Go.Coop
set_option maxRecDepth 100000
theorem _root_.Go.Coop.OwnV.set {w : World} {base E : Nat} {A : Option Addr} {n c : Nat} {l : List Value} (h : OwnV w base E A n c l) {g k : Nat} (hA : A = some ⟨g, 0, none⟩) (x : Value) : OwnV (w.setCell ⟨g, k, none⟩ x) base E A n c (l.set k x) := by
  subst hA
  refine ⟨by rw [List.length_set]; exact h.len, ?_⟩
  refine ⟨by simp [h.len], ?_⟩
  rcases h.row.2 with ⟨hv, h0⟩ | ⟨g', cap, cur, hv, hb, hg, hc1, hc2, hc3, hc4⟩
  · cases hv
  · injection hv with a b c'
    injection a with a
    injection a with a _ _
    subst a c'
    refine .inr ⟨g, c, cur.setIfInBounds k x, rfl, hb, ?_, hc1, hc2, by simpa using hc3, ?_⟩
    · rw [heap_setCell_same w g k cur E x hg]
    · simp only [Array.toList_setIfInBounds, Nat.mul_one] at hc4 ⊢
      rw [List.take_set, hc4]
theorem _root_.Go.Coop.OwnV.addr {w : World} {base E : Nat} {A : Option Addr} {n c : Nat} {l : List Value} (h : OwnV w base E A n c l) (hn : 0 < n) : ∃ g, A = some ⟨g, 0, none⟩ ∧ base ≤ g ∧ g < w.heap.size ∧ ∀ k, w.frozen? ⟨g, k, none⟩ = false := by
  rcases h.row.2 with ⟨hv, h0⟩ | ⟨g, cap, cur, hv, hb, hg, _⟩
  · omega
  · injection hv with a _ _
    subst a
    exact ⟨g, rfl, hb, (Array.getElem?_eq_some_iff.1 hg).1, fun k => frozen_of_row w g k cur E hg⟩


section
variable (w : World)
theorem load30 {w : World} {g : Nat} {l r : List Value} {e : Int} {X : Option Addr} {n c o : Nat} (hl : l.length = o) (h : RowAt w g l (.int .i64 e) (.slice X n c) r) : (Instr.loadAt 30 (.pointer (some ⟨g, o, none⟩))).run Try.prog w = .ok (.agg #[.int .i64 e, .slice X n c]) w := by
  subst hl
  obtain ⟨⟨h0, h1⟩, _⟩ := h.cells
  refine run_loadAt_at w _ 30 [.int .i64 e, .slice X n c] _ (fun j v hj => ?_) Try.underlying30 rfl (by kernel_rfl)
  rw [addr_at]
  match j, hj with
  | 0, hj => simp at hj; subst hj; exact h0
  | 1, hj => simp at hj; subst hj; exact h1
theorem mv_none {g o : Nat} {l r : List Value} {ep : Int} {X : Option Addr} {n c : Nat} {nl : List Int} (hl : l.length = o) (hr : RowAt w g l (.int .i64 ep) (.slice X n c) r) (hX : RdV w X n (nl.map IV)) (hn : n ≤ 1000000) {bf : Nat} {a : Int} (hf : Box w bf (.int .i64 a) 3) (v3 v4 v5 : Value) (k : Int) (ha : a ∉ nl) :
    Calls Try.prog 39 #[.int .i64 k, .pointer (some ⟨g, o, none⟩), .pointer (some ⟨bf, 0, none⟩), v3, v4, v5] w fun e w' => e = .returned (.tuple #[]) ∧ Below w.heap.size w w' := by
  have d1 := hf.cell
  have hi := idxP_out ha
  obtain ⟨⟨c0, c1⟩, _⟩ := hr.cells
  rw [hl] at c0 c1
  have H := Lib.hid (And.intro hX (And.intro hn hi))
  clear hX hn hi hr hf ha hl
  go_enter Try.func39, Try.ntmps39
  go_wp2
  refine wp_region_still_tail 4 (by kernel_rfl) (by kernel_rfl) ?_
  simp only [List.take_succ_cons, List.take_zero, List.drop_succ_cons, List.drop_zero]
  iterate 4 still_step
  refine wpStill_nil ?_
  change wpList _ _ _ _ _ w.drew
  go_wp2_with fail
  refine (index_is _ ep H.out.1.drew H.out.2.1 a H.out.2.2).mono ?_
  rintro e w2 ⟨rfl, hb2⟩
  clear d1 c0 c1
  go_wp2
  (try simp only [Exit.inBlock, Exit.then]); refine bodyPost_ret (results_none rfl _ _ _) rfl ?_
  exact ⟨rfl, (Below.refl _ _).drew.trans hb2⟩
set_option maxHeartbeats 1000000 in
theorem mv_bad {g o : Nat} {l r : List Value} {ep : Int} {X : Option Addr} {n c : Nat} {nl : List Int} (hl : l.length = o) (hr : RowAt w g l (.int .i64 ep) (.slice X n c) r) (hX : RdV w X n (nl.map IV)) (hn : n ≤ 1000000) {bf bt be : Nat} {a b er : Int} (hf : Box w bf (.int .i64 a) 3) (ht : Box w bt (.int .i64 b) 3) (he : Box w be (.int .i64 er) 25) (v5 : Value) (k : Int) (hbad : Bad a b ⟨ep, nl⟩) :
    Calls Try.prog 39 #[.int .i64 k, .pointer (some ⟨g, o, none⟩), .pointer (some ⟨bf, 0, none⟩), .pointer (some ⟨bt, 0, none⟩), .pointer (some ⟨be, 0, none⟩), v5] w fun e w' => e = .returned (.tuple #[]) ∧ But [be] w w' ∧ Box w' be (.int .i64 100) 25 := by
  obtain ⟨ha, hb⟩ := hbad
  simp only at ha hb
  have hi := idxP_in ha
  have d1 := hf.cell
  have d2 := ht.cell
  obtain ⟨⟨c0, c1⟩, _⟩ := hr.cells
  rw [hl] at c0 c1
  have hil := idxN_lt ha
  obtain ⟨i, hii⟩ : ∃ i, idxN a nl = i := ⟨_, rfl⟩
  rw [hii] at hi hil
  have hln : nl.length = n := by simpa using hX.len
  obtain ⟨q, hq⟩ : ∃ q, idxP b nl = q := ⟨_, rfl⟩
  have H := Lib.hid (And.intro hX (And.intro hn (And.intro hi (And.intro hr (And.intro hq (And.intro ht (And.intro he hl)))))))
  have hqb : 0 ≤ q ∨ (q < 0 ∧ ep = 1099511627776) := by
    rw [← hq]
    rcases hb with hb | hb
    · exact .inl (idxP_mem.1 hb)
    · by_cases h0 : 0 ≤ idxP b nl
      · exact .inl h0
      · exact .inr ⟨by omega, hb⟩
  clear hX hi hr hf ha hb hl ht he hq hii hil hln
  go_enter Try.func39, Try.ntmps39
  go_wp2
  refine wp_region_still_tail 4 (by kernel_rfl) (by kernel_rfl) ?_
  simp only [List.take_succ_cons, List.take_zero, List.drop_succ_cons, List.drop_zero]
  iterate 4 still_step
  refine wpStill_nil ?_
  change wpList _ _ _ _ _ w.drew
  go_wp2_with fail
  refine (index_is _ ep H.out.1.drew H.out.2.1 a H.out.2.2.1).mono ?_
  rintro e w2 ⟨rfl, hb2⟩
  have hB2 : Hid (Below w.heap.size w w2) := (Below.refl _ _).drew.trans hb2
  clear d1 d2 c0 c1 hb2
  have hr2 : RowAt w2 g l (.int .i64 ep) (.slice X n c) r := (hB2.out.block _ H.out.2.2.2.1.lt).trans H.out.2.2.2.1
  obtain ⟨⟨c0, c1⟩, _⟩ := hr2.cells
  rw [H.out.2.2.2.2.2.2.2] at c0 c1
  have d2 := (H.out.2.2.2.2.2.1.below hB2.out (Nat.le_refl _)).cell
  clear hr2
  rcases hqb with hq0 | ⟨hq0, rfl⟩
  · go_wp2
    refine wp_region_still_tail 4 (by kernel_rfl) (by kernel_rfl) ?_
    simp only [List.take_succ_cons, List.take_zero, List.drop_succ_cons, List.drop_zero]
    iterate 4 still_step
    refine wpStill_nil ?_
    change wpList _ _ _ _ _ w2.drew
    go_wp2_with fail
    refine (index_is _ ep (H.out.1.below hB2.out (Nat.le_refl _)).drew H.out.2.1 b H.out.2.2.2.2.1).mono ?_
    rintro e w3 ⟨rfl, hb3⟩
    have hB3 : Hid (Below w.heap.size w w3) := hB2.out.trans ((Below.refl _ _).drew.trans hb3 |>.mono hB2.out.size)
    clear d2 c0 c1 hb3
    have he3 := H.out.2.2.2.2.2.2.1.below hB3.out (Nat.le_refl _)
    have c5 := he3.cell
    have f5 := he3.free
    have HE := Lib.hid he3
    clear he3
    go_wp2
    (try simp only [Exit.inBlock, Exit.then]); refine bodyPost_ret (results_none rfl _ _ _) rfl ?_
    exact ⟨rfl, (But.of_below hB3.out).setCell (by simp) _, heap_setCell_same w3 be 0 _ 25 _ HE.out⟩
  · go_wp2
    refine wp_region_still_tail 4 (by kernel_rfl) (by kernel_rfl) ?_
    simp only [List.take_succ_cons, List.take_zero, List.drop_succ_cons, List.drop_zero]
    iterate 4 still_step
    refine wpStill_nil ?_
    change wpList _ _ _ _ _ w2.drew
    go_wp2_with fail
    refine (index_is _ 1099511627776 (H.out.1.below hB2.out (Nat.le_refl _)).drew H.out.2.1 b H.out.2.2.2.2.1).mono ?_
    rintro e w3 ⟨rfl, hb3⟩
    have hB3 : Hid (Below w.heap.size w w3) := hB2.out.trans ((Below.refl _ _).drew.trans hb3 |>.mono hB2.out.size)
    clear d2 c0 c1 hb3
    have he3 := H.out.2.2.2.2.2.2.1.below hB3.out (Nat.le_refl _)
    have c5 := he3.cell
    have f5 := he3.free
    have HE := Lib.hid he3
    have hr3 : RowAt w3 g l (.int .i64 1099511627776) (.slice X n c) r := (hB3.out.block _ H.out.2.2.2.1.lt).trans H.out.2.2.2.1
    obtain ⟨⟨c0, _⟩, _⟩ := hr3.cells
    rw [H.out.2.2.2.2.2.2.2] at c0
    clear he3 hr3
    go_wp2
    (try simp only [Exit.inBlock, Exit.then]); refine bodyPost_ret (results_none rfl _ _ _) rfl ?_
    exact ⟨rfl, (But.of_below hB3.out).setCell (by simp) _, heap_setCell_same w3 be 0 _ 25 _ HE.out⟩

/-- what a move leaves of one placement -/
structure MovedQ (w : World) (B g : Nat) (l r : List Value) (ep : Int) (X : Option Addr) (n c : Nat) (nl : List Int) (i : Nat) (b : Int) (bg : Nat) (G : Option Addr) (m : Nat) (gr : List Int) (k : Int) (w' : World) (G' : Option Addr) (mc' : Nat) : Prop where
  row : RowAt w' g l (.int .i64 (ep + 1)) (.slice X n c) r
  own : OwnV w' B 3 X n c ((nl.set i b).map IV)
  box : Box w' bg (.slice G' (m + 1) mc') 28
  grp : OwnV w' B 3 G' (m + 1) mc' ((gr ++ [k]).map IV)
  but : But ([g, bg] ++ (X.map (·.block)).toList ++ (G.map (·.block)).toList) w w'
  same : G'.map (·.block) = G.map (·.block) ∨ ∃ j, w.heap.size ≤ j ∧ G'.map (·.block) = some j
set_option maxHeartbeats 2000000 in
theorem mv_good {B g o : Nat} {l r : List Value} {ep : Int} {X : Option Addr} {n c : Nat} {nl : List Int} (hl : l.length = o) (hr : RowAt w g l (.int .i64 ep) (.slice X n c) r) (hX : OwnV w B 3 X n c (nl.map IV)) (hn : n ≤ 1000000) {bf bt be bg : Nat} {a b er : Int} (hf : Box w bf (.int .i64 a) 3) (ht : Box w bt (.int .i64 b) 3) (he : Box w be (.int .i64 er) 25)
    {G : Option Addr} {m mc : Nat} {gr : List Int} (hg : Box w bg (.slice G m mc) 28) (hG : OwnV w B 3 G m mc (gr.map IV)) (hm : m ≤ 1000) (hXG : ∀ j, X.map (·.block) = some j → G.map (·.block) ≠ some j) (hbt : bt < B) (hB : B ≤ w.heap.size) (k : Int) (ha : a ∈ nl) (hb : b ∉ nl) (hep : ep ≠ 1099511627776) (he1 : -9223372036854775808 ≤ ep ∧ ep ≤ 1099511627776) :
    Calls Try.prog 39 #[.int .i64 k, .pointer (some ⟨g, o, none⟩), .pointer (some ⟨bf, 0, none⟩), .pointer (some ⟨bt, 0, none⟩), .pointer (some ⟨be, 0, none⟩), .pointer (some ⟨bg, 0, none⟩)] w fun e w' => e = .returned (.tuple #[]) ∧ ∃ G' mc', MovedQ w B g l r ep X n c nl (idxN a nl) b bg G m gr k w' G' mc' := by
  have hi := idxP_in ha
  have d1 := hf.cell
  have d2 := ht.cell
  obtain ⟨⟨c0, c1⟩, _⟩ := hr.cells
  rw [hl] at c0 c1
  have hil := idxN_lt ha
  obtain ⟨i, hii⟩ : ∃ i, idxN a nl = i := ⟨_, rfl⟩
  rw [hii] at hi hil ⊢
  have hln : nl.length = n := by simpa using hX.len
  have hq := idxP_out hb
  obtain ⟨x, rfl, hxB, hxl, _⟩ := hX.addr (by omega)
  have H := Lib.hid (And.intro hX (And.intro hn (And.intro hi (And.intro hr (And.intro hq (And.intro ht (And.intro he (And.intro hl (And.intro hg (And.intro hG (And.intro hXG (And.intro hil hln))))))))))))
  have HN := Lib.hid (And.intro hbt (And.intro hB (And.intro hxB (And.intro hm hxl))))
  clear hX hi hr hf ha hb hl ht he hq hii hil hln hg hG hXG hbt hB hxB hxl hm
  go_enter Try.func39, Try.ntmps39
  go_wp2
  refine wp_region_still_tail 4 (by kernel_rfl) (by kernel_rfl) ?_
  simp only [List.take_succ_cons, List.take_zero, List.drop_succ_cons, List.drop_zero]
  iterate 4 still_step
  refine wpStill_nil ?_
  change wpList _ _ _ _ _ w.drew
  go_wp2_with fail
  refine (index_is _ ep H.out.1.rd.drew H.out.2.1 a H.out.2.2.1).mono ?_
  rintro e w2 ⟨rfl, hb2⟩
  have hB2 : Hid (Below w.heap.size w w2) := (Below.refl _ _).drew.trans hb2
  clear d1 d2 c0 c1 hb2
  have hr2 : RowAt w2 g l (.int .i64 ep) (.slice (some ⟨x, 0, none⟩) n c) r := (hB2.out.block _ H.out.2.2.2.1.lt).trans H.out.2.2.2.1
  obtain ⟨⟨c0, c1⟩, _⟩ := hr2.cells
  rw [H.out.2.2.2.2.2.2.2.1] at c0 c1
  have d2 := (H.out.2.2.2.2.2.1.below hB2.out (Nat.le_refl _)).cell
  clear hr2
  go_wp2
  refine wp_region_still_tail 4 (by kernel_rfl) (by kernel_rfl) ?_
  simp only [List.take_succ_cons, List.take_zero, List.drop_succ_cons, List.drop_zero]
  iterate 4 still_step
  refine wpStill_nil ?_
  change wpList _ _ _ _ _ w2.drew
  go_wp2_with fail
  refine (index_is _ ep (H.out.1.rd.below hB2.out (Nat.le_refl _)).drew H.out.2.1 b H.out.2.2.2.2.1).mono ?_
  rintro e w3 ⟨rfl, hb3⟩
  have hB3 : Hid (Below w.heap.size w w3) := hB2.out.trans ((Below.refl _ _).drew.trans hb3 |>.mono hB2.out.size)
  clear d2 c0 c1 hb3
  have hr3 : RowAt w3 g l (.int .i64 ep) (.slice (some ⟨x, 0, none⟩) n c) r := (hB3.out.block _ H.out.2.2.2.1.lt).trans H.out.2.2.2.1
  obtain ⟨⟨c0, c1⟩, _, _⟩ := hr3.cells
  rw [H.out.2.2.2.2.2.2.2.1] at c0 c1
  have ht3 := H.out.2.2.2.2.2.1.below hB3.out (Nat.le_refl _)
  have hg3 := H.out.2.2.2.2.2.2.2.2.1.below hB3.out (Nat.le_refl _)
  have hX3 := H.out.1.below hB3.out (Nat.le_refl _)
  have hG3 := H.out.2.2.2.2.2.2.2.2.2.1.below hB3.out (Nat.le_refl _)
  obtain ⟨cur, hxt⟩ := hX3.typ (j := x) rfl
  have hxg : x ≠ g := ne_of_type hxt hr3 (by decide)
  have hxbg : x ≠ bg := ne_of_type hxt hg3 (by decide)
  have hgbg : g ≠ bg := ne_of_type hr3 hg3 (by decide)
  have hxbt : x ≠ bt := by have h1 := HN.out.1; have h2 := HN.out.2.2.1; omega
  have d2 := ht3.cell
  have e2 := hX3.rd
  have hlt := H.out.2.2.2.2.2.2.2.2.2.2.2.1
  have hln := H.out.2.2.2.2.2.2.2.2.2.2.2.2
  obtain ⟨ad, ha', _, hcx⟩ := e2.cells (by omega)
  injection ha' with ha'
  subst ha'
  obtain ⟨y, hy⟩ : ∃ y, nl[i]? = some y := ⟨_, List.getElem?_eq_getElem hlt⟩
  have ex := hcx i (IV y) (by rw [List.getElem?_map, hy]; rfl)
  rw [addr_at, Nat.zero_add] at ex
  have fx := frozen_of_row w3 x i _ 3 hxt
  have hi1 : (0 : Int) ≤ (i : Int) := by omega
  have hi2 : (i : Int) < (n : Int) := by omega
  have hepb : (ep == 1099511627776) = false := by simpa using hep
  have HX := Lib.hid (And.intro hr3 (And.intro ht3 (And.intro hg3 (And.intro hX3 (And.intro hG3 hy)))))
  have hw1 : IntKind.i64.wrap (ep + 1) = ep + 1 := IntWalk.i64_in _ (by omega)
  clear hr3 ht3 hg3 hX3 hG3 hxt e2 hcx hy hlt hln
  go_wp2
  refine wp_region_still_tail 7 (by kernel_rfl) (by kernel_rfl) ?_
  simp only [List.take_succ_cons, List.take_zero, List.drop_succ_cons, List.drop_zero]
  iterate 7 still_step
  refine wpStill_nil ?_
  change wpList _ _ _ _ _ w3.drew
  have HD : Hid (Below w3.heap.size w3 w3.drew) := (Below.refl _ _).drew
  generalize w3.drew = wd at *
  have exd := (HD.out.cell (block_lt_of_cell ex)).trans ex
  have fxd := frozen_of_row wd x i _ 3 ((HD.out.block _ (by have := HX.out.2.2.2.1.block x rfl; omega)).trans (HX.out.2.2.2.1.typ (j := x) rfl).choose_spec)
  clear ex fx c0 c1 d2
  obtain ⟨hr3, ht3, hg3, hX3, hG3, hy⟩ := HX.out
  have hrd : RowAt wd g l (.int .i64 ep) (.slice (some ⟨x, 0, none⟩) n c) r := (HD.out.block _ hr3.lt).trans hr3
  have hgd := hg3.below HD.out (Nat.le_refl _)
  have hXd := hX3.below HD.out (Nat.le_refl _)
  have hGd := hG3.below HD.out (Nat.le_refl _)
  have hXG := H.out.2.2.2.2.2.2.2.2.2.2.1
  obtain ⟨w4, hw4⟩ : ∃ v, wd.setCell ⟨x, i, none⟩ (.int .i64 b) = v := ⟨_, rfl⟩
  have hb4 : But [x] wd w4 := by rw [← hw4]; exact (But.refl _ _).setCell (by simp) _
  have hr4 : RowAt w4 g l (.int .i64 ep) (.slice (some ⟨x, 0, none⟩) n c) r := hrd.but hb4 (by simpa using fun e => hxg e.symm)
  have hg4 : Box w4 bg (.slice G m mc) 28 := hgd.but hb4 (by simpa using fun e => hxbg e.symm)
  have hX4 : OwnV w4 B 3 (some ⟨x, 0, none⟩) n c ((nl.set i b).map IV) := by
    have := hXd.set (g := x) (k := i) rfl (.int .i64 b)
    rw [hw4] at this
    rwa [List.map_set]
  have hG4 : OwnV w4 B 3 G m mc (gr.map IV) := hGd.but hb4 (fun j hj hm => by simp at hm; subst hm; exact hXG j rfl hj)
  obtain ⟨⟨c0, c1⟩, f0, f1⟩ := hr4.cells
  rw [H.out.2.2.2.2.2.2.2.1] at c0 c1 f0 f1
  obtain ⟨w5, hw5⟩ : ∃ v, w4.setCell ⟨g, o, none⟩ (.int .i64 (ep + 1)) = v := ⟨_, rfl⟩
  have hb5 : But [g] w4 w5 := by rw [← hw5]; exact (But.refl _ _).setCell (by simp) _
  have hr5 : RowAt w5 g l (.int .i64 (ep + 1)) (.slice (some ⟨x, 0, none⟩) n c) r := by
    have := hr4.set0 (.int .i64 (ep + 1))
    rw [H.out.2.2.2.2.2.2.2.1, hw5] at this
    exact this
  have hg5 : Box w5 bg (.slice G m mc) 28 := hg4.but hb5 (by simpa using fun e => hgbg e.symm)
  have hX5 := own_far hX4 hb5 hr4
  have hG5 := own_far hG4 hb5 hr4
  obtain ⟨w6, hw6⟩ : ∃ v, w5.alloc (.cells #[.int .i64 k] 3) = v := ⟨_, rfl⟩
  obtain ⟨hb6, hx6⟩ := box_new hw6
  have hr6 : RowAt w6 g l (.int .i64 (ep + 1)) (.slice (some ⟨x, 0, none⟩) n c) r := (hb6.block _ hr5.lt).trans hr5
  have hg6 := hg5.below hb6 (Nat.le_refl _)
  have hX6 := hX5.below hb6 (Nat.le_refl _)
  have hG6 := hG5.below hb6 (Nat.le_refl _)
  have hk6 : RdV w6 (some ⟨w5.heap.size, 0, none⟩) 1 ([k].map IV) := by rw [← hw6]; exact RdV.new w5 [IV k] 3 (0, 0)
  have hB6 : But [x, g] w w6 := by
    have h1 : But [x, g] w wd := But.of_below (hB3.out.trans (HD.out.mono hB3.out.size))
    have h2 := (h1.trans (hb4.mono (hs := [x, g]) (by simp))).trans (hb5.mono (hs := [x, g]) (by simp))
    exact h2.trans (But.of_below hb6)
  have d5 := hg5.cell
  have d6 := hg6.cell
  have HZ := Lib.hid (And.intro hr6 (And.intro hg6 (And.intro hX6 (And.intro hG6 (And.intro hk6 hB6)))))
  clear hr3 ht3 hg3 hX3 hG3 hy hrd hgd hXd hGd hXG hb4 hr4 hg4 hX4 hG4 hb5 hr5 hg5 hX5 hG5 hb6 hx6 hr6 hg6 hX6 hG6 hk6 hB6
  obtain ⟨b5, hb5⟩ : ∃ v, w5.heap.size = v := ⟨_, rfl⟩
  rw [hb5] at HZ
  go_wp2_with (at_builtin; refine wpList_appV _ rfl (.tmp 43) (.tmp 45) _ rfl B 3 (.int .i64 0) 8 Try.underlying28 info3 rfl rfl HZ.out.2.2.2.1 rfl HZ.out.2.2.2.2.1 (ivs_one _) (by have := HN.out.2.2.2.1; omega) (by have := HN.out.2.2.2.1; omega) (Nat.le_trans HN.out.2.1 HZ.out.2.2.2.2.2.size) (m + 1) rfl ?_; intro A' c' w7 ho hg hat; have hb7 : But (G.map (·.block)).toList w6 w7 := (But.refl _ _).grown hg (by simp); have hg7 : Box w7 bg (.slice G m mc) 28 := HZ.out.2.1.but hb7 (fun hm => by simp only [Option.mem_toList] at hm; obtain ⟨cur, hc⟩ := HZ.out.2.2.2.1.typ hm; exact ne_of_type hc HZ.out.2.1 (by decide) rfl); have c7 := hg7.cell; have f7 := hg7.free)
  go_end0
  obtain ⟨z1, z2, z3, z4, z5, z6⟩ := HZ.out
  have hb8 : But [bg] w7 (w7.setCell ⟨bg, 0, none⟩ (.slice A' (m + 1) c')) := (But.refl _ _).setCell (by simp) _
  have hr7 : RowAt w7 g l (.int .i64 (ep + 1)) (.slice (some ⟨x, 0, none⟩) n c) r := z1.but hb7 (fun hm => by simp only [Option.mem_toList] at hm; obtain ⟨cur, hc⟩ := z4.typ hm; exact ne_of_type hc z1 (by decide) rfl)
  have hX7 := z3.but hb7 (fun j hj hm => by
    simp only [Option.mem_toList] at hm
    exact H.out.2.2.2.2.2.2.2.2.2.2.1 j hj hm)
  refine ⟨rfl, A', c', hr7.but hb8 (by simpa using hgbg), hX7.but hb8 (fun j hj hm => ?_), heap_setCell_same w7 bg 0 _ 28 _ hg7, ?_, ?_, ?_⟩
  · simp at hj hm
    exact hxbg (hj.trans hm)
  · rw [List.map_append]
    refine ho.but hb8 (fun j hj hm => ?_)
    simp at hm
    subst hm
    obtain ⟨cur, hc⟩ := ho.typ hj
    exact ne_of_type hc hg7 (by decide) rfl
  · refine (((z6.mono ?_).trans (hb7.mono ?_)).trans (hb8.mono ?_)) <;> intro q hq <;> simp at hq ⊢
    · rcases hq with h | h
      · exact .inr (.inr (.inl h))
      · exact .inl h
    · exact .inr (.inr (.inr hq))
    · exact .inr (.inl hq)
  · rcases hat with e | e
    · exact .inl e
    · exact .inr ⟨_, z6.size, e⟩
end
end Go.Proofs.Ytbilbfjmfaignaa
