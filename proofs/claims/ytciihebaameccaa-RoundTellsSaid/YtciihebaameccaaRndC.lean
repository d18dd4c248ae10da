/- Right. -/
import Derived.Test.YtciihebaameccaaRndB
import Derived.Deep.RegionHeld3
namespace Go.Proofs.Ytciihebaameccaa
open Go.RowKit Go.Coop
set_option maxRecDepth 100000
/-- a call that tells this and turns nothing that was there -/
def Told (w : World) (q : Bool) (e : Ending) (w' : World) : Prop := e = .returned (.bool q) ∧ Below w.heap.size w w'
theorem told_mk {w w' : World} {p q : Bool} (h : p = q) (hb : Below w.heap.size w w') : Told w q (.returned (.bool p)) w' := ⟨by rw [h], hb⟩
theorem five26 {w : World} {b : Nat} {x0 x1 x2 x3 x4 : Value} {T : TypeId} (h : w.heap[b]? = some (.cells #[x0, x1, x2, x3, x4] T (0, 0))) : (w.cell? ⟨b, 0, none⟩ = some x0 ∧ w.cell? ⟨b, 1, none⟩ = some x1 ∧ w.cell? ⟨b, 2, none⟩ = some x2 ∧ w.cell? ⟨b, 3, none⟩ = some x3 ∧ w.cell? ⟨b, 4, none⟩ = some x4) ∧ b < w.heap.size :=
  ⟨⟨cell_of_row _ b 0 _ T (0, 0) h, cell_of_row _ b 1 _ T (0, 0) h, cell_of_row _ b 2 _ T (0, 0) h, cell_of_row _ b 3 _ T (0, 0) h, cell_of_row _ b 4 _ T (0, 0) h⟩, lt_of_block h⟩
/-- a round's box, the counter's box, the marks: as long as nothing of these is written -/
structure RB (w : World) (b g : Nat) (s v need ph : Int) (A : Option Addr) (n c : Nat) (ms : List Int) : Prop where
  row : w.heap[b]? = some (.cells #[.int .i64 s, .int .i64 v, .int .i64 need, .int .i64 ph, .slice A n c] 26 (0, 0))
  cl : w.heap[g]? = some (.cells #[.slice A n c] 24 (0, 0))
  rd : RdV w A n (ms.map IV)
theorem RB.below {w w' : World} {b g : Nat} {s v need ph : Int} {A : Option Addr} {n c : Nat} {ms : List Int} {B : Nat} (h : RB w b g s v need ph A n c ms) (hb : Below B w w') (hB : w.heap.size ≤ B) : RB w' b g s v need ph A n c ms :=
  ⟨(hb.block _ (by have := lt_of_block h.row; omega)).trans h.row, (hb.block _ (by have := lt_of_block h.cl; omega)).trans h.cl, h.rd.below hb hB⟩
theorem RB.five {w : World} {b g : Nat} {s v need ph : Int} {A : Option Addr} {n c : Nat} {ms : List Int} (h : RB w b g s v need ph A n c ms) : (w.cell? ⟨b, 0, none⟩ = some (.int .i64 s) ∧ w.cell? ⟨b, 1, none⟩ = some (.int .i64 v) ∧ w.cell? ⟨b, 2, none⟩ = some (.int .i64 need) ∧ w.cell? ⟨b, 3, none⟩ = some (.int .i64 ph) ∧ w.cell? ⟨b, 4, none⟩ = some (.slice A n c)) ∧ b < w.heap.size := five26 h.row
/-- many(ks..) at a world in which a round lies -/
theorem many_is {w : World} {b g : Nat} {s v need ph : Int} {A : Option Addr} {n c : Nat} {ms : List Int} (h : RB w b g s v need ph A n c ms) (hn : n ≤ 1000000) (ks : List Int) (hk : ks.length ≤ 1000000) {K : Option Addr} {nk ck : Nat} (hK : RdV w K nk (ks.map IV)) {q : Int} (hq : cntIn ks ms = q) :
    Calls Try.prog 47 #[.slice K nk ck, .pointer (some ⟨g, 0, none⟩)] w fun e w' => e = .returned (.int .i64 q) ∧ w = w' :=
  count_is w hK (by have := hK.len; simp at this; omega) h.rd hn (cell_of_row _ g 0 _ 24 (0, 0) h.cl) hq
/-- what a phase asks, of the counts -/
def PhN (n need ph c1 c2 c3 c4 : Int) : Prop :=
  (ph = 1 ∧ c2 = 0 ∧ c4 = 0 ∧ c1 < need ∧ c3 ≤ n - need) ∨ (ph = 2 ∧ c2 = 0 ∧ c4 = 0 ∧ need ≤ c1) ∨
  (ph = 3 ∧ c4 = 0 ∧ c2 < n) ∨ (ph = 4 ∧ c2 = n) ∨ (ph = 5 ∧ c2 = 0 ∧ c4 < n) ∨ (ph = 6 ∧ c4 = n)
instance (n need ph c1 c2 c3 c4 : Int) : Decidable (PhN n need ph c1 c2 c3 c4) := by unfold PhN; infer_instance
theorem right_iff {s v need ph : Int} {ms : List Int} {n : Nat} {c1 c2 c3 c4 : Int} (hln : ms.length = n) (hm : MayR s v n need) (hk : cntIn [0, 1, 2, 3, 4] ms = n) (e1 : cnt 1 ms = c1) (e2 : cnt 2 ms = c2) (e3 : cnt 3 ms = c3) (e4 : cnt 4 ms = c4) : decide (RightR ⟨s, v, need, ph, ms⟩) = decide (PhN n need ph c1 c2 c3 c4) := by
  subst hln e1 e2 e3 e4
  exact decide_eq_decide.2 ⟨fun h => h.2.2, fun h => ⟨hm, (cntIn_marks ms).1 hk, h⟩⟩
theorem lit_ints (w : World) (ks : List Int) {w1 : World} {xs : Array Value} (hx : xs = (ks.map IV).toArray) (hw : w.alloc (.cells xs 3) = w1) : RdV w1 (some ⟨w.heap.size, 0, none⟩) ks.length (ks.map IV) ∧ Below w.heap.size w w1 := by
  subst hw hx
  have := RdV.new w (ks.map IV) 3 (0, 0)
  rw [List.length_map] at this
  exact ⟨this, (Below.refl _ _).alloc (Nat.le_refl _) _⟩
section
variable (w : World)
set_option maxHeartbeats 4000000 in
theorem right_is (s v need ph : Int) {A : Option Addr} {n c : Nat} {ms : List Int} (h : RdV w A n (ms.map IV)) (hn : n ≤ 1000000) {q : Bool} (hq : decide (RightR ⟨s, v, need, ph, ms⟩) = q) : Calls Try.prog 11 #[.agg #[.int .i64 s, .int .i64 v, .int .i64 need, .int .i64 ph, .slice A n c]] w (Told w q) := by
  obtain ⟨w1, hw1⟩ : ∃ z, w.alloc (.cells #[.int .i64 s, .int .i64 v, .int .i64 need, .int .i64 ph, .slice A n c] 26) = z := ⟨_, rfl⟩
  obtain ⟨hb1, hx1⟩ := box_new hw1
  obtain ⟨b, hb⟩ : ∃ b, w.heap.size = b := ⟨_, rfl⟩
  rw [hb] at hx1
  have hr1 := Lib.hid (h.below hb1 (Nat.le_refl _))
  have HB1 := Lib.hid hb1
  have HX1 := Lib.hid hx1
  obtain ⟨⟨m0_w1, m1_w1, m2_w1, m3_w1, m4_w1⟩, hbl_w1⟩ := five26 hx1
  clear h hb1 hx1
  have hln : ms.length = n := by have := hr1.out.len; simpa using this
  go_enter Try.func11, Try.ntmps11
  go_wp2
  (try rw [hw1]); (try rw [hb])
  refine wp_region_held_drew (S := fun z => Below w1.heap.size w1 z) (by kernel_rfl) ((Below.refl _ _).drew) (fun hHeld => ?_)
  refine wpAnyH_take (i := 0) (oi := ⟨some 5, _, _, _, _, _⟩) (v := ?_) rfl (by kernel_rfl) (by kernel_rfl) (by kernel_rfl) (fun _ _ _ h => h) (Or.inl ⟨by rfl, ?_⟩) (by assumption) ?_
  rotate_left
  · intro w hSw
    (try dsimp only at hSw)
    go_simp
    all_goals (with_reducible rfl)
  try simp only [Act.put, List.setIfInBounds_toArray, List.set_cons_zero, List.set_cons_succ]
  refine wpAnyH_take (i := 1) (oi := ⟨some 6, _, _, _, _, _⟩) (v := ?_) rfl (by kernel_rfl) (by kernel_rfl) (by kernel_rfl) (fun _ _ _ h => h) (Or.inl ⟨by rfl, ?_⟩) (by assumption) ?_
  rotate_left
  · intro w hSw
    have kk := (hSw.cell (p := ⟨b, 4, none⟩) hbl_w1).trans m4_w1
    clear hSw
    go_simp
    all_goals (with_reducible rfl)
  try simp only [Act.put, List.setIfInBounds_toArray, List.set_cons_zero, List.set_cons_succ]
  refine wpAnyH_take (i := 2) (oi := ⟨some 7, _, _, _, _, _⟩) (v := ?_) rfl (by kernel_rfl) (by kernel_rfl) (by kernel_rfl) (fun _ _ _ h => h) (Or.inl ⟨by rfl, ?_⟩) (by assumption) ?_
  rotate_left
  · intro w hSw
    (try dsimp only at hSw)
    go_simp
    all_goals (with_reducible rfl)
  try simp only [Act.put, List.setIfInBounds_toArray, List.set_cons_zero, List.set_cons_succ]
  refine wpAnyH_take (i := 3) (oi := ⟨some 8, _, _, _, _, _⟩) (v := ?_) rfl (by kernel_rfl) (by kernel_rfl) (by kernel_rfl) (fun _ _ _ h => h) (Or.inl ⟨by rfl, ?_⟩) (by assumption) ?_
  rotate_left
  · intro w hSw
    (try dsimp only at hSw)
    go_simp
    all_goals (with_reducible rfl)
  try simp only [Act.put, List.setIfInBounds_toArray, List.set_cons_zero, List.set_cons_succ]
  refine wpAnyH_take (i := 4) (oi := ⟨some 9, _, _, _, _, _⟩) (v := ?_) rfl (by kernel_rfl) (by kernel_rfl) (by kernel_rfl) (fun _ _ _ h => h) (Or.inl ⟨by rfl, ?_⟩) (by assumption) ?_
  rotate_left
  · intro w hSw
    have kk := (hSw.cell (p := ⟨b, 4, none⟩) hbl_w1).trans m4_w1
    clear hSw
    go_simp
    all_goals (with_reducible rfl)
  try simp only [Act.put, List.setIfInBounds_toArray, List.set_cons_zero, List.set_cons_succ]
  refine wpAnyH_ready (rs := [5]) (by kernel_rfl) (by simp) (AllReadyH.cons (o := ⟨some 10, _, _, _, _, _⟩) rfl (fun K hK => ?_) AllReadyH.nil)
  go_simp
  refine (counter_is _ A n c).mono ?_
  rintro e w2 ⟨rfl, hw2⟩
  have HB2 : Hid (Below w1.heap.size w1 w2) := by show Below _ _ _; rw [hw2]; exact (Below.refl w1.heap.size w1).drew.alloc (Nat.le_refl _) _
  obtain ⟨g, hg⟩ : ∃ g, w1.drew.heap.size = g := ⟨_, rfl⟩
  have HR_w2 : Hid (RB w2 b g s v need ph A n c ms) := by refine ⟨(HB2.out.block _ (lt_of_block HX1.out)).trans HX1.out, ?_, hr1.out.below HB2.out (Nat.le_refl _)⟩; rw [← hg, hw2]; exact heap_alloc_new _ _
  rw [hg]
  clear hw2 hg
  refine hK.out _ _ (HB2.out) (fun hHeld => ?_)
  clear hK K
  try simp only [Act.put, List.setIfInBounds_toArray, List.set_cons_zero, List.set_cons_succ]
  refine wpAnyH_take (i := 6) (oi := ⟨some 3, _, _, _, _, _⟩) (v := ?_) rfl (by kernel_rfl) (by kernel_rfl) (by kernel_rfl) (fun _ _ _ h => h) (Or.inl ⟨by rfl, ?_⟩) (by assumption) ?_
  rotate_left
  · intro w hSw
    (try dsimp only at hSw)
    go_simp
    all_goals (with_reducible rfl)
  try simp only [Act.put, List.setIfInBounds_toArray, List.set_cons_zero, List.set_cons_succ]
  refine wpAnyH_take (i := 7) (oi := ⟨some 4, _, _, _, _, _⟩) (v := ?_) rfl (by kernel_rfl) (by kernel_rfl) (by kernel_rfl) (fun _ _ _ h => h) (Or.inl ⟨by rfl, ?_⟩) (by assumption) ?_
  rotate_left
  · intro w hSw
    (try dsimp only at hSw)
    go_simp
    all_goals (with_reducible rfl)
  try simp only [Act.put, List.setIfInBounds_toArray, List.set_cons_zero, List.set_cons_succ]
  refine wpAnyH_done (by kernel_rfl) ?_ _
  have HB_w2 : Hid (Below w.heap.size w w2) := HB1.out.trans (HB2.out.mono HB1.out.size)
  clear HB1 HB2 HX1 hr1 m0_w1 m1_w1 m2_w1 m3_w1 m4_w1 hbl_w1 hw1 hb
  obtain ⟨⟨m0_w2, m1_w2, m2_w2, m3_w2, m4_w2⟩, hbl_w2⟩ := HR_w2.out.five
  by_cases hmay : MayR s v n need
  · have hm := Lib.hid (decide_eq_true hmay)
    have HM := Lib.hid hmay
    clear hmay
    obtain ⟨k0, e0⟩ : ∃ k, cntIn [0, 1, 2, 3, 4] ms = k := ⟨_, rfl⟩
    have E_01234 := Lib.hid e0
    skip
    go_wp2_with fail
    refine (may_q _ s v n need hm.out).mono ?_
    rintro e w' ⟨rfl, rfl⟩
    by_cases hk : k0 = n
    · subst hk
      obtain ⟨c1, e1⟩ : ∃ k, cnt 1 ms = k := ⟨_, rfl⟩
      obtain ⟨c2, e2⟩ : ∃ k, cnt 2 ms = k := ⟨_, rfl⟩
      obtain ⟨c3, e3⟩ : ∃ k, cnt 3 ms = k := ⟨_, rfl⟩
      obtain ⟨c4, e4⟩ : ∃ k, cnt 4 ms = k := ⟨_, rfl⟩
      have E_1 : Hid (cntIn [1] ms = c1) := (cntIn_one 1 ms).trans e1
      have E_2 : Hid (cntIn [2] ms = c2) := (cntIn_one 2 ms).trans e2
      have E_3 : Hid (cntIn [3] ms = c3) := (cntIn_one 3 ms).trans e3
      have E_4 : Hid (cntIn [4] ms = c4) := (cntIn_one 4 ms).trans e4
      obtain ⟨c24, e24⟩ : ∃ k, cntIn [2, 4] ms = k := ⟨_, rfl⟩
      have E_24 := Lib.hid e24
      have h24 : c24 = c2 + c4 := by rw [← e24, ← e2, ← e4]; exact cntIn_two (by decide) ms
      have g2 : 0 ≤ c2 := e2 ▸ cnt_nonneg 2 ms
      have g4 : 0 ≤ c4 := e4 ▸ cnt_nonneg 4 ms
      have hq2 : decide (PhN n need ph c1 c2 c3 c4) = q := (right_iff hln HM.out e0 e1 e2 e3 e4).symm.trans hq
      unfold PhN at hq2
      clear hq e0 e1 e2 e3 e4 e24
      have hmay2 : (1 ≤ (n : Int) ∧ (n : Int) ≤ 255) ∧ 1 ≤ need ∧ need ≤ n := HM.out.2.2
      have HY := Lib.hid hmay2
      clear hmay2
      go_wp2_with fail
      obtain ⟨x12, h_x12⟩ : ∃ z, w2.alloc (.cells #[.int .i64 0, .int .i64 1, .int .i64 2, .int .i64 3, .int .i64 4] 3) = z := ⟨_, rfl⟩
      obtain ⟨hK_x12, hbK_x12⟩ := lit_ints w2 [0, 1, 2, 3, 4] rfl h_x12
      have HR_x12 := Lib.hid (HR_w2.out.below (hbK_x12) (Nat.le_refl _))
      have HB_x12 : Hid (Below w.heap.size w x12) := HB_w2.out.trans ((hbK_x12 : Below w2.heap.size w2 x12).mono HB_w2.out.size)
      rw [h_x12]
      have HK_x12 := Lib.hid hK_x12
      clear hK_x12 hbK_x12 h_x12
      refine (many_is HR_x12.out hn [0, 1, 2, 3, 4] (by decide) HK_x12.out E_01234.out).mono ?_
      rintro e w' ⟨rfl, rfl⟩
      by_cases hp1 : ph = 1
      · subst hp1
        by_cases h0 : c24 = 0
        · by_cases h1 : c1 < need
          · by_cases h2 : c3 ≤ n - need
            · have hy := HY.out
              obtain rfl : q = true := by rw [← hq2]; exact decide_eq_true (by omega)
              clear hq2
              have hw : IntKind.i64.wrap ((n : Int) - need) = (n : Int) - need := IntWalk.i64_in _ (by omega)
              subst h0
              have t1 := Lib.hid h1
              have t2 := decide_eq_true h2
              clear h2 h24 g2 g4 hy
              have f3 := HR_x12.out.five.1.2.2.2.1
              go_wp2
              clear f3
              obtain ⟨x18, h_x18⟩ : ∃ z, x12.drew = z := ⟨_, rfl⟩
              have hbd : Below x12.heap.size x12 x18 := h_x18 ▸ (Below.refl _ _).drew
              have HR_x18 := Lib.hid (HR_x12.out.below hbd (Nat.le_refl _))
              have HB_x18 : Hid (Below w.heap.size w x18) := HB_x12.out.trans (hbd.mono HB_x12.out.size)
              have HS_x18 : Hid (Below x18.heap.size x18 x18) := Below.refl _ _
              clear hbd
              obtain ⟨⟨m0, m1, m2, m3, m4⟩, hbl⟩ := HR_x18.out.five
              refine wp_region_held_drew (S := fun z => Below x18.heap.size x18 z) (by kernel_rfl) (by show Below _ _ _; rw [h_x18]; exact Below.refl _ _) (fun hHeld => ?_)
              rw [h_x18]
              clear h_x18
              refine wpAnyH_take (i := 0) (oi := ⟨some 31, _, _, _, _, _⟩) (v := ?_) rfl (by kernel_rfl) (by kernel_rfl) (by kernel_rfl) (fun _ _ _ h => h) (Or.inl ⟨by rfl, ?_⟩) (by assumption) ?_
              rotate_left
              · intro w hSw
                (try dsimp only at hSw)
                go_simp
                all_goals (with_reducible rfl)
              try simp only [Act.put, List.setIfInBounds_toArray, List.set_cons_zero, List.set_cons_succ]
              refine wpAnyH_ready (rs := [1]) (by kernel_rfl) (by simp) (AllReadyH.cons (o := ⟨some 32, _, _, _, _, _⟩) rfl (fun K hK => ?_) AllReadyH.nil)
              go_simp
              obtain ⟨x19, h_x19⟩ : ∃ z, x18.alloc (.cells #[.int .i64 2, .int .i64 4] 3) = z := ⟨_, rfl⟩
              obtain ⟨hK_x19, hbK_x19⟩ := lit_ints x18 [2, 4] rfl h_x19
              have HR_x19 := Lib.hid (HR_x18.out.below (hbK_x19) (Nat.le_refl _))
              have HB_x19 : Hid (Below w.heap.size w x19) := HB_x18.out.trans ((hbK_x19 : Below x18.heap.size x18 x19).mono HB_x18.out.size)
              have HS_x19 : Hid (Below x18.heap.size x18 x19) := HS_x18.out.trans ((hbK_x19 : Below x18.heap.size x18 x19).mono HS_x18.out.size)
              rw [h_x19]
              have HK_x19 := Lib.hid hK_x19
              clear hK_x19 hbK_x19 h_x19
              refine hK.out _ _ (HS_x19.out) (fun hHeld => ?_)
              clear hK K
              try simp only [Act.put, List.setIfInBounds_toArray, List.set_cons_zero, List.set_cons_succ]
              refine wpAnyH_ready (rs := [2]) (by kernel_rfl) (by simp) (AllReadyH.cons (o := ⟨some 33, _, _, _, _, _⟩) rfl (fun K hK => ?_) AllReadyH.nil)
              go_simp
              refine (many_is HR_x19.out hn [2, 4] (by decide) HK_x19.out E_24.out).mono ?_
              rintro e w' ⟨rfl, rfl⟩
              refine hK.out _ _ (HS_x19.out) (fun hHeld => ?_)
              clear hK K
              try simp only [Act.put, List.setIfInBounds_toArray, List.set_cons_zero, List.set_cons_succ]
              refine wpAnyH_take (i := 3) (oi := ⟨some 34, _, _, _, _, _⟩) (v := ?_) rfl (by kernel_rfl) (by kernel_rfl) (by kernel_rfl) (fun _ _ _ h => h) (Or.inl ⟨by rfl, ?_⟩) (by assumption) ?_
              rotate_left
              · intro w hSw
                (try dsimp only at hSw)
                go_simp
                all_goals (with_reducible rfl)
              try simp only [Act.put, List.setIfInBounds_toArray, List.set_cons_zero, List.set_cons_succ]
              refine wpAnyH_take (i := 4) (oi := ⟨some 35, _, _, _, _, _⟩) (v := ?_) rfl (by kernel_rfl) (by kernel_rfl) (by kernel_rfl) (fun _ _ _ h => h) (Or.inl ⟨by rfl, ?_⟩) (by assumption) ?_
              rotate_left
              · intro w hSw
                (try dsimp only at hSw)
                go_simp
                all_goals (with_reducible rfl)
              try simp only [Act.put, List.setIfInBounds_toArray, List.set_cons_zero, List.set_cons_succ]
              refine wpAnyH_take (i := 5) (oi := ⟨some 36, _, _, _, _, _⟩) (v := ?_) rfl (by kernel_rfl) (by kernel_rfl) (by kernel_rfl) (fun _ _ _ h => h) (Or.inl ⟨by rfl, ?_⟩) (by assumption) ?_
              rotate_left
              · intro w hSw
                (try dsimp only at hSw)
                go_simp
                all_goals (with_reducible rfl)
              try simp only [Act.put, List.setIfInBounds_toArray, List.set_cons_zero, List.set_cons_succ]
              refine wpAnyH_take (i := 8) (oi := ⟨some 39, _, _, _, _, _⟩) (v := ?_) rfl (by kernel_rfl) (by kernel_rfl) (by kernel_rfl) (fun _ _ _ h => h) (Or.inl ⟨by rfl, ?_⟩) (by assumption) ?_
              rotate_left
              · intro w hSw
                (try dsimp only at hSw)
                go_simp
                all_goals (with_reducible rfl)
              try simp only [Act.put, List.setIfInBounds_toArray, List.set_cons_zero, List.set_cons_succ]
              refine wpAnyH_take (i := 9) (oi := ⟨some 40, _, _, _, _, _⟩) (v := ?_) rfl (by kernel_rfl) (by kernel_rfl) (by kernel_rfl) (fun _ _ _ h => h) (Or.inl ⟨by rfl, ?_⟩) (by assumption) ?_
              rotate_left
              · intro w hSw
                have kk := (hSw.cell (p := ⟨b, 2, none⟩) hbl).trans m2
                clear hSw
                go_simp
                all_goals (with_reducible rfl)
              try simp only [Act.put, List.setIfInBounds_toArray, List.set_cons_zero, List.set_cons_succ]
              refine wpAnyH_ready (rs := [6]) (by kernel_rfl) (by simp) (AllReadyH.cons (o := ⟨some 37, _, _, _, _, _⟩) rfl (fun K hK => ?_) AllReadyH.nil)
              go_simp
              obtain ⟨x20, h_x20⟩ : ∃ z, x19.alloc (.cells #[.int .i64 1] 3) = z := ⟨_, rfl⟩
              obtain ⟨hK_x20, hbK_x20⟩ := lit_ints x19 [1] rfl h_x20
              have HR_x20 := Lib.hid (HR_x19.out.below (hbK_x20) (Nat.le_refl _))
              have HB_x20 : Hid (Below w.heap.size w x20) := HB_x19.out.trans ((hbK_x20 : Below x19.heap.size x19 x20).mono HB_x19.out.size)
              have HS_x20 : Hid (Below x18.heap.size x18 x20) := HS_x19.out.trans ((hbK_x20 : Below x19.heap.size x19 x20).mono HS_x19.out.size)
              rw [h_x20]
              have HK_x20 := Lib.hid hK_x20
              clear hK_x20 hbK_x20 h_x20
              refine hK.out _ _ (HS_x20.out) (fun hHeld => ?_)
              clear hK K
              try simp only [Act.put, List.setIfInBounds_toArray, List.set_cons_zero, List.set_cons_succ]
              refine wpAnyH_ready (rs := [7]) (by kernel_rfl) (by simp) (AllReadyH.cons (o := ⟨some 38, _, _, _, _, _⟩) rfl (fun K hK => ?_) AllReadyH.nil)
              go_simp
              refine (many_is HR_x20.out hn [1] (by decide) HK_x20.out E_1.out).mono ?_
              rintro e w' ⟨rfl, rfl⟩
              refine hK.out _ _ (HS_x20.out) (fun hHeld => ?_)
              clear hK K
              try simp only [Act.put, List.setIfInBounds_toArray, List.set_cons_zero, List.set_cons_succ]
              refine wpAnyH_take (i := 10) (oi := ⟨some 41, _, _, _, _, _⟩) (v := ?_) rfl (by kernel_rfl) (by kernel_rfl) (by kernel_rfl) (fun _ _ _ h => h) (Or.inl ⟨by rfl, ?_⟩) (by assumption) ?_
              rotate_left
              · intro w hSw
                (try dsimp only at hSw)
                go_simp
                all_goals (with_reducible rfl)
              try simp only [Act.put, List.setIfInBounds_toArray, List.set_cons_zero, List.set_cons_succ]
              refine wpAnyH_take (i := 11) (oi := ⟨some 42, _, _, _, _, _⟩) (v := ?_) rfl (by kernel_rfl) (by kernel_rfl) (by kernel_rfl) (fun _ _ _ h => h) (Or.inl ⟨by rfl, ?_⟩) (by assumption) ?_
              rotate_left
              · intro w hSw
                (try dsimp only at hSw)
                go_simp
                all_goals (with_reducible rfl)
              try simp only [Act.put, List.setIfInBounds_toArray, List.set_cons_zero, List.set_cons_succ]
              refine wpAnyH_take (i := 12) (oi := ⟨some 43, _, _, _, _, _⟩) (v := ?_) rfl (by kernel_rfl) (by kernel_rfl) (by kernel_rfl) (fun _ _ _ h => h) (Or.inl ⟨by rfl, ?_⟩) (by assumption) ?_
              rotate_left
              · intro w hSw
                (try dsimp only at hSw)
                go_simp
                all_goals (with_reducible rfl)
              try simp only [Act.put, List.setIfInBounds_toArray, List.set_cons_zero, List.set_cons_succ]
              refine wpAnyH_take (i := 13) (oi := ⟨some 44, _, _, _, _, _⟩) (v := ?_) rfl (by kernel_rfl) (by kernel_rfl) (by kernel_rfl) (fun _ _ _ h => h) (Or.inl ⟨by rfl, ?_⟩) (by assumption) ?_
              rotate_left
              · intro w hSw
                (try dsimp only at hSw)
                go_simp
                all_goals (with_reducible rfl)
              try simp only [Act.put, List.setIfInBounds_toArray, List.set_cons_zero, List.set_cons_succ]
              refine wpAnyH_take (i := 16) (oi := ⟨some 47, _, _, _, _, _⟩) (v := ?_) rfl (by kernel_rfl) (by kernel_rfl) (by kernel_rfl) (fun _ _ _ h => h) (Or.inl ⟨by rfl, ?_⟩) (by assumption) ?_
              rotate_left
              · intro w hSw
                (try dsimp only at hSw)
                go_simp
                all_goals (with_reducible rfl)
              try simp only [Act.put, List.setIfInBounds_toArray, List.set_cons_zero, List.set_cons_succ]
              refine wpAnyH_take (i := 17) (oi := ⟨some 48, _, _, _, _, _⟩) (v := ?_) rfl (by kernel_rfl) (by kernel_rfl) (by kernel_rfl) (fun _ _ _ h => h) (Or.inl ⟨by rfl, ?_⟩) (by assumption) ?_
              rotate_left
              · intro w hSw
                (try dsimp only at hSw)
                go_simp
                all_goals (with_reducible rfl)
              try simp only [Act.put, List.setIfInBounds_toArray, List.set_cons_zero, List.set_cons_succ]
              refine wpAnyH_take (i := 18) (oi := ⟨some 49, _, _, _, _, _⟩) (v := ?_) rfl (by kernel_rfl) (by kernel_rfl) (by kernel_rfl) (fun _ _ _ h => h) (Or.inl ⟨by rfl, ?_⟩) (by assumption) ?_
              rotate_left
              · intro w hSw
                have kk := (hSw.cell (p := ⟨b, 2, none⟩) hbl).trans m2
                clear hSw
                go_simp
                all_goals (with_reducible rfl)
              try simp only [Act.put, List.setIfInBounds_toArray, List.set_cons_zero, List.set_cons_succ]
              refine wpAnyH_take (i := 19) (oi := ⟨some 50, _, _, _, _, _⟩) (v := ?_) rfl (by kernel_rfl) (by kernel_rfl) (by kernel_rfl) (fun _ _ _ h => h) (Or.inl ⟨by rfl, ?_⟩) (by assumption) ?_
              rotate_left
              · intro w hSw
                (try dsimp only at hSw)
                go_simp
                all_goals (with_reducible rfl)
              try simp only [Act.put, List.setIfInBounds_toArray, List.set_cons_zero, List.set_cons_succ]
              refine wpAnyH_ready (rs := [14]) (by kernel_rfl) (by simp) (AllReadyH.cons (o := ⟨some 45, _, _, _, _, _⟩) rfl (fun K hK => ?_) AllReadyH.nil)
              go_simp
              obtain ⟨x21, h_x21⟩ : ∃ z, x20.alloc (.cells #[.int .i64 3] 3) = z := ⟨_, rfl⟩
              obtain ⟨hK_x21, hbK_x21⟩ := lit_ints x20 [3] rfl h_x21
              have HR_x21 := Lib.hid (HR_x20.out.below (hbK_x21) (Nat.le_refl _))
              have HB_x21 : Hid (Below w.heap.size w x21) := HB_x20.out.trans ((hbK_x21 : Below x20.heap.size x20 x21).mono HB_x20.out.size)
              have HS_x21 : Hid (Below x18.heap.size x18 x21) := HS_x20.out.trans ((hbK_x21 : Below x20.heap.size x20 x21).mono HS_x20.out.size)
              rw [h_x21]
              have HK_x21 := Lib.hid hK_x21
              clear hK_x21 hbK_x21 h_x21
              refine hK.out _ _ (HS_x21.out) (fun hHeld => ?_)
              clear hK K
              try simp only [Act.put, List.setIfInBounds_toArray, List.set_cons_zero, List.set_cons_succ]
              refine wpAnyH_ready (rs := [15]) (by kernel_rfl) (by simp) (AllReadyH.cons (o := ⟨some 46, _, _, _, _, _⟩) rfl (fun K hK => ?_) AllReadyH.nil)
              go_simp
              refine (many_is HR_x21.out hn [3] (by decide) HK_x21.out E_3.out).mono ?_
              rintro e w' ⟨rfl, rfl⟩
              refine hK.out _ _ (HS_x21.out) (fun hHeld => ?_)
              clear hK K
              try simp only [Act.put, List.setIfInBounds_toArray, List.set_cons_zero, List.set_cons_succ]
              refine wpAnyH_take (i := 20) (oi := ⟨some 51, _, _, _, _, _⟩) (v := ?_) rfl (by kernel_rfl) (by kernel_rfl) (by kernel_rfl) (fun _ _ _ h => h) (Or.inl ⟨by rfl, ?_⟩) (by assumption) ?_
              rotate_left
              · intro w hSw
                (try dsimp only at hSw)
                go_simp
                all_goals (with_reducible rfl)
              try simp only [Act.put, List.setIfInBounds_toArray, List.set_cons_zero, List.set_cons_succ]
              refine wpAnyH_take (i := 21) (oi := ⟨some 52, _, _, _, _, _⟩) (v := ?_) rfl (by kernel_rfl) (by kernel_rfl) (by kernel_rfl) (fun _ _ _ h => h) (Or.inl ⟨by rfl, ?_⟩) (by assumption) ?_
              rotate_left
              · intro w hSw
                (try dsimp only at hSw)
                go_simp
                all_goals (with_reducible rfl)
              try simp only [Act.put, List.setIfInBounds_toArray, List.set_cons_zero, List.set_cons_succ]
              refine wpAnyH_take (i := 22) (oi := ⟨some 2, _, _, _, _, _⟩) (v := ?_) rfl (by kernel_rfl) (by kernel_rfl) (by kernel_rfl) (fun _ _ _ h => h) (Or.inl ⟨by rfl, ?_⟩) (by assumption) ?_
              rotate_left
              · intro w hSw
                (try dsimp only at hSw)
                go_simp
                all_goals (with_reducible rfl)
              try simp only [Act.put, List.setIfInBounds_toArray, List.set_cons_zero, List.set_cons_succ]
              refine wpAnyH_done (by kernel_rfl) ?_ _
              clear m0 m1 m2 m3 m4 hbl
              go_wp2
              go_ret
              exact told_mk rfl HB_x21.out
            · have hy := HY.out
              obtain rfl : q = false := by rw [← hq2]; exact decide_eq_false (by omega)
              clear hq2
              have hw : IntKind.i64.wrap ((n : Int) - need) = (n : Int) - need := IntWalk.i64_in _ (by omega)
              subst h0
              have t2 := decide_eq_false h2
              clear h2 h24 g2 g4 hy
              have f3 := HR_x12.out.five.1.2.2.2.1
              go_wp2
              clear f3
              obtain ⟨x22, h_x22⟩ : ∃ z, x12.drew = z := ⟨_, rfl⟩
              have hbd : Below x12.heap.size x12 x22 := h_x22 ▸ (Below.refl _ _).drew
              have HR_x22 := Lib.hid (HR_x12.out.below hbd (Nat.le_refl _))
              have HB_x22 : Hid (Below w.heap.size w x22) := HB_x12.out.trans (hbd.mono HB_x12.out.size)
              have HS_x22 : Hid (Below x22.heap.size x22 x22) := Below.refl _ _
              clear hbd
              obtain ⟨⟨m0, m1, m2, m3, m4⟩, hbl⟩ := HR_x22.out.five
              refine wp_region_held_drew (S := fun z => Below x22.heap.size x22 z) (by kernel_rfl) (by show Below _ _ _; rw [h_x22]; exact Below.refl _ _) (fun hHeld => ?_)
              rw [h_x22]
              clear h_x22
              refine wpAnyH_take (i := 0) (oi := ⟨some 31, _, _, _, _, _⟩) (v := ?_) rfl (by kernel_rfl) (by kernel_rfl) (by kernel_rfl) (fun _ _ _ h => h) (Or.inl ⟨by rfl, ?_⟩) (by assumption) ?_
              rotate_left
              · intro w hSw
                (try dsimp only at hSw)
                go_simp
                all_goals (with_reducible rfl)
              try simp only [Act.put, List.setIfInBounds_toArray, List.set_cons_zero, List.set_cons_succ]
              refine wpAnyH_ready (rs := [1]) (by kernel_rfl) (by simp) (AllReadyH.cons (o := ⟨some 32, _, _, _, _, _⟩) rfl (fun K hK => ?_) AllReadyH.nil)
              go_simp
              obtain ⟨x23, h_x23⟩ : ∃ z, x22.alloc (.cells #[.int .i64 2, .int .i64 4] 3) = z := ⟨_, rfl⟩
              obtain ⟨hK_x23, hbK_x23⟩ := lit_ints x22 [2, 4] rfl h_x23
              have HR_x23 := Lib.hid (HR_x22.out.below (hbK_x23) (Nat.le_refl _))
              have HB_x23 : Hid (Below w.heap.size w x23) := HB_x22.out.trans ((hbK_x23 : Below x22.heap.size x22 x23).mono HB_x22.out.size)
              have HS_x23 : Hid (Below x22.heap.size x22 x23) := HS_x22.out.trans ((hbK_x23 : Below x22.heap.size x22 x23).mono HS_x22.out.size)
              rw [h_x23]
              have HK_x23 := Lib.hid hK_x23
              clear hK_x23 hbK_x23 h_x23
              refine hK.out _ _ (HS_x23.out) (fun hHeld => ?_)
              clear hK K
              try simp only [Act.put, List.setIfInBounds_toArray, List.set_cons_zero, List.set_cons_succ]
              refine wpAnyH_ready (rs := [2]) (by kernel_rfl) (by simp) (AllReadyH.cons (o := ⟨some 33, _, _, _, _, _⟩) rfl (fun K hK => ?_) AllReadyH.nil)
              go_simp
              refine (many_is HR_x23.out hn [2, 4] (by decide) HK_x23.out E_24.out).mono ?_
              rintro e w' ⟨rfl, rfl⟩
              refine hK.out _ _ (HS_x23.out) (fun hHeld => ?_)
              clear hK K
              try simp only [Act.put, List.setIfInBounds_toArray, List.set_cons_zero, List.set_cons_succ]
              refine wpAnyH_take (i := 3) (oi := ⟨some 34, _, _, _, _, _⟩) (v := ?_) rfl (by kernel_rfl) (by kernel_rfl) (by kernel_rfl) (fun _ _ _ h => h) (Or.inl ⟨by rfl, ?_⟩) (by assumption) ?_
              rotate_left
              · intro w hSw
                (try dsimp only at hSw)
                go_simp
                all_goals (with_reducible rfl)
              try simp only [Act.put, List.setIfInBounds_toArray, List.set_cons_zero, List.set_cons_succ]
              refine wpAnyH_take (i := 4) (oi := ⟨some 35, _, _, _, _, _⟩) (v := ?_) rfl (by kernel_rfl) (by kernel_rfl) (by kernel_rfl) (fun _ _ _ h => h) (Or.inl ⟨by rfl, ?_⟩) (by assumption) ?_
              rotate_left
              · intro w hSw
                (try dsimp only at hSw)
                go_simp
                all_goals (with_reducible rfl)
              try simp only [Act.put, List.setIfInBounds_toArray, List.set_cons_zero, List.set_cons_succ]
              refine wpAnyH_take (i := 5) (oi := ⟨some 36, _, _, _, _, _⟩) (v := ?_) rfl (by kernel_rfl) (by kernel_rfl) (by kernel_rfl) (fun _ _ _ h => h) (Or.inl ⟨by rfl, ?_⟩) (by assumption) ?_
              rotate_left
              · intro w hSw
                (try dsimp only at hSw)
                go_simp
                all_goals (with_reducible rfl)
              try simp only [Act.put, List.setIfInBounds_toArray, List.set_cons_zero, List.set_cons_succ]
              refine wpAnyH_take (i := 8) (oi := ⟨some 39, _, _, _, _, _⟩) (v := ?_) rfl (by kernel_rfl) (by kernel_rfl) (by kernel_rfl) (fun _ _ _ h => h) (Or.inl ⟨by rfl, ?_⟩) (by assumption) ?_
              rotate_left
              · intro w hSw
                (try dsimp only at hSw)
                go_simp
                all_goals (with_reducible rfl)
              try simp only [Act.put, List.setIfInBounds_toArray, List.set_cons_zero, List.set_cons_succ]
              refine wpAnyH_take (i := 9) (oi := ⟨some 40, _, _, _, _, _⟩) (v := ?_) rfl (by kernel_rfl) (by kernel_rfl) (by kernel_rfl) (fun _ _ _ h => h) (Or.inl ⟨by rfl, ?_⟩) (by assumption) ?_
              rotate_left
              · intro w hSw
                have kk := (hSw.cell (p := ⟨b, 2, none⟩) hbl).trans m2
                clear hSw
                go_simp
                all_goals (with_reducible rfl)
              try simp only [Act.put, List.setIfInBounds_toArray, List.set_cons_zero, List.set_cons_succ]
              refine wpAnyH_ready (rs := [6]) (by kernel_rfl) (by simp) (AllReadyH.cons (o := ⟨some 37, _, _, _, _, _⟩) rfl (fun K hK => ?_) AllReadyH.nil)
              go_simp
              obtain ⟨x24, h_x24⟩ : ∃ z, x23.alloc (.cells #[.int .i64 1] 3) = z := ⟨_, rfl⟩
              obtain ⟨hK_x24, hbK_x24⟩ := lit_ints x23 [1] rfl h_x24
              have HR_x24 := Lib.hid (HR_x23.out.below (hbK_x24) (Nat.le_refl _))
              have HB_x24 : Hid (Below w.heap.size w x24) := HB_x23.out.trans ((hbK_x24 : Below x23.heap.size x23 x24).mono HB_x23.out.size)
              have HS_x24 : Hid (Below x22.heap.size x22 x24) := HS_x23.out.trans ((hbK_x24 : Below x23.heap.size x23 x24).mono HS_x23.out.size)
              rw [h_x24]
              have HK_x24 := Lib.hid hK_x24
              clear hK_x24 hbK_x24 h_x24
              refine hK.out _ _ (HS_x24.out) (fun hHeld => ?_)
              clear hK K
              try simp only [Act.put, List.setIfInBounds_toArray, List.set_cons_zero, List.set_cons_succ]
              refine wpAnyH_ready (rs := [7]) (by kernel_rfl) (by simp) (AllReadyH.cons (o := ⟨some 38, _, _, _, _, _⟩) rfl (fun K hK => ?_) AllReadyH.nil)
              go_simp
              refine (many_is HR_x24.out hn [1] (by decide) HK_x24.out E_1.out).mono ?_
              rintro e w' ⟨rfl, rfl⟩
              refine hK.out _ _ (HS_x24.out) (fun hHeld => ?_)
              clear hK K
              try simp only [Act.put, List.setIfInBounds_toArray, List.set_cons_zero, List.set_cons_succ]
              refine wpAnyH_take (i := 10) (oi := ⟨some 41, _, _, _, _, _⟩) (v := ?_) rfl (by kernel_rfl) (by kernel_rfl) (by kernel_rfl) (fun _ _ _ h => h) (Or.inl ⟨by rfl, ?_⟩) (by assumption) ?_
              rotate_left
              · intro w hSw
                (try dsimp only at hSw)
                go_simp
                all_goals (with_reducible rfl)
              try simp only [Act.put, List.setIfInBounds_toArray, List.set_cons_zero, List.set_cons_succ]
              refine wpAnyH_take (i := 11) (oi := ⟨some 42, _, _, _, _, _⟩) (v := ?_) rfl (by kernel_rfl) (by kernel_rfl) (by kernel_rfl) (fun _ _ _ h => h) (Or.inl ⟨by rfl, ?_⟩) (by assumption) ?_
              rotate_left
              · intro w hSw
                (try dsimp only at hSw)
                go_simp
                all_goals (with_reducible rfl)
              try simp only [Act.put, List.setIfInBounds_toArray, List.set_cons_zero, List.set_cons_succ]
              refine wpAnyH_take (i := 12) (oi := ⟨some 43, _, _, _, _, _⟩) (v := ?_) rfl (by kernel_rfl) (by kernel_rfl) (by kernel_rfl) (fun _ _ _ h => h) (Or.inl ⟨by rfl, ?_⟩) (by assumption) ?_
              rotate_left
              · intro w hSw
                (try dsimp only at hSw)
                go_simp
                all_goals (with_reducible rfl)
              try simp only [Act.put, List.setIfInBounds_toArray, List.set_cons_zero, List.set_cons_succ]
              refine wpAnyH_take (i := 13) (oi := ⟨some 44, _, _, _, _, _⟩) (v := ?_) rfl (by kernel_rfl) (by kernel_rfl) (by kernel_rfl) (fun _ _ _ h => h) (Or.inl ⟨by rfl, ?_⟩) (by assumption) ?_
              rotate_left
              · intro w hSw
                (try dsimp only at hSw)
                go_simp
                all_goals (with_reducible rfl)
              try simp only [Act.put, List.setIfInBounds_toArray, List.set_cons_zero, List.set_cons_succ]
              refine wpAnyH_take (i := 16) (oi := ⟨some 47, _, _, _, _, _⟩) (v := ?_) rfl (by kernel_rfl) (by kernel_rfl) (by kernel_rfl) (fun _ _ _ h => h) (Or.inl ⟨by rfl, ?_⟩) (by assumption) ?_
              rotate_left
              · intro w hSw
                (try dsimp only at hSw)
                go_simp
                all_goals (with_reducible rfl)
              try simp only [Act.put, List.setIfInBounds_toArray, List.set_cons_zero, List.set_cons_succ]
              refine wpAnyH_take (i := 17) (oi := ⟨some 48, _, _, _, _, _⟩) (v := ?_) rfl (by kernel_rfl) (by kernel_rfl) (by kernel_rfl) (fun _ _ _ h => h) (Or.inl ⟨by rfl, ?_⟩) (by assumption) ?_
              rotate_left
              · intro w hSw
                (try dsimp only at hSw)
                go_simp
                all_goals (with_reducible rfl)
              try simp only [Act.put, List.setIfInBounds_toArray, List.set_cons_zero, List.set_cons_succ]
              refine wpAnyH_take (i := 18) (oi := ⟨some 49, _, _, _, _, _⟩) (v := ?_) rfl (by kernel_rfl) (by kernel_rfl) (by kernel_rfl) (fun _ _ _ h => h) (Or.inl ⟨by rfl, ?_⟩) (by assumption) ?_
              rotate_left
              · intro w hSw
                have kk := (hSw.cell (p := ⟨b, 2, none⟩) hbl).trans m2
                clear hSw
                go_simp
                all_goals (with_reducible rfl)
              try simp only [Act.put, List.setIfInBounds_toArray, List.set_cons_zero, List.set_cons_succ]
              refine wpAnyH_take (i := 19) (oi := ⟨some 50, _, _, _, _, _⟩) (v := ?_) rfl (by kernel_rfl) (by kernel_rfl) (by kernel_rfl) (fun _ _ _ h => h) (Or.inl ⟨by rfl, ?_⟩) (by assumption) ?_
              rotate_left
              · intro w hSw
                (try dsimp only at hSw)
                go_simp
                all_goals (with_reducible rfl)
              try simp only [Act.put, List.setIfInBounds_toArray, List.set_cons_zero, List.set_cons_succ]
              refine wpAnyH_ready (rs := [14]) (by kernel_rfl) (by simp) (AllReadyH.cons (o := ⟨some 45, _, _, _, _, _⟩) rfl (fun K hK => ?_) AllReadyH.nil)
              go_simp
              obtain ⟨x25, h_x25⟩ : ∃ z, x24.alloc (.cells #[.int .i64 3] 3) = z := ⟨_, rfl⟩
              obtain ⟨hK_x25, hbK_x25⟩ := lit_ints x24 [3] rfl h_x25
              have HR_x25 := Lib.hid (HR_x24.out.below (hbK_x25) (Nat.le_refl _))
              have HB_x25 : Hid (Below w.heap.size w x25) := HB_x24.out.trans ((hbK_x25 : Below x24.heap.size x24 x25).mono HB_x24.out.size)
              have HS_x25 : Hid (Below x22.heap.size x22 x25) := HS_x24.out.trans ((hbK_x25 : Below x24.heap.size x24 x25).mono HS_x24.out.size)
              rw [h_x25]
              have HK_x25 := Lib.hid hK_x25
              clear hK_x25 hbK_x25 h_x25
              refine hK.out _ _ (HS_x25.out) (fun hHeld => ?_)
              clear hK K
              try simp only [Act.put, List.setIfInBounds_toArray, List.set_cons_zero, List.set_cons_succ]
              refine wpAnyH_ready (rs := [15]) (by kernel_rfl) (by simp) (AllReadyH.cons (o := ⟨some 46, _, _, _, _, _⟩) rfl (fun K hK => ?_) AllReadyH.nil)
              go_simp
              refine (many_is HR_x25.out hn [3] (by decide) HK_x25.out E_3.out).mono ?_
              rintro e w' ⟨rfl, rfl⟩
              refine hK.out _ _ (HS_x25.out) (fun hHeld => ?_)
              clear hK K
              try simp only [Act.put, List.setIfInBounds_toArray, List.set_cons_zero, List.set_cons_succ]
              refine wpAnyH_take (i := 20) (oi := ⟨some 51, _, _, _, _, _⟩) (v := ?_) rfl (by kernel_rfl) (by kernel_rfl) (by kernel_rfl) (fun _ _ _ h => h) (Or.inl ⟨by rfl, ?_⟩) (by assumption) ?_
              rotate_left
              · intro w hSw
                (try dsimp only at hSw)
                go_simp
                all_goals (with_reducible rfl)
              try simp only [Act.put, List.setIfInBounds_toArray, List.set_cons_zero, List.set_cons_succ]
              refine wpAnyH_take (i := 21) (oi := ⟨some 52, _, _, _, _, _⟩) (v := ?_) rfl (by kernel_rfl) (by kernel_rfl) (by kernel_rfl) (fun _ _ _ h => h) (Or.inl ⟨by rfl, ?_⟩) (by assumption) ?_
              rotate_left
              · intro w hSw
                (try dsimp only at hSw)
                go_simp
                all_goals (with_reducible rfl)
              try simp only [Act.put, List.setIfInBounds_toArray, List.set_cons_zero, List.set_cons_succ]
              refine wpAnyH_take (i := 22) (oi := ⟨some 2, _, _, _, _, _⟩) (v := ?_) rfl (by kernel_rfl) (by kernel_rfl) (by kernel_rfl) (fun _ _ _ h => h) (Or.inl ⟨by rfl, ?_⟩) (by assumption) ?_
              rotate_left
              · intro w hSw
                (try dsimp only at hSw)
                go_simp
                all_goals (with_reducible rfl)
              try simp only [Act.put, List.setIfInBounds_toArray, List.set_cons_zero, List.set_cons_succ]
              refine wpAnyH_done (by kernel_rfl) ?_ _
              clear m0 m1 m2 m3 m4 hbl
              go_wp2
              go_ret
              exact told_mk rfl HB_x25.out
          · have t1 := decide_eq_false h1
            have hy := HY.out
            obtain rfl : q = false := by rw [← hq2]; exact decide_eq_false (by omega)
            clear hq2
            subst h0
            clear h1 h24 g2 g4 hy
            have f3 := HR_x12.out.five.1.2.2.2.1
            go_wp2
            clear f3
            obtain ⟨x15, h_x15⟩ : ∃ z, x12.drew = z := ⟨_, rfl⟩
            have hbd : Below x12.heap.size x12 x15 := h_x15 ▸ (Below.refl _ _).drew
            have HR_x15 := Lib.hid (HR_x12.out.below hbd (Nat.le_refl _))
            have HB_x15 : Hid (Below w.heap.size w x15) := HB_x12.out.trans (hbd.mono HB_x12.out.size)
            have HS_x15 : Hid (Below x15.heap.size x15 x15) := Below.refl _ _
            clear hbd
            obtain ⟨⟨m0, m1, m2, m3, m4⟩, hbl⟩ := HR_x15.out.five
            refine wp_region_held_drew (S := fun z => Below x15.heap.size x15 z) (by kernel_rfl) (by show Below _ _ _; rw [h_x15]; exact Below.refl _ _) (fun hHeld => ?_)
            rw [h_x15]
            clear h_x15
            refine wpAnyH_take (i := 0) (oi := ⟨some 31, _, _, _, _, _⟩) (v := ?_) rfl (by kernel_rfl) (by kernel_rfl) (by kernel_rfl) (fun _ _ _ h => h) (Or.inl ⟨by rfl, ?_⟩) (by assumption) ?_
            rotate_left
            · intro w hSw
              (try dsimp only at hSw)
              go_simp
              all_goals (with_reducible rfl)
            try simp only [Act.put, List.setIfInBounds_toArray, List.set_cons_zero, List.set_cons_succ]
            refine wpAnyH_ready (rs := [1]) (by kernel_rfl) (by simp) (AllReadyH.cons (o := ⟨some 32, _, _, _, _, _⟩) rfl (fun K hK => ?_) AllReadyH.nil)
            go_simp
            obtain ⟨x16, h_x16⟩ : ∃ z, x15.alloc (.cells #[.int .i64 2, .int .i64 4] 3) = z := ⟨_, rfl⟩
            obtain ⟨hK_x16, hbK_x16⟩ := lit_ints x15 [2, 4] rfl h_x16
            have HR_x16 := Lib.hid (HR_x15.out.below (hbK_x16) (Nat.le_refl _))
            have HB_x16 : Hid (Below w.heap.size w x16) := HB_x15.out.trans ((hbK_x16 : Below x15.heap.size x15 x16).mono HB_x15.out.size)
            have HS_x16 : Hid (Below x15.heap.size x15 x16) := HS_x15.out.trans ((hbK_x16 : Below x15.heap.size x15 x16).mono HS_x15.out.size)
            rw [h_x16]
            have HK_x16 := Lib.hid hK_x16
            clear hK_x16 hbK_x16 h_x16
            refine hK.out _ _ (HS_x16.out) (fun hHeld => ?_)
            clear hK K
            try simp only [Act.put, List.setIfInBounds_toArray, List.set_cons_zero, List.set_cons_succ]
            refine wpAnyH_ready (rs := [2]) (by kernel_rfl) (by simp) (AllReadyH.cons (o := ⟨some 33, _, _, _, _, _⟩) rfl (fun K hK => ?_) AllReadyH.nil)
            go_simp
            refine (many_is HR_x16.out hn [2, 4] (by decide) HK_x16.out E_24.out).mono ?_
            rintro e w' ⟨rfl, rfl⟩
            refine hK.out _ _ (HS_x16.out) (fun hHeld => ?_)
            clear hK K
            try simp only [Act.put, List.setIfInBounds_toArray, List.set_cons_zero, List.set_cons_succ]
            refine wpAnyH_take (i := 3) (oi := ⟨some 34, _, _, _, _, _⟩) (v := ?_) rfl (by kernel_rfl) (by kernel_rfl) (by kernel_rfl) (fun _ _ _ h => h) (Or.inl ⟨by rfl, ?_⟩) (by assumption) ?_
            rotate_left
            · intro w hSw
              (try dsimp only at hSw)
              go_simp
              all_goals (with_reducible rfl)
            try simp only [Act.put, List.setIfInBounds_toArray, List.set_cons_zero, List.set_cons_succ]
            refine wpAnyH_take (i := 4) (oi := ⟨some 35, _, _, _, _, _⟩) (v := ?_) rfl (by kernel_rfl) (by kernel_rfl) (by kernel_rfl) (fun _ _ _ h => h) (Or.inl ⟨by rfl, ?_⟩) (by assumption) ?_
            rotate_left
            · intro w hSw
              (try dsimp only at hSw)
              go_simp
              all_goals (with_reducible rfl)
            try simp only [Act.put, List.setIfInBounds_toArray, List.set_cons_zero, List.set_cons_succ]
            refine wpAnyH_take (i := 5) (oi := ⟨some 36, _, _, _, _, _⟩) (v := ?_) rfl (by kernel_rfl) (by kernel_rfl) (by kernel_rfl) (fun _ _ _ h => h) (Or.inl ⟨by rfl, ?_⟩) (by assumption) ?_
            rotate_left
            · intro w hSw
              (try dsimp only at hSw)
              go_simp
              all_goals (with_reducible rfl)
            try simp only [Act.put, List.setIfInBounds_toArray, List.set_cons_zero, List.set_cons_succ]
            refine wpAnyH_take (i := 8) (oi := ⟨some 39, _, _, _, _, _⟩) (v := ?_) rfl (by kernel_rfl) (by kernel_rfl) (by kernel_rfl) (fun _ _ _ h => h) (Or.inl ⟨by rfl, ?_⟩) (by assumption) ?_
            rotate_left
            · intro w hSw
              (try dsimp only at hSw)
              go_simp
              all_goals (with_reducible rfl)
            try simp only [Act.put, List.setIfInBounds_toArray, List.set_cons_zero, List.set_cons_succ]
            refine wpAnyH_take (i := 9) (oi := ⟨some 40, _, _, _, _, _⟩) (v := ?_) rfl (by kernel_rfl) (by kernel_rfl) (by kernel_rfl) (fun _ _ _ h => h) (Or.inl ⟨by rfl, ?_⟩) (by assumption) ?_
            rotate_left
            · intro w hSw
              have kk := (hSw.cell (p := ⟨b, 2, none⟩) hbl).trans m2
              clear hSw
              go_simp
              all_goals (with_reducible rfl)
            try simp only [Act.put, List.setIfInBounds_toArray, List.set_cons_zero, List.set_cons_succ]
            refine wpAnyH_ready (rs := [6]) (by kernel_rfl) (by simp) (AllReadyH.cons (o := ⟨some 37, _, _, _, _, _⟩) rfl (fun K hK => ?_) AllReadyH.nil)
            go_simp
            obtain ⟨x17, h_x17⟩ : ∃ z, x16.alloc (.cells #[.int .i64 1] 3) = z := ⟨_, rfl⟩
            obtain ⟨hK_x17, hbK_x17⟩ := lit_ints x16 [1] rfl h_x17
            have HR_x17 := Lib.hid (HR_x16.out.below (hbK_x17) (Nat.le_refl _))
            have HB_x17 : Hid (Below w.heap.size w x17) := HB_x16.out.trans ((hbK_x17 : Below x16.heap.size x16 x17).mono HB_x16.out.size)
            have HS_x17 : Hid (Below x15.heap.size x15 x17) := HS_x16.out.trans ((hbK_x17 : Below x16.heap.size x16 x17).mono HS_x16.out.size)
            rw [h_x17]
            have HK_x17 := Lib.hid hK_x17
            clear hK_x17 hbK_x17 h_x17
            refine hK.out _ _ (HS_x17.out) (fun hHeld => ?_)
            clear hK K
            try simp only [Act.put, List.setIfInBounds_toArray, List.set_cons_zero, List.set_cons_succ]
            refine wpAnyH_ready (rs := [7]) (by kernel_rfl) (by simp) (AllReadyH.cons (o := ⟨some 38, _, _, _, _, _⟩) rfl (fun K hK => ?_) AllReadyH.nil)
            go_simp
            refine (many_is HR_x17.out hn [1] (by decide) HK_x17.out E_1.out).mono ?_
            rintro e w' ⟨rfl, rfl⟩
            refine hK.out _ _ (HS_x17.out) (fun hHeld => ?_)
            clear hK K
            try simp only [Act.put, List.setIfInBounds_toArray, List.set_cons_zero, List.set_cons_succ]
            refine wpAnyH_take (i := 10) (oi := ⟨some 41, _, _, _, _, _⟩) (v := ?_) rfl (by kernel_rfl) (by kernel_rfl) (by kernel_rfl) (fun _ _ _ h => h) (Or.inl ⟨by rfl, ?_⟩) (by assumption) ?_
            rotate_left
            · intro w hSw
              (try dsimp only at hSw)
              go_simp
              all_goals (with_reducible rfl)
            try simp only [Act.put, List.setIfInBounds_toArray, List.set_cons_zero, List.set_cons_succ]
            refine wpAnyH_take (i := 11) (oi := ⟨some 42, _, _, _, _, _⟩) (v := ?_) rfl (by kernel_rfl) (by kernel_rfl) (by kernel_rfl) (fun _ _ _ h => h) (Or.inl ⟨by rfl, ?_⟩) (by assumption) ?_
            rotate_left
            · intro w hSw
              (try dsimp only at hSw)
              go_simp
              all_goals (with_reducible rfl)
            try simp only [Act.put, List.setIfInBounds_toArray, List.set_cons_zero, List.set_cons_succ]
            refine wpAnyH_take (i := 12) (oi := ⟨some 43, _, _, _, _, _⟩) (v := ?_) rfl (by kernel_rfl) (by kernel_rfl) (by kernel_rfl) (fun _ _ _ h => h) (Or.inl ⟨by rfl, ?_⟩) (by assumption) ?_
            rotate_left
            · intro w hSw
              (try dsimp only at hSw)
              go_simp
              all_goals (with_reducible rfl)
            try simp only [Act.put, List.setIfInBounds_toArray, List.set_cons_zero, List.set_cons_succ]
            refine wpAnyH_take (i := 13) (oi := ⟨some 44, _, _, _, _, _⟩) (v := undef) rfl (by kernel_rfl) (by kernel_rfl) (by kernel_rfl) (fun _ _ _ h => h) (Or.inr ⟨by rfl, rfl⟩) (by assumption) ?_
            try simp only [Act.put, List.setIfInBounds_toArray, List.set_cons_zero, List.set_cons_succ]
            refine wpAnyH_take (i := 14) (oi := ⟨some 45, _, _, _, _, _⟩) (v := undef) rfl (by kernel_rfl) (by kernel_rfl) (by kernel_rfl) (fun _ _ _ h => h) (Or.inr ⟨by rfl, rfl⟩) (by assumption) ?_
            try simp only [Act.put, List.setIfInBounds_toArray, List.set_cons_zero, List.set_cons_succ]
            refine wpAnyH_take (i := 15) (oi := ⟨some 46, _, _, _, _, _⟩) (v := undef) rfl (by kernel_rfl) (by kernel_rfl) (by kernel_rfl) (fun _ _ _ h => h) (Or.inr ⟨by rfl, rfl⟩) (by assumption) ?_
            try simp only [Act.put, List.setIfInBounds_toArray, List.set_cons_zero, List.set_cons_succ]
            refine wpAnyH_take (i := 16) (oi := ⟨some 47, _, _, _, _, _⟩) (v := undef) rfl (by kernel_rfl) (by kernel_rfl) (by kernel_rfl) (fun _ _ _ h => h) (Or.inr ⟨by rfl, rfl⟩) (by assumption) ?_
            try simp only [Act.put, List.setIfInBounds_toArray, List.set_cons_zero, List.set_cons_succ]
            refine wpAnyH_take (i := 17) (oi := ⟨some 48, _, _, _, _, _⟩) (v := undef) rfl (by kernel_rfl) (by kernel_rfl) (by kernel_rfl) (fun _ _ _ h => h) (Or.inr ⟨by rfl, rfl⟩) (by assumption) ?_
            try simp only [Act.put, List.setIfInBounds_toArray, List.set_cons_zero, List.set_cons_succ]
            refine wpAnyH_take (i := 18) (oi := ⟨some 49, _, _, _, _, _⟩) (v := undef) rfl (by kernel_rfl) (by kernel_rfl) (by kernel_rfl) (fun _ _ _ h => h) (Or.inr ⟨by rfl, rfl⟩) (by assumption) ?_
            try simp only [Act.put, List.setIfInBounds_toArray, List.set_cons_zero, List.set_cons_succ]
            refine wpAnyH_take (i := 19) (oi := ⟨some 50, _, _, _, _, _⟩) (v := undef) rfl (by kernel_rfl) (by kernel_rfl) (by kernel_rfl) (fun _ _ _ h => h) (Or.inr ⟨by rfl, rfl⟩) (by assumption) ?_
            try simp only [Act.put, List.setIfInBounds_toArray, List.set_cons_zero, List.set_cons_succ]
            refine wpAnyH_take (i := 20) (oi := ⟨some 51, _, _, _, _, _⟩) (v := undef) rfl (by kernel_rfl) (by kernel_rfl) (by kernel_rfl) (fun _ _ _ h => h) (Or.inr ⟨by rfl, rfl⟩) (by assumption) ?_
            try simp only [Act.put, List.setIfInBounds_toArray, List.set_cons_zero, List.set_cons_succ]
            refine wpAnyH_take (i := 21) (oi := ⟨some 52, _, _, _, _, _⟩) (v := ?_) rfl (by kernel_rfl) (by kernel_rfl) (by kernel_rfl) (fun _ _ _ h => h) (Or.inl ⟨by rfl, ?_⟩) (by assumption) ?_
            rotate_left
            · intro w hSw
              (try dsimp only at hSw)
              go_simp
              all_goals (with_reducible rfl)
            try simp only [Act.put, List.setIfInBounds_toArray, List.set_cons_zero, List.set_cons_succ]
            refine wpAnyH_take (i := 22) (oi := ⟨some 2, _, _, _, _, _⟩) (v := ?_) rfl (by kernel_rfl) (by kernel_rfl) (by kernel_rfl) (fun _ _ _ h => h) (Or.inl ⟨by rfl, ?_⟩) (by assumption) ?_
            rotate_left
            · intro w hSw
              (try dsimp only at hSw)
              go_simp
              all_goals (with_reducible rfl)
            try simp only [Act.put, List.setIfInBounds_toArray, List.set_cons_zero, List.set_cons_succ]
            refine wpAnyH_done (by kernel_rfl) ?_ _
            clear m0 m1 m2 m3 m4 hbl
            go_wp2
            go_ret
            exact told_mk rfl HB_x17.out
        · have t0 : (c24 == 0) = false := by simpa using h0
          have hy := HY.out
          obtain rfl : q = false := by rw [← hq2]; exact decide_eq_false (by omega)
          clear hq2
          clear h0 h24 g2 g4 hy
          have f3 := HR_x12.out.five.1.2.2.2.1
          go_wp2
          clear f3
          obtain ⟨x13, h_x13⟩ : ∃ z, x12.drew = z := ⟨_, rfl⟩
          have hbd : Below x12.heap.size x12 x13 := h_x13 ▸ (Below.refl _ _).drew
          have HR_x13 := Lib.hid (HR_x12.out.below hbd (Nat.le_refl _))
          have HB_x13 : Hid (Below w.heap.size w x13) := HB_x12.out.trans (hbd.mono HB_x12.out.size)
          have HS_x13 : Hid (Below x13.heap.size x13 x13) := Below.refl _ _
          clear hbd
          obtain ⟨⟨m0, m1, m2, m3, m4⟩, hbl⟩ := HR_x13.out.five
          refine wp_region_held_drew (S := fun z => Below x13.heap.size x13 z) (by kernel_rfl) (by show Below _ _ _; rw [h_x13]; exact Below.refl _ _) (fun hHeld => ?_)
          rw [h_x13]
          clear h_x13
          refine wpAnyH_take (i := 0) (oi := ⟨some 31, _, _, _, _, _⟩) (v := ?_) rfl (by kernel_rfl) (by kernel_rfl) (by kernel_rfl) (fun _ _ _ h => h) (Or.inl ⟨by rfl, ?_⟩) (by assumption) ?_
          rotate_left
          · intro w hSw
            (try dsimp only at hSw)
            go_simp
            all_goals (with_reducible rfl)
          try simp only [Act.put, List.setIfInBounds_toArray, List.set_cons_zero, List.set_cons_succ]
          refine wpAnyH_ready (rs := [1]) (by kernel_rfl) (by simp) (AllReadyH.cons (o := ⟨some 32, _, _, _, _, _⟩) rfl (fun K hK => ?_) AllReadyH.nil)
          go_simp
          obtain ⟨x14, h_x14⟩ : ∃ z, x13.alloc (.cells #[.int .i64 2, .int .i64 4] 3) = z := ⟨_, rfl⟩
          obtain ⟨hK_x14, hbK_x14⟩ := lit_ints x13 [2, 4] rfl h_x14
          have HR_x14 := Lib.hid (HR_x13.out.below (hbK_x14) (Nat.le_refl _))
          have HB_x14 : Hid (Below w.heap.size w x14) := HB_x13.out.trans ((hbK_x14 : Below x13.heap.size x13 x14).mono HB_x13.out.size)
          have HS_x14 : Hid (Below x13.heap.size x13 x14) := HS_x13.out.trans ((hbK_x14 : Below x13.heap.size x13 x14).mono HS_x13.out.size)
          rw [h_x14]
          have HK_x14 := Lib.hid hK_x14
          clear hK_x14 hbK_x14 h_x14
          refine hK.out _ _ (HS_x14.out) (fun hHeld => ?_)
          clear hK K
          try simp only [Act.put, List.setIfInBounds_toArray, List.set_cons_zero, List.set_cons_succ]
          refine wpAnyH_ready (rs := [2]) (by kernel_rfl) (by simp) (AllReadyH.cons (o := ⟨some 33, _, _, _, _, _⟩) rfl (fun K hK => ?_) AllReadyH.nil)
          go_simp
          refine (many_is HR_x14.out hn [2, 4] (by decide) HK_x14.out E_24.out).mono ?_
          rintro e w' ⟨rfl, rfl⟩
          refine hK.out _ _ (HS_x14.out) (fun hHeld => ?_)
          clear hK K
          try simp only [Act.put, List.setIfInBounds_toArray, List.set_cons_zero, List.set_cons_succ]
          refine wpAnyH_take (i := 3) (oi := ⟨some 34, _, _, _, _, _⟩) (v := ?_) rfl (by kernel_rfl) (by kernel_rfl) (by kernel_rfl) (fun _ _ _ h => h) (Or.inl ⟨by rfl, ?_⟩) (by assumption) ?_
          rotate_left
          · intro w hSw
            (try dsimp only at hSw)
            go_simp
            all_goals (with_reducible rfl)
          try simp only [Act.put, List.setIfInBounds_toArray, List.set_cons_zero, List.set_cons_succ]
          refine wpAnyH_take (i := 4) (oi := ⟨some 35, _, _, _, _, _⟩) (v := ?_) rfl (by kernel_rfl) (by kernel_rfl) (by kernel_rfl) (fun _ _ _ h => h) (Or.inl ⟨by rfl, ?_⟩) (by assumption) ?_
          rotate_left
          · intro w hSw
            (try dsimp only at hSw)
            go_simp
            all_goals (with_reducible rfl)
          try simp only [Act.put, List.setIfInBounds_toArray, List.set_cons_zero, List.set_cons_succ]
          refine wpAnyH_take (i := 5) (oi := ⟨some 36, _, _, _, _, _⟩) (v := undef) rfl (by kernel_rfl) (by kernel_rfl) (by kernel_rfl) (fun _ _ _ h => h) (Or.inr ⟨by rfl, rfl⟩) (by assumption) ?_
          try simp only [Act.put, List.setIfInBounds_toArray, List.set_cons_zero, List.set_cons_succ]
          refine wpAnyH_take (i := 6) (oi := ⟨some 37, _, _, _, _, _⟩) (v := undef) rfl (by kernel_rfl) (by kernel_rfl) (by kernel_rfl) (fun _ _ _ h => h) (Or.inr ⟨by rfl, rfl⟩) (by assumption) ?_
          try simp only [Act.put, List.setIfInBounds_toArray, List.set_cons_zero, List.set_cons_succ]
          refine wpAnyH_take (i := 7) (oi := ⟨some 38, _, _, _, _, _⟩) (v := undef) rfl (by kernel_rfl) (by kernel_rfl) (by kernel_rfl) (fun _ _ _ h => h) (Or.inr ⟨by rfl, rfl⟩) (by assumption) ?_
          try simp only [Act.put, List.setIfInBounds_toArray, List.set_cons_zero, List.set_cons_succ]
          refine wpAnyH_take (i := 8) (oi := ⟨some 39, _, _, _, _, _⟩) (v := undef) rfl (by kernel_rfl) (by kernel_rfl) (by kernel_rfl) (fun _ _ _ h => h) (Or.inr ⟨by rfl, rfl⟩) (by assumption) ?_
          try simp only [Act.put, List.setIfInBounds_toArray, List.set_cons_zero, List.set_cons_succ]
          refine wpAnyH_take (i := 9) (oi := ⟨some 40, _, _, _, _, _⟩) (v := undef) rfl (by kernel_rfl) (by kernel_rfl) (by kernel_rfl) (fun _ _ _ h => h) (Or.inr ⟨by rfl, rfl⟩) (by assumption) ?_
          try simp only [Act.put, List.setIfInBounds_toArray, List.set_cons_zero, List.set_cons_succ]
          refine wpAnyH_take (i := 10) (oi := ⟨some 41, _, _, _, _, _⟩) (v := undef) rfl (by kernel_rfl) (by kernel_rfl) (by kernel_rfl) (fun _ _ _ h => h) (Or.inr ⟨by rfl, rfl⟩) (by assumption) ?_
          try simp only [Act.put, List.setIfInBounds_toArray, List.set_cons_zero, List.set_cons_succ]
          refine wpAnyH_take (i := 11) (oi := ⟨some 42, _, _, _, _, _⟩) (v := ?_) rfl (by kernel_rfl) (by kernel_rfl) (by kernel_rfl) (fun _ _ _ h => h) (Or.inl ⟨by rfl, ?_⟩) (by assumption) ?_
          rotate_left
          · intro w hSw
            (try dsimp only at hSw)
            go_simp
            all_goals (with_reducible rfl)
          try simp only [Act.put, List.setIfInBounds_toArray, List.set_cons_zero, List.set_cons_succ]
          refine wpAnyH_take (i := 12) (oi := ⟨some 43, _, _, _, _, _⟩) (v := ?_) rfl (by kernel_rfl) (by kernel_rfl) (by kernel_rfl) (fun _ _ _ h => h) (Or.inl ⟨by rfl, ?_⟩) (by assumption) ?_
          rotate_left
          · intro w hSw
            (try dsimp only at hSw)
            go_simp
            all_goals (with_reducible rfl)
          try simp only [Act.put, List.setIfInBounds_toArray, List.set_cons_zero, List.set_cons_succ]
          refine wpAnyH_take (i := 13) (oi := ⟨some 44, _, _, _, _, _⟩) (v := undef) rfl (by kernel_rfl) (by kernel_rfl) (by kernel_rfl) (fun _ _ _ h => h) (Or.inr ⟨by rfl, rfl⟩) (by assumption) ?_
          try simp only [Act.put, List.setIfInBounds_toArray, List.set_cons_zero, List.set_cons_succ]
          refine wpAnyH_take (i := 14) (oi := ⟨some 45, _, _, _, _, _⟩) (v := undef) rfl (by kernel_rfl) (by kernel_rfl) (by kernel_rfl) (fun _ _ _ h => h) (Or.inr ⟨by rfl, rfl⟩) (by assumption) ?_
          try simp only [Act.put, List.setIfInBounds_toArray, List.set_cons_zero, List.set_cons_succ]
          refine wpAnyH_take (i := 15) (oi := ⟨some 46, _, _, _, _, _⟩) (v := undef) rfl (by kernel_rfl) (by kernel_rfl) (by kernel_rfl) (fun _ _ _ h => h) (Or.inr ⟨by rfl, rfl⟩) (by assumption) ?_
          try simp only [Act.put, List.setIfInBounds_toArray, List.set_cons_zero, List.set_cons_succ]
          refine wpAnyH_take (i := 16) (oi := ⟨some 47, _, _, _, _, _⟩) (v := undef) rfl (by kernel_rfl) (by kernel_rfl) (by kernel_rfl) (fun _ _ _ h => h) (Or.inr ⟨by rfl, rfl⟩) (by assumption) ?_
          try simp only [Act.put, List.setIfInBounds_toArray, List.set_cons_zero, List.set_cons_succ]
          refine wpAnyH_take (i := 17) (oi := ⟨some 48, _, _, _, _, _⟩) (v := undef) rfl (by kernel_rfl) (by kernel_rfl) (by kernel_rfl) (fun _ _ _ h => h) (Or.inr ⟨by rfl, rfl⟩) (by assumption) ?_
          try simp only [Act.put, List.setIfInBounds_toArray, List.set_cons_zero, List.set_cons_succ]
          refine wpAnyH_take (i := 18) (oi := ⟨some 49, _, _, _, _, _⟩) (v := undef) rfl (by kernel_rfl) (by kernel_rfl) (by kernel_rfl) (fun _ _ _ h => h) (Or.inr ⟨by rfl, rfl⟩) (by assumption) ?_
          try simp only [Act.put, List.setIfInBounds_toArray, List.set_cons_zero, List.set_cons_succ]
          refine wpAnyH_take (i := 19) (oi := ⟨some 50, _, _, _, _, _⟩) (v := undef) rfl (by kernel_rfl) (by kernel_rfl) (by kernel_rfl) (fun _ _ _ h => h) (Or.inr ⟨by rfl, rfl⟩) (by assumption) ?_
          try simp only [Act.put, List.setIfInBounds_toArray, List.set_cons_zero, List.set_cons_succ]
          refine wpAnyH_take (i := 20) (oi := ⟨some 51, _, _, _, _, _⟩) (v := undef) rfl (by kernel_rfl) (by kernel_rfl) (by kernel_rfl) (fun _ _ _ h => h) (Or.inr ⟨by rfl, rfl⟩) (by assumption) ?_
          try simp only [Act.put, List.setIfInBounds_toArray, List.set_cons_zero, List.set_cons_succ]
          refine wpAnyH_take (i := 21) (oi := ⟨some 52, _, _, _, _, _⟩) (v := ?_) rfl (by kernel_rfl) (by kernel_rfl) (by kernel_rfl) (fun _ _ _ h => h) (Or.inl ⟨by rfl, ?_⟩) (by assumption) ?_
          rotate_left
          · intro w hSw
            (try dsimp only at hSw)
            go_simp
            all_goals (with_reducible rfl)
          try simp only [Act.put, List.setIfInBounds_toArray, List.set_cons_zero, List.set_cons_succ]
          refine wpAnyH_take (i := 22) (oi := ⟨some 2, _, _, _, _, _⟩) (v := ?_) rfl (by kernel_rfl) (by kernel_rfl) (by kernel_rfl) (fun _ _ _ h => h) (Or.inl ⟨by rfl, ?_⟩) (by assumption) ?_
          rotate_left
          · intro w hSw
            (try dsimp only at hSw)
            go_simp
            all_goals (with_reducible rfl)
          try simp only [Act.put, List.setIfInBounds_toArray, List.set_cons_zero, List.set_cons_succ]
          refine wpAnyH_done (by kernel_rfl) ?_ _
          clear m0 m1 m2 m3 m4 hbl
          go_wp2
          go_ret
          exact told_mk rfl HB_x14.out
      · by_cases hp2 : ph = 2
        · subst hp2
          by_cases h0 : c24 = 0
          · by_cases h1 : need ≤ c1
            · have hy := HY.out
              obtain rfl : q = true := by rw [← hq2]; exact decide_eq_true (by omega)
              clear hq2
              subst h0
              have t1 := decide_eq_true h1
              clear h1 h24 g2 g4 hy
              have f3 := HR_x12.out.five.1.2.2.2.1
              go_wp2
              clear f3
              obtain ⟨x26, h_x26⟩ : ∃ z, x12.drew = z := ⟨_, rfl⟩
              have hbd : Below x12.heap.size x12 x26 := h_x26 ▸ (Below.refl _ _).drew
              have HR_x26 := Lib.hid (HR_x12.out.below hbd (Nat.le_refl _))
              have HB_x26 : Hid (Below w.heap.size w x26) := HB_x12.out.trans (hbd.mono HB_x12.out.size)
              have HS_x26 : Hid (Below x26.heap.size x26 x26) := Below.refl _ _
              clear hbd
              obtain ⟨⟨m0, m1, m2, m3, m4⟩, hbl⟩ := HR_x26.out.five
              refine wp_region_held_drew (S := fun z => Below x26.heap.size x26 z) (by kernel_rfl) (by show Below _ _ _; rw [h_x26]; exact Below.refl _ _) (fun hHeld => ?_)
              rw [h_x26]
              clear h_x26
              refine wpAnyH_take (i := 0) (oi := ⟨some 55, _, _, _, _, _⟩) (v := ?_) rfl (by kernel_rfl) (by kernel_rfl) (by kernel_rfl) (fun _ _ _ h => h) (Or.inl ⟨by rfl, ?_⟩) (by assumption) ?_
              rotate_left
              · intro w hSw
                (try dsimp only at hSw)
                go_simp
                all_goals (with_reducible rfl)
              try simp only [Act.put, List.setIfInBounds_toArray, List.set_cons_zero, List.set_cons_succ]
              refine wpAnyH_ready (rs := [1]) (by kernel_rfl) (by simp) (AllReadyH.cons (o := ⟨some 56, _, _, _, _, _⟩) rfl (fun K hK => ?_) AllReadyH.nil)
              go_simp
              obtain ⟨x27, h_x27⟩ : ∃ z, x26.alloc (.cells #[.int .i64 2, .int .i64 4] 3) = z := ⟨_, rfl⟩
              obtain ⟨hK_x27, hbK_x27⟩ := lit_ints x26 [2, 4] rfl h_x27
              have HR_x27 := Lib.hid (HR_x26.out.below (hbK_x27) (Nat.le_refl _))
              have HB_x27 : Hid (Below w.heap.size w x27) := HB_x26.out.trans ((hbK_x27 : Below x26.heap.size x26 x27).mono HB_x26.out.size)
              have HS_x27 : Hid (Below x26.heap.size x26 x27) := HS_x26.out.trans ((hbK_x27 : Below x26.heap.size x26 x27).mono HS_x26.out.size)
              rw [h_x27]
              have HK_x27 := Lib.hid hK_x27
              clear hK_x27 hbK_x27 h_x27
              refine hK.out _ _ (HS_x27.out) (fun hHeld => ?_)
              clear hK K
              try simp only [Act.put, List.setIfInBounds_toArray, List.set_cons_zero, List.set_cons_succ]
              refine wpAnyH_ready (rs := [2]) (by kernel_rfl) (by simp) (AllReadyH.cons (o := ⟨some 57, _, _, _, _, _⟩) rfl (fun K hK => ?_) AllReadyH.nil)
              go_simp
              refine (many_is HR_x27.out hn [2, 4] (by decide) HK_x27.out E_24.out).mono ?_
              rintro e w' ⟨rfl, rfl⟩
              refine hK.out _ _ (HS_x27.out) (fun hHeld => ?_)
              clear hK K
              try simp only [Act.put, List.setIfInBounds_toArray, List.set_cons_zero, List.set_cons_succ]
              refine wpAnyH_take (i := 3) (oi := ⟨some 58, _, _, _, _, _⟩) (v := ?_) rfl (by kernel_rfl) (by kernel_rfl) (by kernel_rfl) (fun _ _ _ h => h) (Or.inl ⟨by rfl, ?_⟩) (by assumption) ?_
              rotate_left
              · intro w hSw
                (try dsimp only at hSw)
                go_simp
                all_goals (with_reducible rfl)
              try simp only [Act.put, List.setIfInBounds_toArray, List.set_cons_zero, List.set_cons_succ]
              refine wpAnyH_take (i := 4) (oi := ⟨some 59, _, _, _, _, _⟩) (v := ?_) rfl (by kernel_rfl) (by kernel_rfl) (by kernel_rfl) (fun _ _ _ h => h) (Or.inl ⟨by rfl, ?_⟩) (by assumption) ?_
              rotate_left
              · intro w hSw
                (try dsimp only at hSw)
                go_simp
                all_goals (with_reducible rfl)
              try simp only [Act.put, List.setIfInBounds_toArray, List.set_cons_zero, List.set_cons_succ]
              refine wpAnyH_take (i := 5) (oi := ⟨some 60, _, _, _, _, _⟩) (v := ?_) rfl (by kernel_rfl) (by kernel_rfl) (by kernel_rfl) (fun _ _ _ h => h) (Or.inl ⟨by rfl, ?_⟩) (by assumption) ?_
              rotate_left
              · intro w hSw
                (try dsimp only at hSw)
                go_simp
                all_goals (with_reducible rfl)
              try simp only [Act.put, List.setIfInBounds_toArray, List.set_cons_zero, List.set_cons_succ]
              refine wpAnyH_take (i := 8) (oi := ⟨some 63, _, _, _, _, _⟩) (v := ?_) rfl (by kernel_rfl) (by kernel_rfl) (by kernel_rfl) (fun _ _ _ h => h) (Or.inl ⟨by rfl, ?_⟩) (by assumption) ?_
              rotate_left
              · intro w hSw
                (try dsimp only at hSw)
                go_simp
                all_goals (with_reducible rfl)
              try simp only [Act.put, List.setIfInBounds_toArray, List.set_cons_zero, List.set_cons_succ]
              refine wpAnyH_take (i := 9) (oi := ⟨some 64, _, _, _, _, _⟩) (v := ?_) rfl (by kernel_rfl) (by kernel_rfl) (by kernel_rfl) (fun _ _ _ h => h) (Or.inl ⟨by rfl, ?_⟩) (by assumption) ?_
              rotate_left
              · intro w hSw
                have kk := (hSw.cell (p := ⟨b, 2, none⟩) hbl).trans m2
                clear hSw
                go_simp
                all_goals (with_reducible rfl)
              try simp only [Act.put, List.setIfInBounds_toArray, List.set_cons_zero, List.set_cons_succ]
              refine wpAnyH_ready (rs := [6]) (by kernel_rfl) (by simp) (AllReadyH.cons (o := ⟨some 61, _, _, _, _, _⟩) rfl (fun K hK => ?_) AllReadyH.nil)
              go_simp
              obtain ⟨x28, h_x28⟩ : ∃ z, x27.alloc (.cells #[.int .i64 1] 3) = z := ⟨_, rfl⟩
              obtain ⟨hK_x28, hbK_x28⟩ := lit_ints x27 [1] rfl h_x28
              have HR_x28 := Lib.hid (HR_x27.out.below (hbK_x28) (Nat.le_refl _))
              have HB_x28 : Hid (Below w.heap.size w x28) := HB_x27.out.trans ((hbK_x28 : Below x27.heap.size x27 x28).mono HB_x27.out.size)
              have HS_x28 : Hid (Below x26.heap.size x26 x28) := HS_x27.out.trans ((hbK_x28 : Below x27.heap.size x27 x28).mono HS_x27.out.size)
              rw [h_x28]
              have HK_x28 := Lib.hid hK_x28
              clear hK_x28 hbK_x28 h_x28
              refine hK.out _ _ (HS_x28.out) (fun hHeld => ?_)
              clear hK K
              try simp only [Act.put, List.setIfInBounds_toArray, List.set_cons_zero, List.set_cons_succ]
              refine wpAnyH_ready (rs := [7]) (by kernel_rfl) (by simp) (AllReadyH.cons (o := ⟨some 62, _, _, _, _, _⟩) rfl (fun K hK => ?_) AllReadyH.nil)
              go_simp
              refine (many_is HR_x28.out hn [1] (by decide) HK_x28.out E_1.out).mono ?_
              rintro e w' ⟨rfl, rfl⟩
              refine hK.out _ _ (HS_x28.out) (fun hHeld => ?_)
              clear hK K
              try simp only [Act.put, List.setIfInBounds_toArray, List.set_cons_zero, List.set_cons_succ]
              refine wpAnyH_take (i := 10) (oi := ⟨some 65, _, _, _, _, _⟩) (v := ?_) rfl (by kernel_rfl) (by kernel_rfl) (by kernel_rfl) (fun _ _ _ h => h) (Or.inl ⟨by rfl, ?_⟩) (by assumption) ?_
              rotate_left
              · intro w hSw
                (try dsimp only at hSw)
                go_simp
                all_goals (with_reducible rfl)
              try simp only [Act.put, List.setIfInBounds_toArray, List.set_cons_zero, List.set_cons_succ]
              refine wpAnyH_take (i := 11) (oi := ⟨some 66, _, _, _, _, _⟩) (v := ?_) rfl (by kernel_rfl) (by kernel_rfl) (by kernel_rfl) (fun _ _ _ h => h) (Or.inl ⟨by rfl, ?_⟩) (by assumption) ?_
              rotate_left
              · intro w hSw
                (try dsimp only at hSw)
                go_simp
                all_goals (with_reducible rfl)
              try simp only [Act.put, List.setIfInBounds_toArray, List.set_cons_zero, List.set_cons_succ]
              refine wpAnyH_take (i := 12) (oi := ⟨some 2, _, _, _, _, _⟩) (v := ?_) rfl (by kernel_rfl) (by kernel_rfl) (by kernel_rfl) (fun _ _ _ h => h) (Or.inl ⟨by rfl, ?_⟩) (by assumption) ?_
              rotate_left
              · intro w hSw
                (try dsimp only at hSw)
                go_simp
                all_goals (with_reducible rfl)
              try simp only [Act.put, List.setIfInBounds_toArray, List.set_cons_zero, List.set_cons_succ]
              refine wpAnyH_done (by kernel_rfl) ?_ _
              clear m0 m1 m2 m3 m4 hbl
              go_wp2
              go_ret
              exact told_mk rfl HB_x28.out
            · have hy := HY.out
              obtain rfl : q = false := by rw [← hq2]; exact decide_eq_false (by omega)
              clear hq2
              subst h0
              have t1 := decide_eq_false h1
              clear h1 h24 g2 g4 hy
              have f3 := HR_x12.out.five.1.2.2.2.1
              go_wp2
              clear f3
              obtain ⟨x29, h_x29⟩ : ∃ z, x12.drew = z := ⟨_, rfl⟩
              have hbd : Below x12.heap.size x12 x29 := h_x29 ▸ (Below.refl _ _).drew
              have HR_x29 := Lib.hid (HR_x12.out.below hbd (Nat.le_refl _))
              have HB_x29 : Hid (Below w.heap.size w x29) := HB_x12.out.trans (hbd.mono HB_x12.out.size)
              have HS_x29 : Hid (Below x29.heap.size x29 x29) := Below.refl _ _
              clear hbd
              obtain ⟨⟨m0, m1, m2, m3, m4⟩, hbl⟩ := HR_x29.out.five
              refine wp_region_held_drew (S := fun z => Below x29.heap.size x29 z) (by kernel_rfl) (by show Below _ _ _; rw [h_x29]; exact Below.refl _ _) (fun hHeld => ?_)
              rw [h_x29]
              clear h_x29
              refine wpAnyH_take (i := 0) (oi := ⟨some 55, _, _, _, _, _⟩) (v := ?_) rfl (by kernel_rfl) (by kernel_rfl) (by kernel_rfl) (fun _ _ _ h => h) (Or.inl ⟨by rfl, ?_⟩) (by assumption) ?_
              rotate_left
              · intro w hSw
                (try dsimp only at hSw)
                go_simp
                all_goals (with_reducible rfl)
              try simp only [Act.put, List.setIfInBounds_toArray, List.set_cons_zero, List.set_cons_succ]
              refine wpAnyH_ready (rs := [1]) (by kernel_rfl) (by simp) (AllReadyH.cons (o := ⟨some 56, _, _, _, _, _⟩) rfl (fun K hK => ?_) AllReadyH.nil)
              go_simp
              obtain ⟨x30, h_x30⟩ : ∃ z, x29.alloc (.cells #[.int .i64 2, .int .i64 4] 3) = z := ⟨_, rfl⟩
              obtain ⟨hK_x30, hbK_x30⟩ := lit_ints x29 [2, 4] rfl h_x30
              have HR_x30 := Lib.hid (HR_x29.out.below (hbK_x30) (Nat.le_refl _))
              have HB_x30 : Hid (Below w.heap.size w x30) := HB_x29.out.trans ((hbK_x30 : Below x29.heap.size x29 x30).mono HB_x29.out.size)
              have HS_x30 : Hid (Below x29.heap.size x29 x30) := HS_x29.out.trans ((hbK_x30 : Below x29.heap.size x29 x30).mono HS_x29.out.size)
              rw [h_x30]
              have HK_x30 := Lib.hid hK_x30
              clear hK_x30 hbK_x30 h_x30
              refine hK.out _ _ (HS_x30.out) (fun hHeld => ?_)
              clear hK K
              try simp only [Act.put, List.setIfInBounds_toArray, List.set_cons_zero, List.set_cons_succ]
              refine wpAnyH_ready (rs := [2]) (by kernel_rfl) (by simp) (AllReadyH.cons (o := ⟨some 57, _, _, _, _, _⟩) rfl (fun K hK => ?_) AllReadyH.nil)
              go_simp
              refine (many_is HR_x30.out hn [2, 4] (by decide) HK_x30.out E_24.out).mono ?_
              rintro e w' ⟨rfl, rfl⟩
              refine hK.out _ _ (HS_x30.out) (fun hHeld => ?_)
              clear hK K
              try simp only [Act.put, List.setIfInBounds_toArray, List.set_cons_zero, List.set_cons_succ]
              refine wpAnyH_take (i := 3) (oi := ⟨some 58, _, _, _, _, _⟩) (v := ?_) rfl (by kernel_rfl) (by kernel_rfl) (by kernel_rfl) (fun _ _ _ h => h) (Or.inl ⟨by rfl, ?_⟩) (by assumption) ?_
              rotate_left
              · intro w hSw
                (try dsimp only at hSw)
                go_simp
                all_goals (with_reducible rfl)
              try simp only [Act.put, List.setIfInBounds_toArray, List.set_cons_zero, List.set_cons_succ]
              refine wpAnyH_take (i := 4) (oi := ⟨some 59, _, _, _, _, _⟩) (v := ?_) rfl (by kernel_rfl) (by kernel_rfl) (by kernel_rfl) (fun _ _ _ h => h) (Or.inl ⟨by rfl, ?_⟩) (by assumption) ?_
              rotate_left
              · intro w hSw
                (try dsimp only at hSw)
                go_simp
                all_goals (with_reducible rfl)
              try simp only [Act.put, List.setIfInBounds_toArray, List.set_cons_zero, List.set_cons_succ]
              refine wpAnyH_take (i := 5) (oi := ⟨some 60, _, _, _, _, _⟩) (v := ?_) rfl (by kernel_rfl) (by kernel_rfl) (by kernel_rfl) (fun _ _ _ h => h) (Or.inl ⟨by rfl, ?_⟩) (by assumption) ?_
              rotate_left
              · intro w hSw
                (try dsimp only at hSw)
                go_simp
                all_goals (with_reducible rfl)
              try simp only [Act.put, List.setIfInBounds_toArray, List.set_cons_zero, List.set_cons_succ]
              refine wpAnyH_take (i := 8) (oi := ⟨some 63, _, _, _, _, _⟩) (v := ?_) rfl (by kernel_rfl) (by kernel_rfl) (by kernel_rfl) (fun _ _ _ h => h) (Or.inl ⟨by rfl, ?_⟩) (by assumption) ?_
              rotate_left
              · intro w hSw
                (try dsimp only at hSw)
                go_simp
                all_goals (with_reducible rfl)
              try simp only [Act.put, List.setIfInBounds_toArray, List.set_cons_zero, List.set_cons_succ]
              refine wpAnyH_take (i := 9) (oi := ⟨some 64, _, _, _, _, _⟩) (v := ?_) rfl (by kernel_rfl) (by kernel_rfl) (by kernel_rfl) (fun _ _ _ h => h) (Or.inl ⟨by rfl, ?_⟩) (by assumption) ?_
              rotate_left
              · intro w hSw
                have kk := (hSw.cell (p := ⟨b, 2, none⟩) hbl).trans m2
                clear hSw
                go_simp
                all_goals (with_reducible rfl)
              try simp only [Act.put, List.setIfInBounds_toArray, List.set_cons_zero, List.set_cons_succ]
              refine wpAnyH_ready (rs := [6]) (by kernel_rfl) (by simp) (AllReadyH.cons (o := ⟨some 61, _, _, _, _, _⟩) rfl (fun K hK => ?_) AllReadyH.nil)
              go_simp
              obtain ⟨x31, h_x31⟩ : ∃ z, x30.alloc (.cells #[.int .i64 1] 3) = z := ⟨_, rfl⟩
              obtain ⟨hK_x31, hbK_x31⟩ := lit_ints x30 [1] rfl h_x31
              have HR_x31 := Lib.hid (HR_x30.out.below (hbK_x31) (Nat.le_refl _))
              have HB_x31 : Hid (Below w.heap.size w x31) := HB_x30.out.trans ((hbK_x31 : Below x30.heap.size x30 x31).mono HB_x30.out.size)
              have HS_x31 : Hid (Below x29.heap.size x29 x31) := HS_x30.out.trans ((hbK_x31 : Below x30.heap.size x30 x31).mono HS_x30.out.size)
              rw [h_x31]
              have HK_x31 := Lib.hid hK_x31
              clear hK_x31 hbK_x31 h_x31
              refine hK.out _ _ (HS_x31.out) (fun hHeld => ?_)
              clear hK K
              try simp only [Act.put, List.setIfInBounds_toArray, List.set_cons_zero, List.set_cons_succ]
              refine wpAnyH_ready (rs := [7]) (by kernel_rfl) (by simp) (AllReadyH.cons (o := ⟨some 62, _, _, _, _, _⟩) rfl (fun K hK => ?_) AllReadyH.nil)
              go_simp
              refine (many_is HR_x31.out hn [1] (by decide) HK_x31.out E_1.out).mono ?_
              rintro e w' ⟨rfl, rfl⟩
              refine hK.out _ _ (HS_x31.out) (fun hHeld => ?_)
              clear hK K
              try simp only [Act.put, List.setIfInBounds_toArray, List.set_cons_zero, List.set_cons_succ]
              refine wpAnyH_take (i := 10) (oi := ⟨some 65, _, _, _, _, _⟩) (v := ?_) rfl (by kernel_rfl) (by kernel_rfl) (by kernel_rfl) (fun _ _ _ h => h) (Or.inl ⟨by rfl, ?_⟩) (by assumption) ?_
              rotate_left
              · intro w hSw
                (try dsimp only at hSw)
                go_simp
                all_goals (with_reducible rfl)
              try simp only [Act.put, List.setIfInBounds_toArray, List.set_cons_zero, List.set_cons_succ]
              refine wpAnyH_take (i := 11) (oi := ⟨some 66, _, _, _, _, _⟩) (v := ?_) rfl (by kernel_rfl) (by kernel_rfl) (by kernel_rfl) (fun _ _ _ h => h) (Or.inl ⟨by rfl, ?_⟩) (by assumption) ?_
              rotate_left
              · intro w hSw
                (try dsimp only at hSw)
                go_simp
                all_goals (with_reducible rfl)
              try simp only [Act.put, List.setIfInBounds_toArray, List.set_cons_zero, List.set_cons_succ]
              refine wpAnyH_take (i := 12) (oi := ⟨some 2, _, _, _, _, _⟩) (v := ?_) rfl (by kernel_rfl) (by kernel_rfl) (by kernel_rfl) (fun _ _ _ h => h) (Or.inl ⟨by rfl, ?_⟩) (by assumption) ?_
              rotate_left
              · intro w hSw
                (try dsimp only at hSw)
                go_simp
                all_goals (with_reducible rfl)
              try simp only [Act.put, List.setIfInBounds_toArray, List.set_cons_zero, List.set_cons_succ]
              refine wpAnyH_done (by kernel_rfl) ?_ _
              clear m0 m1 m2 m3 m4 hbl
              go_wp2
              go_ret
              exact told_mk rfl HB_x31.out
          · have t0 : (c24 == 0) = false := by simpa using h0
            have hy := HY.out
            obtain rfl : q = false := by rw [← hq2]; exact decide_eq_false (by omega)
            clear hq2
            clear h0 h24 g2 g4 hy
            have f3 := HR_x12.out.five.1.2.2.2.1
            go_wp2
            clear f3
            obtain ⟨x32, h_x32⟩ : ∃ z, x12.drew = z := ⟨_, rfl⟩
            have hbd : Below x12.heap.size x12 x32 := h_x32 ▸ (Below.refl _ _).drew
            have HR_x32 := Lib.hid (HR_x12.out.below hbd (Nat.le_refl _))
            have HB_x32 : Hid (Below w.heap.size w x32) := HB_x12.out.trans (hbd.mono HB_x12.out.size)
            have HS_x32 : Hid (Below x32.heap.size x32 x32) := Below.refl _ _
            clear hbd
            obtain ⟨⟨m0, m1, m2, m3, m4⟩, hbl⟩ := HR_x32.out.five
            refine wp_region_held_drew (S := fun z => Below x32.heap.size x32 z) (by kernel_rfl) (by show Below _ _ _; rw [h_x32]; exact Below.refl _ _) (fun hHeld => ?_)
            rw [h_x32]
            clear h_x32
            refine wpAnyH_take (i := 0) (oi := ⟨some 55, _, _, _, _, _⟩) (v := ?_) rfl (by kernel_rfl) (by kernel_rfl) (by kernel_rfl) (fun _ _ _ h => h) (Or.inl ⟨by rfl, ?_⟩) (by assumption) ?_
            rotate_left
            · intro w hSw
              (try dsimp only at hSw)
              go_simp
              all_goals (with_reducible rfl)
            try simp only [Act.put, List.setIfInBounds_toArray, List.set_cons_zero, List.set_cons_succ]
            refine wpAnyH_ready (rs := [1]) (by kernel_rfl) (by simp) (AllReadyH.cons (o := ⟨some 56, _, _, _, _, _⟩) rfl (fun K hK => ?_) AllReadyH.nil)
            go_simp
            obtain ⟨x33, h_x33⟩ : ∃ z, x32.alloc (.cells #[.int .i64 2, .int .i64 4] 3) = z := ⟨_, rfl⟩
            obtain ⟨hK_x33, hbK_x33⟩ := lit_ints x32 [2, 4] rfl h_x33
            have HR_x33 := Lib.hid (HR_x32.out.below (hbK_x33) (Nat.le_refl _))
            have HB_x33 : Hid (Below w.heap.size w x33) := HB_x32.out.trans ((hbK_x33 : Below x32.heap.size x32 x33).mono HB_x32.out.size)
            have HS_x33 : Hid (Below x32.heap.size x32 x33) := HS_x32.out.trans ((hbK_x33 : Below x32.heap.size x32 x33).mono HS_x32.out.size)
            rw [h_x33]
            have HK_x33 := Lib.hid hK_x33
            clear hK_x33 hbK_x33 h_x33
            refine hK.out _ _ (HS_x33.out) (fun hHeld => ?_)
            clear hK K
            try simp only [Act.put, List.setIfInBounds_toArray, List.set_cons_zero, List.set_cons_succ]
            refine wpAnyH_ready (rs := [2]) (by kernel_rfl) (by simp) (AllReadyH.cons (o := ⟨some 57, _, _, _, _, _⟩) rfl (fun K hK => ?_) AllReadyH.nil)
            go_simp
            refine (many_is HR_x33.out hn [2, 4] (by decide) HK_x33.out E_24.out).mono ?_
            rintro e w' ⟨rfl, rfl⟩
            refine hK.out _ _ (HS_x33.out) (fun hHeld => ?_)
            clear hK K
            try simp only [Act.put, List.setIfInBounds_toArray, List.set_cons_zero, List.set_cons_succ]
            refine wpAnyH_take (i := 3) (oi := ⟨some 58, _, _, _, _, _⟩) (v := ?_) rfl (by kernel_rfl) (by kernel_rfl) (by kernel_rfl) (fun _ _ _ h => h) (Or.inl ⟨by rfl, ?_⟩) (by assumption) ?_
            rotate_left
            · intro w hSw
              (try dsimp only at hSw)
              go_simp
              all_goals (with_reducible rfl)
            try simp only [Act.put, List.setIfInBounds_toArray, List.set_cons_zero, List.set_cons_succ]
            refine wpAnyH_take (i := 4) (oi := ⟨some 59, _, _, _, _, _⟩) (v := ?_) rfl (by kernel_rfl) (by kernel_rfl) (by kernel_rfl) (fun _ _ _ h => h) (Or.inl ⟨by rfl, ?_⟩) (by assumption) ?_
            rotate_left
            · intro w hSw
              (try dsimp only at hSw)
              go_simp
              all_goals (with_reducible rfl)
            try simp only [Act.put, List.setIfInBounds_toArray, List.set_cons_zero, List.set_cons_succ]
            refine wpAnyH_take (i := 5) (oi := ⟨some 60, _, _, _, _, _⟩) (v := undef) rfl (by kernel_rfl) (by kernel_rfl) (by kernel_rfl) (fun _ _ _ h => h) (Or.inr ⟨by rfl, rfl⟩) (by assumption) ?_
            try simp only [Act.put, List.setIfInBounds_toArray, List.set_cons_zero, List.set_cons_succ]
            refine wpAnyH_take (i := 6) (oi := ⟨some 61, _, _, _, _, _⟩) (v := undef) rfl (by kernel_rfl) (by kernel_rfl) (by kernel_rfl) (fun _ _ _ h => h) (Or.inr ⟨by rfl, rfl⟩) (by assumption) ?_
            try simp only [Act.put, List.setIfInBounds_toArray, List.set_cons_zero, List.set_cons_succ]
            refine wpAnyH_take (i := 7) (oi := ⟨some 62, _, _, _, _, _⟩) (v := undef) rfl (by kernel_rfl) (by kernel_rfl) (by kernel_rfl) (fun _ _ _ h => h) (Or.inr ⟨by rfl, rfl⟩) (by assumption) ?_
            try simp only [Act.put, List.setIfInBounds_toArray, List.set_cons_zero, List.set_cons_succ]
            refine wpAnyH_take (i := 8) (oi := ⟨some 63, _, _, _, _, _⟩) (v := undef) rfl (by kernel_rfl) (by kernel_rfl) (by kernel_rfl) (fun _ _ _ h => h) (Or.inr ⟨by rfl, rfl⟩) (by assumption) ?_
            try simp only [Act.put, List.setIfInBounds_toArray, List.set_cons_zero, List.set_cons_succ]
            refine wpAnyH_take (i := 9) (oi := ⟨some 64, _, _, _, _, _⟩) (v := undef) rfl (by kernel_rfl) (by kernel_rfl) (by kernel_rfl) (fun _ _ _ h => h) (Or.inr ⟨by rfl, rfl⟩) (by assumption) ?_
            try simp only [Act.put, List.setIfInBounds_toArray, List.set_cons_zero, List.set_cons_succ]
            refine wpAnyH_take (i := 10) (oi := ⟨some 65, _, _, _, _, _⟩) (v := undef) rfl (by kernel_rfl) (by kernel_rfl) (by kernel_rfl) (fun _ _ _ h => h) (Or.inr ⟨by rfl, rfl⟩) (by assumption) ?_
            try simp only [Act.put, List.setIfInBounds_toArray, List.set_cons_zero, List.set_cons_succ]
            refine wpAnyH_take (i := 11) (oi := ⟨some 66, _, _, _, _, _⟩) (v := ?_) rfl (by kernel_rfl) (by kernel_rfl) (by kernel_rfl) (fun _ _ _ h => h) (Or.inl ⟨by rfl, ?_⟩) (by assumption) ?_
            rotate_left
            · intro w hSw
              (try dsimp only at hSw)
              go_simp
              all_goals (with_reducible rfl)
            try simp only [Act.put, List.setIfInBounds_toArray, List.set_cons_zero, List.set_cons_succ]
            refine wpAnyH_take (i := 12) (oi := ⟨some 2, _, _, _, _, _⟩) (v := ?_) rfl (by kernel_rfl) (by kernel_rfl) (by kernel_rfl) (fun _ _ _ h => h) (Or.inl ⟨by rfl, ?_⟩) (by assumption) ?_
            rotate_left
            · intro w hSw
              (try dsimp only at hSw)
              go_simp
              all_goals (with_reducible rfl)
            try simp only [Act.put, List.setIfInBounds_toArray, List.set_cons_zero, List.set_cons_succ]
            refine wpAnyH_done (by kernel_rfl) ?_ _
            clear m0 m1 m2 m3 m4 hbl
            go_wp2
            go_ret
            exact told_mk rfl HB_x33.out
        · by_cases hp3 : ph = 3
          · subst hp3
            by_cases h0 : c4 = 0
            · by_cases h1 : c2 < n
              · have hy := HY.out
                obtain rfl : q = true := by rw [← hq2]; exact decide_eq_true (by omega)
                clear hq2
                subst h0
                have t1 := decide_eq_true h1
                clear h1 h24 g2 g4 hy
                have f3 := HR_x12.out.five.1.2.2.2.1
                go_wp2_with fail
                obtain ⟨x34, h_x34⟩ : ∃ z, x12.alloc (.cells #[.int .i64 4] 3) = z := ⟨_, rfl⟩
                obtain ⟨hK_x34, hbK_x34⟩ := lit_ints x12 [4] rfl h_x34
                have HR_x34 := Lib.hid (HR_x12.out.below (hbK_x34) (Nat.le_refl _))
                have HB_x34 : Hid (Below w.heap.size w x34) := HB_x12.out.trans ((hbK_x34 : Below x12.heap.size x12 x34).mono HB_x12.out.size)
                rw [h_x34]
                have HK_x34 := Lib.hid hK_x34
                clear hK_x34 hbK_x34 h_x34
                refine (many_is HR_x34.out hn [4] (by decide) HK_x34.out E_4.out).mono ?_
                rintro e w' ⟨rfl, rfl⟩
                clear f3
                go_wp2_with fail
                obtain ⟨x35, h_x35⟩ : ∃ z, x34.alloc (.cells #[.int .i64 2] 3) = z := ⟨_, rfl⟩
                obtain ⟨hK_x35, hbK_x35⟩ := lit_ints x34 [2] rfl h_x35
                have HR_x35 := Lib.hid (HR_x34.out.below (hbK_x35) (Nat.le_refl _))
                have HB_x35 : Hid (Below w.heap.size w x35) := HB_x34.out.trans ((hbK_x35 : Below x34.heap.size x34 x35).mono HB_x34.out.size)
                rw [h_x35]
                have HK_x35 := Lib.hid hK_x35
                clear hK_x35 hbK_x35 h_x35
                refine (many_is HR_x35.out hn [2] (by decide) HK_x35.out E_2.out).mono ?_
                rintro e w' ⟨rfl, rfl⟩
                go_wp2
                go_ret
                exact told_mk rfl HB_x35.out
              · have hy := HY.out
                obtain rfl : q = false := by rw [← hq2]; exact decide_eq_false (by omega)
                clear hq2
                subst h0
                have t1 := decide_eq_false h1
                clear h1 h24 g2 g4 hy
                have f3 := HR_x12.out.five.1.2.2.2.1
                go_wp2_with fail
                obtain ⟨x36, h_x36⟩ : ∃ z, x12.alloc (.cells #[.int .i64 4] 3) = z := ⟨_, rfl⟩
                obtain ⟨hK_x36, hbK_x36⟩ := lit_ints x12 [4] rfl h_x36
                have HR_x36 := Lib.hid (HR_x12.out.below (hbK_x36) (Nat.le_refl _))
                have HB_x36 : Hid (Below w.heap.size w x36) := HB_x12.out.trans ((hbK_x36 : Below x12.heap.size x12 x36).mono HB_x12.out.size)
                rw [h_x36]
                have HK_x36 := Lib.hid hK_x36
                clear hK_x36 hbK_x36 h_x36
                refine (many_is HR_x36.out hn [4] (by decide) HK_x36.out E_4.out).mono ?_
                rintro e w' ⟨rfl, rfl⟩
                clear f3
                go_wp2_with fail
                obtain ⟨x37, h_x37⟩ : ∃ z, x36.alloc (.cells #[.int .i64 2] 3) = z := ⟨_, rfl⟩
                obtain ⟨hK_x37, hbK_x37⟩ := lit_ints x36 [2] rfl h_x37
                have HR_x37 := Lib.hid (HR_x36.out.below (hbK_x37) (Nat.le_refl _))
                have HB_x37 : Hid (Below w.heap.size w x37) := HB_x36.out.trans ((hbK_x37 : Below x36.heap.size x36 x37).mono HB_x36.out.size)
                rw [h_x37]
                have HK_x37 := Lib.hid hK_x37
                clear hK_x37 hbK_x37 h_x37
                refine (many_is HR_x37.out hn [2] (by decide) HK_x37.out E_2.out).mono ?_
                rintro e w' ⟨rfl, rfl⟩
                go_wp2
                go_ret
                exact told_mk rfl HB_x37.out
            · have t0 : (c4 == 0) = false := by simpa using h0
              have hy := HY.out
              obtain rfl : q = false := by rw [← hq2]; exact decide_eq_false (by omega)
              clear hq2
              clear h0 h24 g2 g4 hy
              have f3 := HR_x12.out.five.1.2.2.2.1
              go_wp2_with fail
              obtain ⟨x38, h_x38⟩ : ∃ z, x12.alloc (.cells #[.int .i64 4] 3) = z := ⟨_, rfl⟩
              obtain ⟨hK_x38, hbK_x38⟩ := lit_ints x12 [4] rfl h_x38
              have HR_x38 := Lib.hid (HR_x12.out.below (hbK_x38) (Nat.le_refl _))
              have HB_x38 : Hid (Below w.heap.size w x38) := HB_x12.out.trans ((hbK_x38 : Below x12.heap.size x12 x38).mono HB_x12.out.size)
              rw [h_x38]
              have HK_x38 := Lib.hid hK_x38
              clear hK_x38 hbK_x38 h_x38
              refine (many_is HR_x38.out hn [4] (by decide) HK_x38.out E_4.out).mono ?_
              rintro e w' ⟨rfl, rfl⟩
              clear f3
              go_wp2
              go_ret
              exact told_mk rfl HB_x38.out
          · by_cases hp4 : ph = 4
            · subst hp4
              by_cases h0 : c2 = n
              · have hy := HY.out
                obtain rfl : q = true := by rw [← hq2]; exact decide_eq_true (by omega)
                clear hq2
                subst h0
                clear h24 g2 g4 hy
                have f3 := HR_x12.out.five.1.2.2.2.1
                go_wp2_with fail
                obtain ⟨x39, h_x39⟩ : ∃ z, x12.alloc (.cells #[.int .i64 2] 3) = z := ⟨_, rfl⟩
                obtain ⟨hK_x39, hbK_x39⟩ := lit_ints x12 [2] rfl h_x39
                have HR_x39 := Lib.hid (HR_x12.out.below (hbK_x39) (Nat.le_refl _))
                have HB_x39 : Hid (Below w.heap.size w x39) := HB_x12.out.trans ((hbK_x39 : Below x12.heap.size x12 x39).mono HB_x12.out.size)
                rw [h_x39]
                have HK_x39 := Lib.hid hK_x39
                clear hK_x39 hbK_x39 h_x39
                refine (many_is HR_x39.out hn [2] (by decide) HK_x39.out E_2.out).mono ?_
                rintro e w' ⟨rfl, rfl⟩
                clear f3
                go_wp2
                go_ret
                exact told_mk rfl HB_x39.out
              · have t0 : (c2 == (n : Int)) = false := by simpa using h0
                have hy := HY.out
                obtain rfl : q = false := by rw [← hq2]; exact decide_eq_false (by omega)
                clear hq2
                clear h0 h24 g2 g4 hy
                have f3 := HR_x12.out.five.1.2.2.2.1
                go_wp2_with fail
                obtain ⟨x40, h_x40⟩ : ∃ z, x12.alloc (.cells #[.int .i64 2] 3) = z := ⟨_, rfl⟩
                obtain ⟨hK_x40, hbK_x40⟩ := lit_ints x12 [2] rfl h_x40
                have HR_x40 := Lib.hid (HR_x12.out.below (hbK_x40) (Nat.le_refl _))
                have HB_x40 : Hid (Below w.heap.size w x40) := HB_x12.out.trans ((hbK_x40 : Below x12.heap.size x12 x40).mono HB_x12.out.size)
                rw [h_x40]
                have HK_x40 := Lib.hid hK_x40
                clear hK_x40 hbK_x40 h_x40
                refine (many_is HR_x40.out hn [2] (by decide) HK_x40.out E_2.out).mono ?_
                rintro e w' ⟨rfl, rfl⟩
                clear f3
                go_wp2
                go_ret
                exact told_mk rfl HB_x40.out
            · by_cases hp5 : ph = 5
              · subst hp5
                by_cases h0 : c2 = 0
                · by_cases h1 : c4 < n
                  · have hy := HY.out
                    obtain rfl : q = true := by rw [← hq2]; exact decide_eq_true (by omega)
                    clear hq2
                    subst h0
                    have t1 := decide_eq_true h1
                    clear h1 h24 g2 g4 hy
                    have f3 := HR_x12.out.five.1.2.2.2.1
                    go_wp2_with fail
                    obtain ⟨x41, h_x41⟩ : ∃ z, x12.alloc (.cells #[.int .i64 2] 3) = z := ⟨_, rfl⟩
                    obtain ⟨hK_x41, hbK_x41⟩ := lit_ints x12 [2] rfl h_x41
                    have HR_x41 := Lib.hid (HR_x12.out.below (hbK_x41) (Nat.le_refl _))
                    have HB_x41 : Hid (Below w.heap.size w x41) := HB_x12.out.trans ((hbK_x41 : Below x12.heap.size x12 x41).mono HB_x12.out.size)
                    rw [h_x41]
                    have HK_x41 := Lib.hid hK_x41
                    clear hK_x41 hbK_x41 h_x41
                    refine (many_is HR_x41.out hn [2] (by decide) HK_x41.out E_2.out).mono ?_
                    rintro e w' ⟨rfl, rfl⟩
                    clear f3
                    go_wp2_with fail
                    obtain ⟨x42, h_x42⟩ : ∃ z, x41.alloc (.cells #[.int .i64 4] 3) = z := ⟨_, rfl⟩
                    obtain ⟨hK_x42, hbK_x42⟩ := lit_ints x41 [4] rfl h_x42
                    have HR_x42 := Lib.hid (HR_x41.out.below (hbK_x42) (Nat.le_refl _))
                    have HB_x42 : Hid (Below w.heap.size w x42) := HB_x41.out.trans ((hbK_x42 : Below x41.heap.size x41 x42).mono HB_x41.out.size)
                    rw [h_x42]
                    have HK_x42 := Lib.hid hK_x42
                    clear hK_x42 hbK_x42 h_x42
                    refine (many_is HR_x42.out hn [4] (by decide) HK_x42.out E_4.out).mono ?_
                    rintro e w' ⟨rfl, rfl⟩
                    go_wp2
                    go_ret
                    exact told_mk rfl HB_x42.out
                  · have hy := HY.out
                    obtain rfl : q = false := by rw [← hq2]; exact decide_eq_false (by omega)
                    clear hq2
                    subst h0
                    have t1 := decide_eq_false h1
                    clear h1 h24 g2 g4 hy
                    have f3 := HR_x12.out.five.1.2.2.2.1
                    go_wp2_with fail
                    obtain ⟨x43, h_x43⟩ : ∃ z, x12.alloc (.cells #[.int .i64 2] 3) = z := ⟨_, rfl⟩
                    obtain ⟨hK_x43, hbK_x43⟩ := lit_ints x12 [2] rfl h_x43
                    have HR_x43 := Lib.hid (HR_x12.out.below (hbK_x43) (Nat.le_refl _))
                    have HB_x43 : Hid (Below w.heap.size w x43) := HB_x12.out.trans ((hbK_x43 : Below x12.heap.size x12 x43).mono HB_x12.out.size)
                    rw [h_x43]
                    have HK_x43 := Lib.hid hK_x43
                    clear hK_x43 hbK_x43 h_x43
                    refine (many_is HR_x43.out hn [2] (by decide) HK_x43.out E_2.out).mono ?_
                    rintro e w' ⟨rfl, rfl⟩
                    clear f3
                    go_wp2_with fail
                    obtain ⟨x44, h_x44⟩ : ∃ z, x43.alloc (.cells #[.int .i64 4] 3) = z := ⟨_, rfl⟩
                    obtain ⟨hK_x44, hbK_x44⟩ := lit_ints x43 [4] rfl h_x44
                    have HR_x44 := Lib.hid (HR_x43.out.below (hbK_x44) (Nat.le_refl _))
                    have HB_x44 : Hid (Below w.heap.size w x44) := HB_x43.out.trans ((hbK_x44 : Below x43.heap.size x43 x44).mono HB_x43.out.size)
                    rw [h_x44]
                    have HK_x44 := Lib.hid hK_x44
                    clear hK_x44 hbK_x44 h_x44
                    refine (many_is HR_x44.out hn [4] (by decide) HK_x44.out E_4.out).mono ?_
                    rintro e w' ⟨rfl, rfl⟩
                    go_wp2
                    go_ret
                    exact told_mk rfl HB_x44.out
                · have t0 : (c2 == 0) = false := by simpa using h0
                  have hy := HY.out
                  obtain rfl : q = false := by rw [← hq2]; exact decide_eq_false (by omega)
                  clear hq2
                  clear h0 h24 g2 g4 hy
                  have f3 := HR_x12.out.five.1.2.2.2.1
                  go_wp2_with fail
                  obtain ⟨x45, h_x45⟩ : ∃ z, x12.alloc (.cells #[.int .i64 2] 3) = z := ⟨_, rfl⟩
                  obtain ⟨hK_x45, hbK_x45⟩ := lit_ints x12 [2] rfl h_x45
                  have HR_x45 := Lib.hid (HR_x12.out.below (hbK_x45) (Nat.le_refl _))
                  have HB_x45 : Hid (Below w.heap.size w x45) := HB_x12.out.trans ((hbK_x45 : Below x12.heap.size x12 x45).mono HB_x12.out.size)
                  rw [h_x45]
                  have HK_x45 := Lib.hid hK_x45
                  clear hK_x45 hbK_x45 h_x45
                  refine (many_is HR_x45.out hn [2] (by decide) HK_x45.out E_2.out).mono ?_
                  rintro e w' ⟨rfl, rfl⟩
                  clear f3
                  go_wp2
                  go_ret
                  exact told_mk rfl HB_x45.out
              · by_cases hp6 : ph = 6
                · subst hp6
                  by_cases h0 : c4 = n
                  · have hy := HY.out
                    obtain rfl : q = true := by rw [← hq2]; exact decide_eq_true (by omega)
                    clear hq2
                    subst h0
                    clear h24 g2 g4 hy
                    have f3 := HR_x12.out.five.1.2.2.2.1
                    go_wp2_with fail
                    obtain ⟨x46, h_x46⟩ : ∃ z, x12.alloc (.cells #[.int .i64 4] 3) = z := ⟨_, rfl⟩
                    obtain ⟨hK_x46, hbK_x46⟩ := lit_ints x12 [4] rfl h_x46
                    have HR_x46 := Lib.hid (HR_x12.out.below (hbK_x46) (Nat.le_refl _))
                    have HB_x46 : Hid (Below w.heap.size w x46) := HB_x12.out.trans ((hbK_x46 : Below x12.heap.size x12 x46).mono HB_x12.out.size)
                    rw [h_x46]
                    have HK_x46 := Lib.hid hK_x46
                    clear hK_x46 hbK_x46 h_x46
                    refine (many_is HR_x46.out hn [4] (by decide) HK_x46.out E_4.out).mono ?_
                    rintro e w' ⟨rfl, rfl⟩
                    clear f3
                    go_wp2
                    go_ret
                    exact told_mk rfl HB_x46.out
                  · have t0 : (c4 == (n : Int)) = false := by simpa using h0
                    have hy := HY.out
                    obtain rfl : q = false := by rw [← hq2]; exact decide_eq_false (by omega)
                    clear hq2
                    clear h0 h24 g2 g4 hy
                    have f3 := HR_x12.out.five.1.2.2.2.1
                    go_wp2_with fail
                    obtain ⟨x47, h_x47⟩ : ∃ z, x12.alloc (.cells #[.int .i64 4] 3) = z := ⟨_, rfl⟩
                    obtain ⟨hK_x47, hbK_x47⟩ := lit_ints x12 [4] rfl h_x47
                    have HR_x47 := Lib.hid (HR_x12.out.below (hbK_x47) (Nat.le_refl _))
                    have HB_x47 : Hid (Below w.heap.size w x47) := HB_x12.out.trans ((hbK_x47 : Below x12.heap.size x12 x47).mono HB_x12.out.size)
                    rw [h_x47]
                    have HK_x47 := Lib.hid hK_x47
                    clear hK_x47 hbK_x47 h_x47
                    refine (many_is HR_x47.out hn [4] (by decide) HK_x47.out E_4.out).mono ?_
                    rintro e w' ⟨rfl, rfl⟩
                    clear f3
                    go_wp2
                    go_ret
                    exact told_mk rfl HB_x47.out
                · have hy := HY.out
                  obtain rfl : q = false := by rw [← hq2]; exact decide_eq_false (by omega)
                  clear hq2
                  have d1 : (ph == 1) = false := by simpa using hp1
                  have d2 : (ph == 2) = false := by simpa using hp2
                  have d3 : (ph == 3) = false := by simpa using hp3
                  have d4 : (ph == 4) = false := by simpa using hp4
                  have d5 : (ph == 5) = false := by simpa using hp5
                  have d6 : (ph == 6) = false := by simpa using hp6
                  clear hp1 hp2 hp3 hp4 hp5 hp6 h24 g2 g4 hy
                  have f3 := HR_x12.out.five.1.2.2.2.1
                  go_wp2
                  go_ret
                  exact told_mk rfl HB_x12.out
    · have hnk : (k0 == (n : Int)) = false := by simpa using hk
      obtain rfl : q = false := by rw [← hq]; exact decide_eq_false (fun h => hk (by rw [← hln, ← e0]; exact (cntIn_marks ms).2 h.2.1))
      clear hq e0 hk
      go_wp2_with fail
      obtain ⟨x11, h_x11⟩ : ∃ z, w2.alloc (.cells #[.int .i64 0, .int .i64 1, .int .i64 2, .int .i64 3, .int .i64 4] 3) = z := ⟨_, rfl⟩
      obtain ⟨hK_x11, hbK_x11⟩ := lit_ints w2 [0, 1, 2, 3, 4] rfl h_x11
      have HR_x11 := Lib.hid (HR_w2.out.below (hbK_x11) (Nat.le_refl _))
      have HB_x11 : Hid (Below w.heap.size w x11) := HB_w2.out.trans ((hbK_x11 : Below w2.heap.size w2 x11).mono HB_w2.out.size)
      rw [h_x11]
      have HK_x11 := Lib.hid hK_x11
      clear hK_x11 hbK_x11 h_x11
      refine (many_is HR_x11.out hn [0, 1, 2, 3, 4] (by decide) HK_x11.out E_01234.out).mono ?_
      rintro e w' ⟨rfl, rfl⟩
      go_wp2
      go_ret
      exact told_mk rfl HB_x11.out
  · have hm := Lib.hid (decide_eq_false hmay)
    obtain rfl : q = false := by rw [← hq]; exact decide_eq_false (fun h => hmay (hln ▸ h.1))
    clear hq hmay
    go_wp2_with fail
    refine (may_q _ s v n need hm.out).mono ?_
    rintro e w' ⟨rfl, rfl⟩
    go_wp2
    go_ret
    exact told_mk rfl HB_w2.out
end
end Go.Proofs.Ytciihebaameccaa
